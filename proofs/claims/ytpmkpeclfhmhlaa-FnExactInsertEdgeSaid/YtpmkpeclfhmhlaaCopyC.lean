/- The program's copies once more: what is their capacity. -/
import Derived.Test.YtpmkpeclfhmhlaaCopyI
namespace Go.Proofs.Ytpmkpeclfhmhlaa
set_option maxRecDepth 100000
open Go.ChangeShapes Go.WideShapes Go.ChangeAt Go.RowKit
set_option linter.unusedVariables false
set_option linter.unusedSimpArgs false

def GrfCOut (w : World) (g : Grf) (e : Ending) (w' : World) : Prop := ∃ v, e = .returned v ∧ OwnG w.heap.size w'.heap.size w' v g ∧ (∃ a ao, v = .agg #[a, .slice ao g.es.length g.es.length]) ∧ Since w w'
def CopCOut (w : World) (xs : List Edg) (e : Ending) (w' : World) : Prop := ∃ v, e = .returned v ∧ OwnE w.heap.size w' v xs ∧ (∃ ao, v = .slice ao xs.length xs.length) ∧ Since w w'
set_option maxRecDepth 100000 in
theorem copiedC_any (v : Value) (xs : List Edg) (w : World) (h : EdgesAt w v xs) (hl : xs.length ≤ 1048577) :
    Calls Try.prog 80 #[v] w (CopCOut w xs) := by
  have HA := Lib.hid h
  obtain ⟨ao, ac, rfl, _⟩ := h.row
  clear h
  obtain ⟨i0, hi, hz0, hz1, hz2⟩ := info_parts info_edge
  have HZ2 := Lib.hid hz2
  clear hz2
  obtain ⟨n, hn⟩ : ∃ n, n = xs.length := ⟨_, rfl⟩
  rw [← hn] at HA
  rw [← hn]
  have hn9 : n ≤ 1048577 := by omega
  have HN := Lib.hid hn
  clear hn hl
  go_enter Try.func80, Try.ntmps80
  go_wp2_with (first
    | (at_make; go_must (refine wpList_make_full _ rfl _ _ 28 rfl w.heap.size 38 i0 (ev zeroE) 4 Try.underlying28 hi hz0 hz1 .i64 .i64 _ _ n rfl rfl rfl rfl (by rw [HZ2.out]; omega) (by unfold maxLen; omega) (Nat.le_refl _) ?_); intro w1 hown hgrow)
    | (refine wpList_copyE (o := ⟨some 9, _, _, _, _, _⟩) rfl (.tmp 7) (.tmp 8) rfl w.heap.size w.heap.size n n _ rfl hown ao n ac rfl xs (HA.out.since ((Since.refl w).grown hgrow (fun _ h => by simp at h))) HN.out.symm ?_; intro w2 ho2 hg2))
  have hsin : Since w w1 := (Since.refl w).grown hgrow (fun _ h => by simp at h)
  have hs2 := hsin.grown hg2 (fun k hk => by injection hk with hk; omega)
  have HO2 := Lib.hid ho2
  clear ho2 hg2 hown hgrow
  go_wp2
  go_ret
  exact ⟨.slice (some ⟨w.heap.size, 0, none⟩) n n, rfl, HO2.out, ⟨some ⟨w.heap.size, 0, none⟩, by rw [← HN.out]⟩, hs2⟩

set_option maxHeartbeats 1000000 in
set_option maxRecDepth 100000 in
theorem copyGraphC_any (v : Value) (g : Grf) (w : World) (h : GrfAt w v g) (h1 : g.vs.length ≤ 1048577) (h2 : g.es.length ≤ 1048577) :
    Calls Try.prog 60 #[v] w (GrfCOut w g) := by
  obtain ⟨a, b, rfl, ha, hb⟩ := h
  have HA := Lib.hid ha
  have HB := Lib.hid hb
  obtain ⟨ao, ac, rfl, _⟩ := ha.row
  obtain ⟨bo, bc, rfl⟩ := hb.len
  clear ha hb
  obtain ⟨n, hn⟩ : ∃ n, n = g.vs.length := ⟨_, rfl⟩
  obtain ⟨m, hm⟩ : ∃ m, m = g.es.length := ⟨_, rfl⟩
  rw [← hn] at HA
  rw [← hm] at HB
  rw [← hn, ← hm]
  clear hn hm
  have hs0 : Since w ((w.alloc (.cells #[.slice ao n ac, .slice bo m bc] 30)).alloc (.cells #[.slice none 0 0, .slice none 0 0] 30)) := ((Since.refl w).alloc _).alloc _
  have b0 : Hid (Blk ((w.alloc (.cells #[.slice ao n ac, .slice bo m bc] 30)).alloc (.cells #[.slice none 0 0, .slice none 0 0] 30)) w.heap.size 30 #[.slice ao n ac, .slice bo m bc]) := (Blk.new rfl _ _).alloc _
  have r0 : Hid (Blk ((w.alloc (.cells #[.slice ao n ac, .slice bo m bc] 30)).alloc (.cells #[.slice none 0 0, .slice none 0 0] 30)) (w.heap.size + 1) 30 #[.slice none 0 0, .slice none 0 0]) := Blk.new (by simp) _ _
  have hz : Hid (((w.alloc (.cells #[.slice ao n ac, .slice bo m bc] 30)).alloc (.cells #[.slice none 0 0, .slice none 0 0] 30)).heap.size = w.heap.size + 2) := by unfold Hid; simp
  go_enter Try.func60, Try.ntmps60
  go_wp2_with fail
  generalize ((w.alloc (.cells #[.slice ao n ac, .slice bo m bc] 30)).alloc (.cells #[.slice none 0 0, .slice none 0 0] 30)) = WR at hs0 b0 r0 hz ⊢
  have HKC : Hid (∀ w', Since WR w' → w'.cell? ⟨w.heap.size, 0, none⟩ = some (.slice ao n ac) ∧ w'.cell? ⟨w.heap.size, 1, none⟩ = some (.slice bo m bc)) := by
    intro w' hs
    obtain ⟨x0, x1, _, _⟩ := (b0.out.since hs).two
    exact ⟨x0, x1⟩
  refine wp_region_held_drew (S := (fun w' => w'.cell? ⟨w.heap.size, 0, none⟩ = some (.slice ao n ac) ∧ w'.cell? ⟨w.heap.size, 1, none⟩ = some (.slice bo m bc))) (by kernel_rfl) (HKC.out _ (Since.refl _).drew) (fun hHeld => ?_)
  refine take_yes 0 (some 3) (v := ?_) rfl (by kernel_rfl) (by kernel_rfl) (by kernel_rfl) (by kernel_rfl) (fun _ _ _ h => h) (by rfl) (by assumption) ?_ ?_
  rotate_left
  · (intro w' hSw; (try dsimp only at hSw); go_simp; try with_reducible rfl)
  try simp only [Act.put, List.setIfInBounds_toArray, List.set_cons_zero, List.set_cons_succ]
  refine take_yes 1 (some 4) (v := ?_) rfl (by kernel_rfl) (by kernel_rfl) (by kernel_rfl) (by kernel_rfl) (fun _ _ _ h => h) (by rfl) (by assumption) ?_ ?_
  rotate_left
  · (intro w' hSw; (try dsimp only at hSw); go_simp; try with_reducible rfl)
  try simp only [Act.put, List.setIfInBounds_toArray, List.set_cons_zero, List.set_cons_succ]
  refine take_yes 3 (some 6) (v := ?_) rfl (by kernel_rfl) (by kernel_rfl) (by kernel_rfl) (by kernel_rfl) (fun _ _ _ h => h) (by rfl) (by assumption) ?_ ?_
  rotate_left
  · (intro w' hSw; (try dsimp only at hSw); go_simp; try with_reducible rfl)
  try simp only [Act.put, List.setIfInBounds_toArray, List.set_cons_zero, List.set_cons_succ]
  refine take_yes 4 (some 7) (v := ?_) rfl (by kernel_rfl) (by kernel_rfl) (by kernel_rfl) (by kernel_rfl) (fun _ _ _ h => h) (by rfl) (by assumption) ?_ ?_
  rotate_left
  · (intro w' hSw; (try dsimp only at hSw); go_simp; try with_reducible rfl)
  try simp only [Act.put, List.setIfInBounds_toArray, List.set_cons_zero, List.set_cons_succ]
  refine take_run 2 rfl (by kernel_rfl) (by rfl) (fun K hK => ?_)
  go_simp
  refine (copiedI_any _ g.vs _ (HA.out.since hs0.drew) h1).mono ?_
  rintro e w1 ⟨v1, rfl, ho1, hs1⟩
  obtain ⟨o1, c1, rfl⟩ := ho1.len
  have hc1 := Since.of_drew hs1
  refine hK.out _ _ (HKC.out _ hc1) (fun hHeld1 => ?_)
  clear hK K hHeld
  try simp only [Act.put, List.setIfInBounds_toArray, List.set_cons_zero, List.set_cons_succ]
  refine take_run 5 rfl (by kernel_rfl) (by rfl) (fun K hK => ?_)
  go_simp
  refine (copiedC_any _ g.es _ (HB.out.since (hs0.trans hc1)) h2).mono ?_
  rintro e w2 ⟨v2, rfl, ho2, ⟨o2, rfl⟩, hs2⟩
  have hc2 := hc1.trans hs2
  refine hK.out _ _ (HKC.out _ hc2) (fun hHeld2 => ?_)
  clear hK K hHeld1
  try simp only [Act.put, List.setIfInBounds_toArray, List.set_cons_zero, List.set_cons_succ]
  refine take_yes 6 (some 9) (v := ?_) rfl (by kernel_rfl) (by kernel_rfl) (by kernel_rfl) (by kernel_rfl) (fun _ _ _ h => h) (by rfl) (by assumption) ?_ ?_
  rotate_left
  · (intro w' hSw; (try dsimp only at hSw); go_simp; try with_reducible rfl)
  try simp only [Act.put, List.setIfInBounds_toArray, List.set_cons_zero, List.set_cons_succ]
  refine take_run 7 rfl (by kernel_rfl) (by rfl) (fun K hK => ?_)
  obtain ⟨z0, z1, z2, z3⟩ := (r0.out.since hc2).two
  go_simp
  clear z0 z1 z2 z3
  refine hK.out _ _ ?_ (fun hHeldz => ?_)
  · exact ⟨((((b0.out.since hc2).far (p := ⟨w.heap.size + 1, 0, none⟩) (by simp) _).far (p := ⟨w.heap.size + 1, 1, none⟩) (by simp) _).two).1, ((((b0.out.since hc2).far (p := ⟨w.heap.size + 1, 0, none⟩) (by simp) _).far (p := ⟨w.heap.size + 1, 1, none⟩) (by simp) _).two).2.1⟩
  clear hK K hHeld2
  try simp only [Act.put, List.setIfInBounds_toArray, List.set_cons_zero, List.set_cons_succ]
  refine wpAnyH_done (by kernel_rfl) ?_ _
  clear hHeldz
  obtain ⟨y0, y1, _, _⟩ := (((r0.out.since hc2).set 0 (.slice o1 g.vs.length c1)).set 1 (.slice o2 g.es.length g.es.length)).two
  go_wp2_with fail
  refine bodyPost_ret (v := .agg #[.slice o1 g.vs.length c1, .slice o2 g.es.length g.es.length]) (by simp [results, Try.results60, go_sem, *]) rfl ?_
  have hza : w.heap.size + 2 ≤ WR.heap.size := by have := hz.out; omega
  have hzb : WR.heap.size ≤ w1.heap.size := by have := hs1.size; simpa using this
  exact ⟨_, rfl, OwnG.mk ((((ho1.since hs2).far (by simp; omega) _).far (by simp; omega) _).mono (by simp; omega)) (((ho2.far (by simp; omega) _).far (by simp; omega) _).mono (by omega)), ⟨_, _, rfl⟩, (((hs0.trans hc2).setCell (by simp) _).setCell (by simp) _)⟩
end Go.Proofs.Ytpmkpeclfhmhlaa
