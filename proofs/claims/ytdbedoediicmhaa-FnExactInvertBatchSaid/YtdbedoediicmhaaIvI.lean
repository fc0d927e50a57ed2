/- The program's InvertBatch. -/
import Derived.Test.YtdbedoediicmhaaChA
namespace Go.Proofs.Ytdbedoediicmhaa
set_option maxRecDepth 100000
open Go.ChangeShapes Go.WideShapes Go.ChangeAt Go.RowKit
set_option linter.unusedVariables false
set_option linter.unusedSimpArgs false

def flipC (rr : List Chg) (k : Nat) : List Chg := (rr.take k).map turnC ++ rr.drop k
theorem flipC_zero (rr : List Chg) : flipC rr 0 = rr := by simp [flipC]
theorem flipC_len (rr : List Chg) (k : Nat) : (flipC rr k).length = rr.length := by simp [flipC]; omega
theorem flipC_get (rr : List Chg) (k : Nat) (h : k < rr.length) : (flipC rr k)[k]'(by rw [flipC_len]; exact h) = rr[k] := by
  unfold flipC
  rw [List.getElem_append_right (by simp; omega), List.getElem_drop]
  congr 1; simp; omega
theorem flipC_set (rr : List Chg) (k : Nat) (h : k < rr.length) : (flipC rr k).set k (turnC rr[k]) = flipC rr (k + 1) := by
  unfold flipC
  rw [List.set_append, if_neg (by simp; omega), List.take_succ_eq_append_getElem h, List.map_append, List.drop_eq_getElem_cons h]
  have : k - ((rr.take k).map turnC).length = 0 := by simp; omega
  rw [this, List.set_cons_zero, List.append_assoc]; rfl
theorem flipC_all (cs : List Chg) : flipC cs.reverse cs.reverse.length = invB cs := by
  unfold flipC invB
  rw [List.take_of_length_le (Nat.le_refl _), List.drop_of_length_le (Nat.le_refl _), List.append_nil, List.map_reverse]
theorem flipC_in {rr : List Chg} (h : ∀ x ∈ rr, x.ed.In) (k : Nat) : ∀ x ∈ flipC rr k, x.ed.In := by
  intro x hx
  unfold flipC at hx
  rcases List.mem_append.1 hx with hx | hx
  · obtain ⟨z, hz, rfl⟩ := List.mem_map.1 hx
    exact h z (List.mem_of_mem_take hz)
  · exact h x (List.mem_of_mem_drop hx)
set_option maxHeartbeats 2000000 in
set_option maxRecDepth 100000 in
theorem implIV_any (v : Value) (x : List Chg) (w : World) (h : BchAt w v x) (h1 : x.length ≤ 1048577) :
    Calls Try.prog 23 #[v] w (BOut w (invB x)) := by
  obtain ⟨b, rfl, hb⟩ := h
  have HB := Lib.hid hb
  have HXI : Hid (∀ z ∈ x.reverse, z.ed.In) := fun z hz => hb.1 z (List.mem_reverse.1 hz)
  obtain ⟨_, bo, bc, rfl, _⟩ := hb
  obtain ⟨y, hy⟩ : ∃ y, y = (w.alloc (.cells #[.slice bo x.length bc] 39)).alloc (.cells #[.slice none 0 0] 39) := ⟨_, rfl⟩
  have hs0 : Since w y := by rw [hy]; exact ((Since.refl w).alloc _).alloc _
  have hz : w.heap.size + 1 + 1 = y.heap.size := by rw [hy]; simp
  have BR : Hid (Blk y (w.heap.size + 1) 39 #[.slice none 0 0]) := by rw [hy]; exact Blk.new (by simp) _ _
  obtain ⟨n, hn⟩ : ∃ n, n = x.length := ⟨_, rfl⟩
  have hn9 : n ≤ 1048577 := by omega
  have HN := Lib.hid hn
  have HRL : Hid (n = x.reverse.length) := by unfold Hid; rw [List.length_reverse]; exact hn
  have HFA := Lib.hid (flipC_all x)
  go_enter Try.func23, Try.ntmps23
  go_wp2_with fail
  rw [← hy]
  clear hy hn
  refine (copiedC_any _ x _ (HB.out.since hs0) h1).mono ?_
  rintro en w2 ⟨gb, rfl, ho2, hs2⟩
  have HO2 := Lib.hid ho2
  have hgb : y.heap.size ≤ gb := (HO2.out.2.lt gb rfl).1
  have hgb2 : gb < w2.heap.size := (HO2.out.2.lt gb rfl).2
  rw [← HN.out] at HO2 ⊢
  clear ho2
  obtain ⟨y2, hy2⟩ : ∃ y2, y2 = w2.alloc (.cells #[.slice (some ⟨gb, 0, none⟩) n n] 39) := ⟨_, rfl⟩
  have hs2y : Since w2 y2 := by rw [hy2]; exact (Since.refl w2).alloc _
  have BX2 : Hid (Blk y2 w2.heap.size 39 #[.slice (some ⟨gb, 0, none⟩) n n]) := by rw [hy2]; exact Blk.new rfl _ _
  have HO2y := Lib.hid (HO2.out.since hs2y)
  have hs02 := hs2.trans hs2y
  have hzb : w2.heap.size + 1 = y2.heap.size := by rw [hy2]; simp
  go_wp2_with fail
  rw [← hy2]
  clear hy2 HO2
  refine (reverseC_any y.heap.size gb n n x _ HN.out HO2y.out hn9).mono ?_
  rintro en w3 ⟨rfl, ho3, hg3⟩
  have hs3 : Since y w3 := hs02.grown hg3 (fun k hk => by injection hk with hk; omega)
  have HO3 := Lib.hid ho3
  have BX3 := Lib.hid (BX2.out.grwC hg3 (fun e => by injection e with e; omega))
  have hne : w2.heap.size ≠ gb := by omega
  clear ho3 hg3 HO2y BX2 hs02 hs2y
  obtain ⟨p0, _⟩ := BX3.out.one
  go_wp2_with fail
  clear p0
  go_loopw [16] (fun i wr => ∃ k : Nat, k ≤ n ∧ i = .int .i64 k ∧ Hid (OwnC y.heap.size wr (.slice (some ⟨gb, 0, none⟩) n n) (flipC x.reverse k)) ∧ Hid (Blk wr w2.heap.size 39 #[.slice (some ⟨gb, 0, none⟩) n n]) ∧ Since y wr) (fun i _ => n - (intOf i).toNat)
  case atStart => exact ⟨0, Nat.zero_le _, rfl, by rw [flipC_zero]; exact HO3.out, BX3.out, hs3⟩
  case round =>
    obtain ⟨k, hk, rfl, HOw, HBX, hsw⟩ := hrel
    have HFL : Hid (n = (flipC x.reverse k).length) := by unfold Hid; rw [flipC_len]; exact HRL.out
    by_cases hlt : k < n
    · have hx : k < x.reverse.length := by have := HRL.out; omega
      have hxf : k < (flipC x.reverse k).length := by have := HFL.out; omega
      have hown := HOw.out.row HFL.out
      obtain ⟨d0, d1, d2, d3, d4⟩ := ownC_cells hown HFL.out k hxf
      rw [flipC_get _ _ hx] at d0 d1 d2 d3 d4
      have HSET := Lib.hid (flipC_set x.reverse k hx)
      have HIN := Lib.hid (flipC_in HXI.out (k + 1))
      have kk0 : (0 : Int) ≤ (k : Int) := by omega
      have kk1 : (k : Int) < (n : Int) := by omega
      clear hown
      generalize x.reverse[k] = c at d0 d1 d2 d3 d4 HSET
      obtain ⟨CB, hCB⟩ : ∃ CB, CB = wr.heap.size := ⟨_, rfl⟩
      have hnc : CB ≠ gb := by have := (HOw.out.2.lt gb rfl).2; omega
      obtain ⟨y5, hy5⟩ : ∃ y5, y5 = wr.alloc (.cells #[.bool c.ins, .int .i64 c.ed.id, .int .i64 c.ed.fr, .int .i64 (Edg.to c.ed), .int .i64 c.ed.lb] 64) := ⟨_, rfl⟩
      have hs5 : Since wr y5 := by rw [hy5]; exact (Since.refl wr).alloc _
      have BC : Hid (Blk y5 CB 64 #[.bool c.ins, .int .i64 c.ed.id, .int .i64 c.ed.fr, .int .i64 (Edg.to c.ed), .int .i64 c.ed.lb]) := by rw [hy5]; exact Blk.new hCB _ _
      have HKC : Hid (∀ w', Since y5 w' → w'.cell? ⟨w2.heap.size, 0, none⟩ = some (.slice (some ⟨gb, 0, none⟩) n n) ∧ (w'.cell? ⟨CB, 0, none⟩ = some (.bool c.ins) ∧ w'.cell? ⟨CB, 1, none⟩ = some (.int .i64 c.ed.id) ∧ w'.cell? ⟨CB, 2, none⟩ = some (.int .i64 c.ed.fr) ∧ w'.cell? ⟨CB, 3, none⟩ = some (.int .i64 (Edg.to c.ed)) ∧ w'.cell? ⟨CB, 4, none⟩ = some (.int .i64 c.ed.lb))) := by
        intro w' hs
        obtain ⟨q0, _⟩ := ((HBX.out.since hs5).since hs).one
        exact ⟨q0, (BC.out.since hs).fiveC.1⟩
      go_wp2_with fail
      rw [← hy5, ← hCB]
      clear hy5 hCB d0 d1 d2 d3 d4
      refine wp_region_held_drew (S := (fun w' => w'.cell? ⟨w2.heap.size, 0, none⟩ = some (.slice (some ⟨gb, 0, none⟩) n n) ∧ (w'.cell? ⟨CB, 0, none⟩ = some (.bool c.ins) ∧ w'.cell? ⟨CB, 1, none⟩ = some (.int .i64 c.ed.id) ∧ w'.cell? ⟨CB, 2, none⟩ = some (.int .i64 c.ed.fr) ∧ w'.cell? ⟨CB, 3, none⟩ = some (.int .i64 (Edg.to c.ed)) ∧ w'.cell? ⟨CB, 4, none⟩ = some (.int .i64 c.ed.lb)))) (by kernel_rfl) (HKC.out _ (Since.refl _).drew) (fun hHeld => ?_)
      refine take_yes 0 (some 21) (v := ?_) rfl (by kernel_rfl) (by kernel_rfl) (by kernel_rfl) (by kernel_rfl) (fun _ _ _ h => h) (by rfl) (by assumption) ?_ ?_
      rotate_left
      · (intro w' hSw; (try dsimp only at hSw); go_simp; try with_reducible rfl)
      try simp only [Act.put, List.setIfInBounds_toArray, List.set_cons_zero, List.set_cons_succ]
      refine take_yes 1 (some 22) (v := ?_) rfl (by kernel_rfl) (by kernel_rfl) (by kernel_rfl) (by kernel_rfl) (fun _ _ _ h => h) (by rfl) (by assumption) ?_ ?_
      rotate_left
      · (intro w' hSw; (try dsimp only at hSw); go_simp; try with_reducible rfl)
      try simp only [Act.put, List.setIfInBounds_toArray, List.set_cons_zero, List.set_cons_succ]
      refine take_yes 2 (some 23) (v := ?_) rfl (by kernel_rfl) (by kernel_rfl) (by kernel_rfl) (by kernel_rfl) (fun _ _ _ h => h) (by rfl) (by assumption) ?_ ?_
      rotate_left
      · (intro w' hSw; (try dsimp only at hSw); go_simp; try with_reducible rfl)
      try simp only [Act.put, List.setIfInBounds_toArray, List.set_cons_zero, List.set_cons_succ]
      refine take_yes 3 (some 24) (v := ?_) rfl (by kernel_rfl) (by kernel_rfl) (by kernel_rfl) (by kernel_rfl) (fun _ _ _ h => h) (by rfl) (by assumption) ?_ ?_
      rotate_left
      · (intro w' hSw; (try dsimp only at hSw); go_simp; try with_reducible rfl)
      try simp only [Act.put, List.setIfInBounds_toArray, List.set_cons_zero, List.set_cons_succ]
      refine take_run 4 rfl (by kernel_rfl) (by rfl) (fun K hK => ?_)
      go_simp
      refine (inverse_any c _).mono ?_
      rintro en w6 ⟨rfl, hs6⟩
      have hc6 := (Since.refl y5).drew.trans hs6
      dsimp only [turnC]
      refine hK.out _ _ (HKC.out _ (hc6)) (fun hHeld1 => ?_)
      clear hK K hHeld
      try simp only [Act.put, List.setIfInBounds_toArray, List.set_cons_zero, List.set_cons_succ]
      refine take_yes 5 (some 26) (v := ?_) rfl (by kernel_rfl) (by kernel_rfl) (by kernel_rfl) (by kernel_rfl) (fun _ _ _ h => h) (by rfl) (by assumption) ?_ ?_
      rotate_left
      · (intro w' hSw; (try dsimp only at hSw); go_simp; try with_reducible rfl)
      try simp only [Act.put, List.setIfInBounds_toArray, List.set_cons_zero, List.set_cons_succ]
      refine take_run 6 rfl (by kernel_rfl) (by rfl) (fun K hK => ?_)
      have hown6 := (HOw.out.since (hs5.trans hc6)).row HFL.out
      obtain ⟨d0, d1, d2, d3, d4⟩ := ownC_cells hown6 HFL.out k hxf
      have f0 := hown6.frozenAt (k * 5)
      have f1 := hown6.frozenAt (k * 5 + 1)
      have f2 := hown6.frozenAt (k * 5 + 2)
      have f3 := hown6.frozenAt (k * 5 + 3)
      have f4 := hown6.frozenAt (k * 5 + 4)
      have hst := row_setC hown6 k hxf (turnC c)
      rw [HSET.out] at hst
      have HST : Hid (OwnC y.heap.size _ (.slice (some ⟨gb, 0, none⟩) n n) (flipC x.reverse (k + 1))) := OwnC.ofRow HIN.out hst (by rw [flipC_len]; exact HRL.out)
      unfold turnC at HST
      dsimp only at HST
      have BX6 := Lib.hid ((HBX.out.since (hs5.trans hc6)))
      have hsw6 := hsw.trans (hs5.trans hc6)
      clear hst hown6
      go_simp
      clear d0 d1 d2 d3 d4 f0 f1 f2 f3 f4
      obtain ⟨wz, hwz⟩ : ∃ W, W = (((((w6.setCell ⟨gb, k * 5, none⟩ (.bool (!c.ins))).setCell ⟨gb, k * 5 + 1, none⟩ (.int .i64 c.ed.id)).setCell ⟨gb, k * 5 + 2, none⟩ (.int .i64 c.ed.fr)).setCell ⟨gb, k * 5 + 3, none⟩ (.int .i64 (Edg.to c.ed))).setCell ⟨gb, k * 5 + 4, none⟩ (.int .i64 c.ed.lb)) := ⟨_, rfl⟩
      rw [← hwz] at HST ⊢
      have BX7 : Hid (Blk wz w2.heap.size 39 #[.slice (some ⟨gb, 0, none⟩) n n]) := by
        rw [hwz]; exact ((((BX6.out.far hne _).far hne _).far hne _).far hne _).far hne _
      have BC7 : Hid (Blk wz CB 64 #[.bool c.ins, .int .i64 c.ed.id, .int .i64 c.ed.fr, .int .i64 (Edg.to c.ed), .int .i64 c.ed.lb]) := by
        rw [hwz]; exact (((((BC.out.since hc6).far hnc _).far hnc _).far hnc _).far hnc _).far hnc _
      have hsw7 : Since y wz := by
        rw [hwz]; exact ((((hsw6.setCell hgb _).setCell hgb _).setCell hgb _).setCell hgb _).setCell hgb _
      clear hwz
      refine hK.out _ _ ⟨BX7.out.one.1, BC7.out.fiveC.1⟩ (fun hHeld2 => ?_)
      clear hK K hHeld1
      try simp only [Act.put, List.setIfInBounds_toArray, List.set_cons_zero, List.set_cons_succ]
      refine wpAnyH_done (by kernel_rfl) ?_ _
      clear hHeld2 hc6 hs6 BX6 hsw6 HKC
      go_wp2
      go_roundw
      case rel => exact ⟨k + 1, by omega, by go_num, HST.out, BX7.out, hsw7⟩
      case measure => simp [intOf]; omega
    · obtain rfl : k = n := by omega
      have HO : Hid (OwnC y.heap.size wr (.slice (some ⟨gb, 0, none⟩) k k) (invB x)) := by
        have := HOw.out
        rw [HRL.out, HFA.out, ← HRL.out] at this
        exact this
      have HIL : Hid (k = (invB x).length) := by unfold Hid; rw [invB_len]; exact HN.out
      obtain ⟨q0, _⟩ := HBX.out.one
      obtain ⟨r0, r1⟩ := (BR.out.since hsw).one
      have hs0w := hs0.trans hsw
      clear HOw
      go_wp2_with fail
      refine bodyPost_ret (v := .agg #[.slice (some ⟨gb, 0, none⟩) k k]) (by simp [results, Try.results23, go_sem, *]) rfl ?_
      have HOZ := (HO.out.far (p := ⟨w.heap.size + 1, 0, none⟩) (by simp; omega) (.slice (some ⟨gb, 0, none⟩) k k)).mono (by omega : w.heap.size ≤ y.heap.size)
      exact ⟨_, rfl, OwnB.mk HOZ, hs0w.setCell (by simp) _⟩
end Go.Proofs.Ytdbedoediicmhaa
