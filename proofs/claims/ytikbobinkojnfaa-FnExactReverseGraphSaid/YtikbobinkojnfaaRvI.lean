/- ReverseGraph, the program's. -/
import Derived.Test.YtikbobinkojnfaaCopyI
import Derived.Test.YtikbobinkojnfaaRvS
import Derived.Test.YtikbobinkojnfaaGB
import Derived.RegionTactic
import Derived.BigRegion
namespace Go.Proofs.Ytikbobinkojnfaa
open Go.ChangeShapes Go.WideShapes Go.ChangeAt Go.RowKit
set_option linter.unusedVariables false
set_option linter.unusedSimpArgs false

theorem set_same {l : List Value} {i : Nat} {x : Value} (h : l[i]? = some x) : l.set i x = l := by
  apply List.ext_getElem?
  intro j
  rw [List.getElem?_set]
  by_cases e : i = j
  · subst e
    obtain ⟨hl, hx⟩ := List.getElem?_eq_some_iff.1 h
    simp [hl, hx]
  · simp [e]
/-- The two ends of edge k exchanged. -/
theorem ecells_rev {xs : List Edg} {k : Nat} (h : k < xs.length) :
    ((ecells xs).set (k * 4 + 1) (.int .i64 (xs[k]).to)).set (k * 4 + 2) (.int .i64 (xs[k]).fr) = ecells (xs.set k (revE xs[k])) := by
  rw [← ecells_set xs k h (revE xs[k])]
  have h0 : (ecells xs)[k * 4]? = some (.int .i64 (xs[k]).id) := by have := ecells_at xs k 0 h (by omega); rw [Nat.add_zero] at this; exact this
  have h3 : (ecells xs)[k * 4 + 3]? = some (.int .i64 (xs[k]).lb) := ecells_at xs k 3 h (by omega)
  show _ = ((((ecells xs).set (k * 4) (.int .i64 (xs[k]).id)).set (k * 4 + 1) (.int .i64 (xs[k]).to)).set (k * 4 + 2) (.int .i64 (xs[k]).fr)).set (k * 4 + 3) (.int .i64 (xs[k]).lb)
  rw [set_same h0]
  rw [set_same (l := ((ecells xs).set (k * 4 + 1) _).set (k * 4 + 2) _) (i := k * 4 + 3)]
  rw [List.getElem?_set_ne (by omega), List.getElem?_set_ne (by omega)]
  exact h3
/-- The first k edges reversed. -/
def revTo (xs : List Edg) (k : Nat) : List Edg := (xs.take k).map revE ++ xs.drop k
theorem revTo_zero (xs : List Edg) : revTo xs 0 = xs := by simp [revTo]
theorem revTo_all (xs : List Edg) : revTo xs xs.length = xs.map revE := by simp [revTo]
theorem revTo_length (xs : List Edg) (k : Nat) (h : k ≤ xs.length) : (revTo xs k).length = xs.length := by simp [revTo]; omega
theorem revTo_at (xs : List Edg) (k : Nat) (h : k < xs.length) (hl : k < (revTo xs k).length) : (revTo xs k)[k]'hl = xs[k] := by
  have e : (revTo xs k)[k]? = some xs[k] := by
    unfold revTo
    rw [List.getElem?_append_right (by simp; omega), List.length_map, List.length_take, Nat.min_eq_left (Nat.le_of_lt h), Nat.sub_self, List.getElem?_drop]
    simp [h]
  rw [List.getElem?_eq_getElem hl] at e
  injection e
theorem revTo_set (xs : List Edg) (k : Nat) (h : k < xs.length) : (revTo xs k).set k (revE xs[k]) = revTo xs (k + 1) := by
  unfold revTo
  rw [List.set_append_right _ _ (by simp; omega), List.length_map, List.length_take, Nat.min_eq_left (Nat.le_of_lt h), Nat.sub_self, List.drop_eq_getElem_cons h, List.set_cons_zero, map_snocE revE h, List.append_assoc]; rfl

theorem grown_drew {a b : World} {row : Option Nat} (h : a.grownBy b row) : a.grownBy b.drew row := ⟨h.os, h.tape, h.output, h.size, h.block⟩
set_option maxHeartbeats 1000000 in
set_option maxRecDepth 100000 in
theorem implRV_any (v : Value) (g : Grf) (w : World) (h : GrfAt w v g) (h1 : g.vs.length ≤ 1048577) (h2 : g.es.length ≤ 1048577) :
    Calls Try.prog 27 #[v] w (GrfOut w (revG g)) := by
  have HG := Lib.hid h
  obtain ⟨a, b, rfl, ha, hb⟩ := h
  have HB := Lib.hid hb
  obtain ⟨ao, ac, rfl, _⟩ := ha.row
  obtain ⟨bo, bc, rfl, HE⟩ := hb.row
  clear ha hb
  obtain ⟨n, hn⟩ : ∃ n, n = g.vs.length := ⟨_, rfl⟩
  obtain ⟨m, hm⟩ : ∃ m, m = g.es.length := ⟨_, rfl⟩
  rw [← hm] at HB
  rw [← hn, ← hm] at HG ⊢
  have hm9 : m ≤ 1048577 := by omega
  have HM := Lib.hid hm
  clear hn hm
  have hs0 : Since w ((w.alloc (.cells #[.slice ao n ac, .slice bo m bc] 30)).alloc (.cells #[.slice none 0 0, .slice none 0 0] 30)) := ((Since.refl w).alloc _).alloc _
  have b0 : Hid (Blk ((w.alloc (.cells #[.slice ao n ac, .slice bo m bc] 30)).alloc (.cells #[.slice none 0 0, .slice none 0 0] 30)) w.heap.size 30 #[.slice ao n ac, .slice bo m bc]) := (Blk.new rfl _ _).alloc _
  have r0 : Hid (Blk ((w.alloc (.cells #[.slice ao n ac, .slice bo m bc] 30)).alloc (.cells #[.slice none 0 0, .slice none 0 0] 30)) (w.heap.size + 1) 30 #[.slice none 0 0, .slice none 0 0]) := Blk.new (by simp) _ _
  have hz : Hid (w.heap.size + 2 = ((w.alloc (.cells #[.slice ao n ac, .slice bo m bc] 30)).alloc (.cells #[.slice none 0 0, .slice none 0 0] 30)).heap.size) := by unfold Hid; simp
  go_enter Try.func27, Try.ntmps27
  go_wp2_with fail
  generalize ((w.alloc (.cells #[.slice ao n ac, .slice bo m bc] 30)).alloc (.cells #[.slice none 0 0, .slice none 0 0] 30)) = WR at hs0 b0 r0 hz ⊢
  have hzz : w.heap.size + 2 ≤ WR.heap.size := by have := hz.out; omega
  refine (copyGraph_any _ g _ (HG.out.since hs0) h1 h2).mono ?_
  rintro e w1 ⟨v1, rfl, ho1, hs1⟩
  obtain ⟨xa, xb, rfl, ka, ra, kb, rb⟩ := ho1
  obtain ⟨o1, c1, rfl⟩ := ka.len
  obtain ⟨o2, c2, rfl⟩ := kb.len
  have hkm := HM.out
  rw [← hkm] at ⊢
  have z1 := hs1.size
  have b1 := Lib.hid ((b0.out.since hs1).alloc (.cells #[.slice o1 g.vs.length c1, .slice o2 m c2] 30))
  have r1 := Lib.hid ((r0.out.since hs1).alloc (.cells #[.slice o1 g.vs.length c1, .slice o2 m c2] 30))
  have X1 : Hid (Blk (w1.alloc (.cells #[.slice o1 g.vs.length c1, .slice o2 m c2] 30)) w1.heap.size 30 #[.slice o1 g.vs.length c1, .slice o2 m c2]) := Blk.new rfl _ _
  rw [← hkm] at kb rb
  have KA := Lib.hid (ka.since ((Since.refl w1).alloc (.cells #[.slice o1 g.vs.length c1, .slice o2 m c2] 30)))
  have KB : Hid ((w1.alloc (.cells #[.slice o1 g.vs.length c1, .slice o2 m c2] 30)).ownsRow WR.heap.size 40 4 (.slice o2 m c2) m (ecells (revTo g.es 0))) := by
    rw [revTo_zero]; have := kb.2.alloc (.cells #[.slice o1 g.vs.length c1, .slice o2 m c2] 30); rw [← hkm] at this; exact this
  have hs01 := (hs0.trans hs1).alloc (.cells #[.slice o1 g.vs.length c1, .slice o2 m c2] 30)
  have zy : Hid (w1.heap.size + 1 = (w1.alloc (.cells #[.slice o1 g.vs.length c1, .slice o2 m c2] 30)).heap.size) := by unfold Hid; simp
  have RA := Lib.hid ra
  have RB := Lib.hid rb
  clear ka kb ra rb b0 r0 hs0 hs1 hkm
  obtain ⟨p0, p1, _, _⟩ := b1.out.two
  go_wp2_with fail
  clear p0 p1
  generalize (w1.alloc (.cells #[.slice o1 g.vs.length c1, .slice o2 m c2] 30)) = y1 at b1 r1 X1 KA KB hs01 zy ⊢
  have hzy : w1.heap.size + 1 ≤ y1.heap.size := by have := zy.out; omega
  go_loopw [11] (fun i wr => ∃ k : Nat, k ≤ m ∧ i = .int .i64 k ∧ Hid (wr.ownsRow WR.heap.size 40 4 (.slice o2 m c2) m (ecells (revTo g.es k))) ∧ Hid (y1.grownBy wr (Value.slice o2 m c2).ownBlock)) (fun i _ => m - (intOf i).toNat)
  case atStart => exact ⟨0, Nat.zero_le _, rfl, KB, World.grownBy.refl _ _⟩
  case round =>
    obtain ⟨k, hk, rfl, HK, HW⟩ := hrel
    have b2 := Lib.hid (b1.out.grown HW.out (fun e => by have := RB.out _ e.symm; omega))
    have x2 := Lib.hid (X1.out.grown HW.out (fun e => by have := RB.out _ e.symm; omega))
    have zr := HW.out.size
    have hsw := Lib.hid (hs01.grown HW.out (fun j hj => by have := RB.out j hj; omega))
    by_cases hlt : k < m
    · have hx : k < g.es.length := by have := HM.out; omega
      obtain ⟨gb, cap, e1, e2⟩ := own_block HK.out (by omega)
      have hrg := RB.out gb (by rw [e1]; rfl)
      injection e1 with e1 _ e3
      subst e1; subst e3
      obtain ⟨be, oe, rfl, hbe, d0, d1, d2, d3⟩ := HE.out k hx
      have s1 := since_cells hsw.out hbe
      rw [← s1] at d0 d1 d2 d3
      clear s1
      have hml : (revTo g.es k).length = g.es.length := revTo_length g.es k (by omega)
      have hmj : k < (revTo g.es k).length := by omega
      obtain ⟨e, he⟩ : ∃ e : Edg, e = g.es[k] := ⟨_, rfl⟩
      have HK2 := Lib.hid (rowKept HK.out ((Since.refl wr).alloc (.cells #[.int .i64 e.id, .int .i64 e.fr, .int .i64 e.to, .int .i64 e.lb] 40)))
      obtain ⟨t0, t1, t2, t3⟩ := ownE_cells HK2.out (by rw [hml]; exact HM.out) k hmj
      have hat := revTo_at g.es k hx hmj
      have hst := (HK2.out.stored (k * 4 + 1) (.int .i64 (g.es[k]).to)).1.stored (k * 4 + 2) (.int .i64 (g.es[k]).fr)
      have hgr := grow_tr (HK2.out.stored (k * 4 + 1) (.int .i64 (g.es[k]).to)).2 hst.2
      have hset : ((ecells (revTo g.es k)).set (k * 4 + 1) (.int .i64 (g.es[k]).to)).set (k * 4 + 2) (.int .i64 (g.es[k]).fr) = ecells (revTo g.es (k + 1)) := by
        have := ecells_rev hmj
        rw [hat, revTo_set g.es k hx] at this
        exact this
      rw [hset] at hst
      rw [hat] at t0 t1 t2 t3
      have f1 := HK2.out.frozenAt (k * 4 + 1)
      have f2 := HK2.out.frozenAt (k * 4 + 2)
      rw [← he] at d0 d1 d2 d3 t0 t1 t2 t3 hst hgr
      have HST := Lib.hid hst.1
      have HGR := Lib.hid (grow_tr (World.grownBy_alloc wr (.cells #[.int .i64 e.id, .int .i64 e.fr, .int .i64 e.to, .int .i64 e.lb] 40) (some gb)) hgr)
      have x3 := Lib.hid (x2.out.alloc (.cells #[.int .i64 e.id, .int .i64 e.fr, .int .i64 e.to, .int .i64 e.lb] 40))
      have y3 : Hid (Blk (wr.alloc (.cells #[.int .i64 e.id, .int .i64 e.fr, .int .i64 e.to, .int .i64 e.lb] 40)) wr.heap.size 40 #[.int .i64 e.id, .int .i64 e.fr, .int .i64 e.to, .int .i64 e.lb]) := Blk.new rfl _ _
      clear hst hgr hset hat hmj hml he e2
      obtain ⟨q0, q1, _, _⟩ := x3.out.two
      have hgw : gb < wr.heap.size := by omega
      have hk0 : (0 : Int) ≤ (k : Int) := by omega
      have hkm2 : (k : Int) < (m : Int) := by omega
      go_wp2_with fail
      generalize hy2 : (wr.alloc (.cells #[.int .i64 e.id, .int .i64 e.fr, .int .i64 e.to, .int .i64 e.lb] 40)) = y2 at HK2 t0 t1 t2 t3 f1 f2 HST HGR x3 y3 q0 q1 ⊢
      clear hy2
      obtain ⟨s0, s1, s2, s3, _⟩ := y3.out.four
      refine wp_region_held_drew (S := (fun w' => w'.cell? ⟨w1.heap.size, 0, none⟩ = some (.slice o1 g.vs.length c1) ∧ w'.cell? ⟨w1.heap.size, 1, none⟩ = some (.slice (some ⟨gb, 0, none⟩) m c2) ∧ w'.cell? ⟨wr.heap.size, 1, none⟩ = some (.int .i64 e.fr) ∧ w'.cell? ⟨wr.heap.size, 2, none⟩ = some (.int .i64 e.to))) (by kernel_rfl) ⟨q0, q1, s1, s2⟩ (fun hHeld => ?_)
      refine take_yes 0 (some 16) (v := ?_) rfl (by kernel_rfl) (by kernel_rfl) (by kernel_rfl) (by kernel_rfl) (fun _ _ _ h => h) (by rfl) (by assumption) ?_ ?_
      rotate_left
      · (intro w' hSw; (try dsimp only at hSw); go_simp; try with_reducible rfl)
      try simp only [Act.put, List.setIfInBounds_toArray, List.set_cons_zero, List.set_cons_succ]
      refine take_yes 1 (some 17) (v := ?_) rfl (by kernel_rfl) (by kernel_rfl) (by kernel_rfl) (by kernel_rfl) (fun _ _ _ h => h) (by rfl) (by assumption) ?_ ?_
      rotate_left
      · (intro w' hSw; (try dsimp only at hSw); go_simp; try with_reducible rfl)
      try simp only [Act.put, List.setIfInBounds_toArray, List.set_cons_zero, List.set_cons_succ]
      refine take_yes 2 (some 18) (v := ?_) rfl (by kernel_rfl) (by kernel_rfl) (by kernel_rfl) (by kernel_rfl) (fun _ _ _ h => h) (by rfl) (by assumption) ?_ ?_
      rotate_left
      · (intro w' hSw; (try dsimp only at hSw); go_simp; try with_reducible rfl)
      try simp only [Act.put, List.setIfInBounds_toArray, List.set_cons_zero, List.set_cons_succ]
      refine take_yes 3 (some 19) (v := ?_) rfl (by kernel_rfl) (by kernel_rfl) (by kernel_rfl) (by kernel_rfl) (fun _ _ _ h => h) (by rfl) (by assumption) ?_ ?_
      rotate_left
      · (intro w' hSw; (try dsimp only at hSw); go_simp; try with_reducible rfl)
      try simp only [Act.put, List.setIfInBounds_toArray, List.set_cons_zero, List.set_cons_succ]
      refine take_yes 4 (some 20) (v := ?_) rfl (by kernel_rfl) (by kernel_rfl) (by kernel_rfl) (by kernel_rfl) (fun _ _ _ h => h) (by rfl) (by assumption) ?_ ?_
      rotate_left
      · (intro w' hSw; (try dsimp only at hSw); go_simp; try with_reducible rfl)
      try simp only [Act.put, List.setIfInBounds_toArray, List.set_cons_zero, List.set_cons_succ]
      refine take_yes 5 (some 21) (v := ?_) rfl (by kernel_rfl) (by kernel_rfl) (by kernel_rfl) (by kernel_rfl) (fun _ _ _ h => h) (by rfl) (by assumption) ?_ ?_
      rotate_left
      · (intro w' hSw; (try dsimp only at hSw); go_simp; try with_reducible rfl)
      try simp only [Act.put, List.setIfInBounds_toArray, List.set_cons_zero, List.set_cons_succ]
      refine take_yes 6 (some 22) (v := ?_) rfl (by kernel_rfl) (by kernel_rfl) (by kernel_rfl) (by kernel_rfl) (fun _ _ _ h => h) (by rfl) (by assumption) ?_ ?_
      rotate_left
      · (intro w' hSw; (try dsimp only at hSw); go_simp; try with_reducible rfl)
      try simp only [Act.put, List.setIfInBounds_toArray, List.set_cons_zero, List.set_cons_succ]
      refine take_yes 7 (some 23) (v := ?_) rfl (by kernel_rfl) (by kernel_rfl) (by kernel_rfl) (by kernel_rfl) (fun _ _ _ h => h) (by rfl) (by assumption) ?_ ?_
      rotate_left
      · (intro w' hSw; (try dsimp only at hSw); go_simp; try with_reducible rfl)
      try simp only [Act.put, List.setIfInBounds_toArray, List.set_cons_zero, List.set_cons_succ]
      refine take_yes 8 (some 24) (v := ?_) rfl (by kernel_rfl) (by kernel_rfl) (by kernel_rfl) (by kernel_rfl) (fun _ _ _ h => h) (by rfl) (by assumption) ?_ ?_
      rotate_left
      · (intro w' hSw; (try dsimp only at hSw); go_simp; try with_reducible rfl)
      try simp only [Act.put, List.setIfInBounds_toArray, List.set_cons_zero, List.set_cons_succ]
      refine take_yes 9 (some 25) (v := ?_) rfl (by kernel_rfl) (by kernel_rfl) (by kernel_rfl) (by kernel_rfl) (fun _ _ _ h => h) (by rfl) (by assumption) ?_ ?_
      rotate_left
      · (intro w' hSw; (try dsimp only at hSw); go_simp; try with_reducible rfl)
      try simp only [Act.put, List.setIfInBounds_toArray, List.set_cons_zero, List.set_cons_succ]
      refine take_yes 10 (some 26) (v := ?_) rfl (by kernel_rfl) (by kernel_rfl) (by kernel_rfl) (by kernel_rfl) (fun _ _ _ h => h) (by rfl) (by assumption) ?_ ?_
      rotate_left
      · (intro w' hSw; (try dsimp only at hSw); go_simp; try with_reducible rfl)
      try simp only [Act.put, List.setIfInBounds_toArray, List.set_cons_zero, List.set_cons_succ]
      refine take_yes 11 (some 27) (v := ?_) rfl (by kernel_rfl) (by kernel_rfl) (by kernel_rfl) (by kernel_rfl) (fun _ _ _ h => h) (by rfl) (by assumption) ?_ ?_
      rotate_left
      · (intro w' hSw; (try dsimp only at hSw); go_simp; try with_reducible rfl)
      try simp only [Act.put, List.setIfInBounds_toArray, List.set_cons_zero, List.set_cons_succ]
      refine take_run 12 rfl (by kernel_rfl) (by rfl) (fun K hK => ?_)
      go_simp
      have X4 := Lib.hid (x3.out.far (p := ⟨gb, k * 4 + 1, none⟩) (by simp; omega) (.int .i64 e.to))
      have Y4 := Lib.hid (y3.out.far (p := ⟨gb, k * 4 + 1, none⟩) (by simp; omega) (.int .i64 e.to))
      obtain ⟨m0, m1, _, _⟩ := X4.out.two
      obtain ⟨_, n1, n2, _, _⟩ := Y4.out.four
      refine hK.out _ _ ⟨m0, m1, n1, n2⟩ (fun hHeld2 => ?_)
      clear hK K hHeld m0 m1 n1 n2
      try simp only [Act.put, List.setIfInBounds_toArray, List.set_cons_zero, List.set_cons_succ]
      refine take_yes 13 (some 28) (v := ?_) rfl (by kernel_rfl) (by kernel_rfl) (by kernel_rfl) (by kernel_rfl) (fun _ _ _ h => h) (by rfl) (by assumption) ?_ ?_
      rotate_left
      · (intro w' hSw; (try dsimp only at hSw); go_simp; try with_reducible rfl)
      try simp only [Act.put, List.setIfInBounds_toArray, List.set_cons_zero, List.set_cons_succ]
      refine take_yes 14 (some 29) (v := ?_) rfl (by kernel_rfl) (by kernel_rfl) (by kernel_rfl) (by kernel_rfl) (fun _ _ _ h => h) (by rfl) (by assumption) ?_ ?_
      rotate_left
      · (intro w' hSw; (try dsimp only at hSw); go_simp; try with_reducible rfl)
      try simp only [Act.put, List.setIfInBounds_toArray, List.set_cons_zero, List.set_cons_succ]
      refine take_run 15 rfl (by kernel_rfl) (by rfl) (fun K hK => ?_)
      go_simp
      have X5 := Lib.hid (X4.out.far (p := ⟨gb, k * 4 + 2, none⟩) (by simp; omega) (.int .i64 e.fr))
      have Y5 := Lib.hid (Y4.out.far (p := ⟨gb, k * 4 + 2, none⟩) (by simp; omega) (.int .i64 e.fr))
      obtain ⟨m0, m1, _, _⟩ := X5.out.two
      obtain ⟨_, n1, n2, _, _⟩ := Y5.out.four
      refine hK.out _ _ ⟨m0, m1, n1, n2⟩ (fun hHeld3 => ?_)
      clear hK K hHeld2 m0 m1 n1 n2
      try simp only [Act.put, List.setIfInBounds_toArray, List.set_cons_zero, List.set_cons_succ]
      refine wpAnyH_done (by kernel_rfl) ?_ _
      clear hHeld3 s0 s1 s2 s3 q0 q1 t0 t1 t2 t3 f1 f2
      go_wp2
      go_roundw
      case rel => exact ⟨k + 1, by omega, by go_num, HST.out, grown_drew (grow_tr HW.out HGR.out)⟩
      case measure => simp [intOf]; omega
    · obtain rfl : k = m := by omega
      have HOE : Hid (OwnE WR.heap.size wr (.slice o2 k c2) (g.es.map revE)) := by
        refine ⟨fun x hx => ?_, ?_⟩
        · obtain ⟨y, hy, rfl⟩ := List.mem_map.1 hx
          exact revE_in (HB.out.1 y hy)
        · have := HK.out
          rw [HM.out, revTo_all] at this
          rw [List.length_map, HM.out]; exact this
      have HKB : OwnE WR.heap.size y1 (.slice o2 k c2) g.es := ⟨HB.out.1, by have := KB.out; rw [revTo_zero] at this; rw [← HM.out]; exact this⟩
      have HOA := Lib.hid (KA.out.grownX HW.out (own_apart KA.out HKB))
      have RX := Lib.hid (r1.out.grown HW.out (fun e => by have := RB.out _ e.symm; omega))
      clear HKB
      obtain ⟨q0, q1, _, _⟩ := x2.out.two
      obtain ⟨y0, y1', y2, y3⟩ := RX.out.two
      go_wp2
      refine bodyPost_ret (v := .agg #[.slice o1 g.vs.length c1, .slice o2 k c2]) (by simp [results, Try.results27, go_sem, *]) rfl ?_
      refine grfOut_mk (g := revG g) (((HOA.out.far (by simp; omega) _).far (by simp; omega) _).mono (by omega)) (((HOE.out.far (by simp; omega) _).far (by simp; omega) _).mono (by omega)) ?_
      exact (hsw.out.setCell (by simp) _).setCell (by simp) _
end Go.Proofs.Ytikbobinkojnfaa
