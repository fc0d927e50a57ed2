/- The machine of positions. -/
import Derived.Test.YtcokggjekleabaaDtI
import Derived.Laws.EntriesVeiled
namespace Go.Proofs.Ytcokggjekleabaa
set_option maxRecDepth 100000
open Go.ChangeShapes Go.WideShapes Go.ChangeAt Go.RowKit Go.Maps
set_option linter.unusedVariables false
set_option linter.unusedSimpArgs false

abbrev mchZV (BA BC : Nat) : Value := .agg #[.int .i64 1, .func (.func 121) #[] #[.pointer (some ⟨BC, 0, none⟩)], .func (.func 122) #[] #[.pointer (some ⟨BA, 0, none⟩)]]
def MchZOut (p : Psn) (w : World) (e : Ending) (w' : World) : Prop := ∃ BA BC, e = .returned (mchZV BA BC) ∧ MchZ p BA BC w' ∧ Since w w'
set_option maxHeartbeats 2000000 in
set_option maxRecDepth 100000 in
theorem posM_any (v : Value) (p : Psn) (w : World) (h : PsAt w v p) (hv : posB p = true) : Calls Try.prog 75 #[v] w (MchZOut p w) := by
  have HAS : Hid (∀ W, Since w W → Calls Try.prog 67 #[v] W fun e w' => e = .returned (.int .i64 (accS p : Int)) ∧ Since W w') := fun W hW => implAS_any v p W (h.since hW) hv
  have HP := Lib.hid h
  obtain ⟨a, b, rfl, ha, hb, hi1, hi2⟩ := h
  obtain ⟨ao, ac, rfl, _⟩ := ha.row
  obtain ⟨bo, bc, rfl, _⟩ := hb.row
  clear ha hb hv
  obtain ⟨y, hy⟩ : ∃ y, y = (w.alloc (.cells #[.slice ao p.ls.length ac, .int .i64 p.fi, .int .i64 p.la, .slice bo p.fo.length bc, .bool p.nu] 41)).alloc (.cells #[.int .i64 0, .nilFunc, .nilFunc] 99) := ⟨_, rfl⟩
  have hs0 : Since w y := by rw [hy]; exact ((Since.refl w).alloc _).alloc _
  have hz : y.heap.size = w.heap.size + 2 := by rw [hy]; simp
  have B0 : Hid (Blk y w.heap.size 41 #[.slice ao p.ls.length ac, .int .i64 p.fi, .int .i64 p.la, .slice bo p.fo.length bc, .bool p.nu]) := by rw [hy]; exact (Blk.new rfl _ _).alloc _
  have B1 : Hid (Blk y (w.heap.size + 1) 99 #[.int .i64 0, .nilFunc, .nilFunc]) := by rw [hy]; exact Blk.new (by simp) _ _
  have HY := Lib.hid hy
  have HZ := Lib.hid hz
  clear hy hz
  go_enter Try.func75, Try.ntmps75
  go_upto_region 1 with fail
  rw [← HY.out]
  obtain ⟨⟨p0, p1, p2, p3, p4⟩, _⟩ := B0.out.fiveP
  go_wp2_with fail
  refine (HAS.out _ hs0).mono ?_
  rintro e w1 ⟨rfl, hs1⟩
  clear p0 p1 p2 p3 p4
  go_upto_region 2 with fail
  obtain ⟨w2, hw2⟩ : ∃ w2, w2 = w1.alloc (.cells #[.int .i64 (accS p : Int)] 84) := ⟨_, rfl⟩
  have hs2 : Since w1 w2 := by rw [hw2]; exact (Since.refl _).alloc _
  have BC : Hid (Blk w2 w1.heap.size 84 #[.int .i64 (accS p : Int)]) := by rw [hw2]; exact Blk.new rfl _ _
  rw [← hw2]
  have hy2 := hs1.trans hs2
  have hz1 : w.heap.size + 2 ≤ w1.heap.size := by have := hs1.size; have := HZ.out; omega
  have C0 := Lib.hid (B0.out.since hy2)
  have C1 := Lib.hid (B1.out.since hy2)
  have HP2 := Lib.hid (HP.out.since (hs0.trans hy2))
  have HS2 := Lib.hid (hs0.trans hy2)
  clear hw2 hs2 hs1 hy2 hs0
  go_wp2_with fail
  refine (setOf_any 0 w2 (by decide)).mono ?_
  rintro e w3 ⟨rfl, rfl⟩
  obtain ⟨⟨r0, r1, r2⟩, r3, r4, r5⟩ := C1.out.threeA
  go_wp2
  refine bodyPost_ret (v := mchZV w.heap.size w1.heap.size) (by simp [results, Try.results75, go_sem, *]) rfl ?_
  have hS : ∀ (W W' : World) (i : Nat) (u : Value), Since w W → Since w (W.setCell ⟨w.heap.size + 1, i, none⟩ u) := fun W W' i u k => k.setCell (by show w.heap.size ≤ w.heap.size + 1; omega) _
  have hP : ∀ (W : World) (i : Nat) (u : Value), Blk W w.heap.size 41 #[.slice ao p.ls.length ac, .int .i64 p.fi, .int .i64 p.la, .slice bo p.fo.length bc, .bool p.nu] → Blk (W.setCell ⟨w.heap.size + 1, i, none⟩ u) w.heap.size 41 #[.slice ao p.ls.length ac, .int .i64 p.fi, .int .i64 p.la, .slice bo p.fo.length bc, .bool p.nu] := fun W i u k => k.far (by simp) _
  have hC : ∀ (W : World) (i : Nat) (u : Value), Blk W w1.heap.size 84 #[.int .i64 (accS p : Int)] → Blk (W.setCell ⟨w.heap.size + 1, i, none⟩ u) w1.heap.size 84 #[.int .i64 (accS p : Int)] := fun W i u k => k.far (by show w1.heap.size ≠ w.heap.size + 1; omega) _
  have hSS := (HS2.out.setCell (a := ⟨w.heap.size + 1, 0, none⟩) (by show w.heap.size ≤ w.heap.size + 1; omega) (.int .i64 1))
  refine ⟨_, _, rfl, ⟨⟨ao, ac, bo, bc, hP _ _ _ (hP _ _ _ (hP _ _ _ C0.out)), HP.out.since ?_⟩, hC _ _ _ (hC _ _ _ (hC _ _ _ BC.out))⟩, ?_⟩
  all_goals exact hS _ w _ _ (hS _ w _ _ (hS _ w _ _ HS2.out))
end Go.Proofs.Ytcokggjekleabaa
