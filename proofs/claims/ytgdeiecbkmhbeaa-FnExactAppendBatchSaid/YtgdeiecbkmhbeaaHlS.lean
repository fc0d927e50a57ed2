/- The model's and the program's LatestVersion. -/
import Derived.Test.YtgdeiecbkmhbeaaHvS
import Derived.Test.YtgdeiecbkmhbeaaHvI
namespace Go.Proofs.Ytgdeiecbkmhbeaa
set_option maxRecDepth 100000
open Go.ChangeShapes Go.WideShapes Go.ChangeAt Go.RowKit
set_option linter.unusedVariables false
set_option linter.unusedSimpArgs false

set_option maxRecDepth 100000 in
theorem specLV_any (v : Value) (x : Hst) (w : World) (h : HstAt w v x) (h1 : SmH x) :
    Calls Try.prog 28 #[v] w fun e w' => e = .returned (.int .i64 (latH x)) ∧ Since w w' := by
  have HX := Lib.hid h
  obtain ⟨b, rfl, hb⟩ := h
  obtain ⟨bo, bc, rfl, _⟩ := hb
  obtain ⟨y, hy⟩ : ∃ y, y = w.alloc (.cells #[.int .i64 x.f, .slice bo x.gs.length bc] 26) := ⟨_, rfl⟩
  have hs0 : Since w y := by rw [hy]; exact (Since.refl w).alloc _
  have BW : Hid (Blk y w.heap.size 26 #[.int .i64 x.f, .slice bo x.gs.length bc]) := by rw [hy]; exact Blk.new rfl _ _
  obtain ⟨p0, p1, _, _⟩ := BW.out.two
  rw [hy] at p0 p1
  rcases Bool.eq_false_or_eq_true (validH x) with hv | hv
  rotate_left
  · have HV := Lib.hid hv
    have HR : Hid (latH x = 0) := by unfold Hid latH; rw [hv]; rfl
    clear hv
    go_enter Try.func28, Try.ntmps28
    go_wp2_with fail
    rw [← hy]
    clear hy p0 p1
    refine (specVH_any _ x _ (HX.out.since hs0) h1).mono ?_
    rintro en w1 ⟨rfl, hs1⟩
    rw [HV.out]
    have hs01 := hs0.trans hs1
    go_wp2
    go_ret
    exact ⟨ret_int HR.out.symm, hs01⟩
  · have HV := Lib.hid hv
    have HR : Hid (latH x = x.f + (x.gs.length : Int) - 1) := by unfold Hid latH; rw [hv]; rfl
    obtain ⟨_, a1, a2, a3, a4⟩ := validH_parts hv
    clear hv
    go_enter Try.func28, Try.ntmps28
    go_wp2_with fail
    rw [← hy]
    clear hy p0 p1
    refine (specVH_any _ x _ (HX.out.since hs0) h1).mono ?_
    rintro en w1 ⟨rfl, hs1⟩
    rw [HV.out]
    have hs01 := hs0.trans hs1
    obtain ⟨p0, p1, _, _⟩ := (BW.out.since hs1).two
    go_wp2
    go_ret
    exact ⟨ret_int HR.out.symm, hs01⟩
set_option maxRecDepth 100000 in
theorem implLV_any (v : Value) (x : Hst) (w : World) (h : HstAt w v x) (h1 : SmH x) :
    Calls Try.prog 20 #[v] w fun e w' => e = .returned (.int .i64 (latH x)) ∧ Since w w' := by
  have HX := Lib.hid h
  obtain ⟨b, rfl, hb⟩ := h
  obtain ⟨bo, bc, rfl, _⟩ := hb
  obtain ⟨y, hy⟩ : ∃ y, y = w.alloc (.cells #[.int .i64 x.f, .slice bo x.gs.length bc] 26) := ⟨_, rfl⟩
  have hs0 : Since w y := by rw [hy]; exact (Since.refl w).alloc _
  have BW : Hid (Blk y w.heap.size 26 #[.int .i64 x.f, .slice bo x.gs.length bc]) := by rw [hy]; exact Blk.new rfl _ _
  obtain ⟨p0, p1, _, _⟩ := BW.out.two
  rw [hy] at p0 p1
  rcases Bool.eq_false_or_eq_true (validH x) with hv | hv
  rotate_left
  · have HV := Lib.hid hv
    have HR : Hid (latH x = 0) := by unfold Hid latH; rw [hv]; rfl
    clear hv
    go_enter Try.func20, Try.ntmps20
    go_wp2_with fail
    rw [← hy]
    clear hy p0 p1
    refine (implVH_any _ x _ (HX.out.since hs0) h1).mono ?_
    rintro en w1 ⟨rfl, hs1⟩
    rw [HV.out]
    have hs01 := hs0.trans hs1
    go_wp2
    go_ret
    exact ⟨ret_int HR.out.symm, hs01⟩
  · have HV := Lib.hid hv
    have HR : Hid (latH x = x.f + (x.gs.length : Int) - 1) := by unfold Hid latH; rw [hv]; rfl
    obtain ⟨_, a1, a2, a3, a4⟩ := validH_parts hv
    clear hv
    go_enter Try.func20, Try.ntmps20
    go_wp2_with fail
    rw [← hy]
    clear hy p0 p1
    refine (implVH_any _ x _ (HX.out.since hs0) h1).mono ?_
    rintro en w1 ⟨rfl, hs1⟩
    rw [HV.out]
    have hs01 := hs0.trans hs1
    obtain ⟨p0, p1, _, _⟩ := (BW.out.since hs1).two
    go_wp2
    go_ret
    exact ⟨ret_int HR.out.symm, hs01⟩
end Go.Proofs.Ytgdeiecbkmhbeaa
