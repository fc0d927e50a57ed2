/- HoldsAt, the model's and the program's. -/
import Derived.Test.YtpmkpeclfhmhlaaK2
import Derived.Test.YtpmkpeclfhmhlaaK1
namespace Go.Proofs.Ytpmkpeclfhmhlaa
set_option maxRecDepth 100000
open Go.ChangeShapes Go.WideShapes Go.ChangeAt Go.RowKit
set_option linter.unusedVariables false
set_option linter.unusedSimpArgs false

/-- Is the letter y the test of the value of node x? -/
def holdsG (g : Grf) (x y : Int) : Bool := validB g && inB x 0 ((g.vs.length : Int) - 1) && (y == 6 + g.vs.getD x.toNat 0)
theorem holds_inval (g : Grf) (x y : Int) (h : validB g = false) : holdsG g x y = false := by unfold holdsG; rw [h]; rfl
theorem holds_out (g : Grf) (x y : Int) (h : inB x 0 ((g.vs.length : Int) - 1) = false) : holdsG g x y = false := by unfold holdsG; rw [h, Bool.and_false]; rfl
theorem holds_in (g : Grf) (k : Nat) (hk : k < g.vs.length) (y : Int) (hv : validB g = true) : holdsG g (k : Int) y = (y == 6 + g.vs[k]) := by
  unfold holdsG
  rw [hv, inB_true (by omega) (by omega)]
  simp [List.getD_eq_getElem?_getD, hk]
set_option maxHeartbeats 1000000 in
set_option maxRecDepth 100000 in
theorem implHA_any (v : Value) (g : Grf) (x y : Int) (w : World) (h : GrfAt w v g) (h1 : g.vs.length ≤ 1048577) (h2 : g.es.length ≤ 1048577) :
    Calls Try.prog 48 #[v, .int .i64 x, .int .i64 y] w fun en w' => en = .returned (.bool (holdsG g x y)) ∧ Since w w' := by
  have HG := Lib.hid h
  obtain ⟨a, b, rfl, ha, hb⟩ := h
  obtain ⟨ao, ac, rfl, HVS⟩ := ha.row
  obtain ⟨bo, bc, rfl⟩ := hb.len
  clear ha hb
  obtain ⟨n, hn⟩ : ∃ n, n = g.vs.length := ⟨_, rfl⟩
  obtain ⟨m, hm⟩ : ∃ m, m = g.es.length := ⟨_, rfl⟩
  rw [← hn, ← hm] at HG ⊢
  have HN := Lib.hid hn
  have hn9 : n ≤ 1048577 := by omega
  clear hn hm
  have hs0 : Since w (w.alloc (.cells #[.slice ao n ac, .slice bo m bc] 30)) := (Since.refl w).alloc _
  have B0 : Hid (Blk (w.alloc (.cells #[.slice ao n ac, .slice bo m bc] 30)) w.heap.size 30 #[.slice ao n ac, .slice bo m bc]) := Blk.new rfl _ _
  rcases Bool.eq_false_or_eq_true (validB g) with hv | hv
  · have HV := Lib.hid hv
    rcases Bool.eq_false_or_eq_true (inB x 0 ((n : Int) - 1)) with hi | hi
    · obtain ⟨k, rfl⟩ : ∃ k : Nat, x = (k : Int) := ⟨x.toNat, by have := inB_bounds hi; omega⟩
      have hkn : k < n := by have := inB_bounds hi; omega
      have hk : k < g.vs.length := by have := HN.out; omega
      have HI := Lib.hid hi
      have HO := Lib.hid (holds_in g k hk y hv)
      have hbv := ((validB_iff g).1 hv).2.1 g.vs[k] (List.getElem_mem hk)
      obtain ⟨be, oe, rfl, hbe, d0⟩ := HVS.out k hk
      obtain ⟨z, hz⟩ : ∃ z, z = g.vs[k] := ⟨_, rfl⟩
      rw [← hz] at d0 HO hbv
      have hz0 := hbv.1
      have hz2 := hbv.2
      clear hv hi hbv hz
      have ik0 : (0 : Int) ≤ (k : Int) := by omega
      have ik1 : (k : Int) < (n : Int) := by omega
      go_enter Try.func48, Try.ntmps48
      go_wp2_with fail
      refine (implVG_any _ g _ (HG.out.since hs0) h1 h2).mono ?_
      rintro en w1 ⟨rfl, hs1⟩
      rw [HV.out]
      have hs01 := hs0.trans hs1
      obtain ⟨p0, p1, _, _⟩ := (B0.out.since hs1).two
      rw [← since_cells hs01 hbe] at d0
      go_wp2_with fail
      with_reducible refine (isNode_any (k : Int) n _).mono ?_
      rintro en w' ⟨rfl, rfl⟩
      rw [HI.out]
      go_wp2
      go_ret
      exact ⟨ret_bool HO.out.symm, hs01⟩
    · have HI := Lib.hid hi
      have HO : Hid (holdsG g x y = false) := holds_out g x y (by rw [← HN.out]; exact hi)
      clear hv hi
      go_enter Try.func48, Try.ntmps48
      go_wp2_with fail
      refine (implVG_any _ g _ (HG.out.since hs0) h1 h2).mono ?_
      rintro en w1 ⟨rfl, hs1⟩
      rw [HV.out]
      have hs01 := hs0.trans hs1
      obtain ⟨p0, p1, _, _⟩ := (B0.out.since hs1).two
      go_wp2_with fail
      with_reducible refine (isNode_any x n _).mono ?_
      rintro en w' ⟨rfl, rfl⟩
      rw [HI.out]
      go_wp2
      go_ret
      exact ⟨ret_bool HO.out.symm, hs01⟩
  · have HV := Lib.hid hv
    have HO := Lib.hid (holds_inval g x y hv)
    clear hv
    go_enter Try.func48, Try.ntmps48
    go_wp2_with fail
    refine (implVG_any _ g _ (HG.out.since hs0) h1 h2).mono ?_
    rintro en w1 ⟨rfl, hs1⟩
    rw [HV.out]
    have hs01 := hs0.trans hs1
    go_wp2
    go_ret
    exact ⟨ret_bool HO.out.symm, hs01⟩
set_option maxHeartbeats 1000000 in
set_option maxRecDepth 100000 in
theorem specHA_any (v : Value) (g : Grf) (x y : Int) (w : World) (h : GrfAt w v g) (h1 : g.vs.length ≤ 1048577) (h2 : g.es.length ≤ 1048577) :
    Calls Try.prog 47 #[v, .int .i64 x, .int .i64 y] w fun en w' => en = .returned (.bool (holdsG g x y)) ∧ Since w w' := by
  have HG := Lib.hid h
  obtain ⟨a, b, rfl, ha, hb⟩ := h
  obtain ⟨ao, ac, rfl, HVS⟩ := ha.row
  obtain ⟨bo, bc, rfl⟩ := hb.len
  clear ha hb
  obtain ⟨n, hn⟩ : ∃ n, n = g.vs.length := ⟨_, rfl⟩
  obtain ⟨m, hm⟩ : ∃ m, m = g.es.length := ⟨_, rfl⟩
  rw [← hn, ← hm] at HG ⊢
  have HN := Lib.hid hn
  have hn9 : n ≤ 1048577 := by omega
  clear hn hm
  have hs0 : Since w (w.alloc (.cells #[.slice ao n ac, .slice bo m bc] 30)) := (Since.refl w).alloc _
  have B0 : Hid (Blk (w.alloc (.cells #[.slice ao n ac, .slice bo m bc] 30)) w.heap.size 30 #[.slice ao n ac, .slice bo m bc]) := Blk.new rfl _ _
  rcases Bool.eq_false_or_eq_true (validB g) with hv | hv
  · have HV := Lib.hid hv
    rcases Bool.eq_false_or_eq_true (inB x 0 ((n : Int) - 1)) with hi | hi
    · obtain ⟨k, rfl⟩ : ∃ k : Nat, x = (k : Int) := ⟨x.toNat, by have := inB_bounds hi; omega⟩
      have hkn : k < n := by have := inB_bounds hi; omega
      have hk : k < g.vs.length := by have := HN.out; omega
      have HI := Lib.hid hi
      have hho := holds_in g k hk y hv
      have hbv := ((validB_iff g).1 hv).2.1 g.vs[k] (List.getElem_mem hk)
      obtain ⟨be, oe, rfl, hbe, d0⟩ := HVS.out k hk
      obtain ⟨z, hz⟩ : ∃ z, z = g.vs[k] := ⟨_, rfl⟩
      rw [← hz] at d0 hho hbv
      have hz0 := hbv.1
      have hz2 := hbv.2
      clear hv hi hbv hz
      have ik0 : (0 : Int) ≤ (k : Int) := by omega
      have ik1 : (k : Int) < (n : Int) := by omega
      rcases Bool.eq_false_or_eq_true (inB y 6 8) with hy | hy
      · have hyb := inB_bounds hy
        have hy6 := hyb.1
        have hy8 := hyb.2
        have HY := Lib.hid hy
        have HO : Hid (holdsG g (k : Int) y = (z == y - 6)) := by
          unfold Hid; rw [hho, Bool.eq_iff_iff]; simp only [beq_iff_eq]; omega
        clear hho hy hyb
        go_enter Try.func47, Try.ntmps47
        go_wp2_with fail
        refine (specVG_any _ g _ (HG.out.since hs0) h1 h2).mono ?_
        rintro en w1 ⟨rfl, hs1⟩
        rw [HV.out]
        have hs01 := hs0.trans hs1
        obtain ⟨p0, p1, _, _⟩ := (B0.out.since hs1).two
        rw [← since_cells hs01 hbe] at d0
        go_wp2_with fail
        with_reducible refine (l1In_any (k : Int) 0 ((n : Int) - 1) _).mono ?_
        rintro en w' ⟨rfl, rfl⟩
        rw [HI.out]
        go_wp2_with fail
        with_reducible refine (l1In_any y 6 8 _).mono ?_
        rintro en w' ⟨rfl, rfl⟩
        rw [HY.out]
        go_wp2
        go_ret
        exact ⟨ret_bool HO.out.symm, hs01⟩
      · have HY := Lib.hid hy
        have HO : Hid (holdsG g (k : Int) y = false) := by
          unfold Hid; rw [hho]
          have : ¬ (6 ≤ y ∧ y ≤ 8) := fun hh => by rw [inB_true hh.1 hh.2] at hy; cases hy
          simp; omega
        clear hho hy
        go_enter Try.func47, Try.ntmps47
        go_wp2_with fail
        refine (specVG_any _ g _ (HG.out.since hs0) h1 h2).mono ?_
        rintro en w1 ⟨rfl, hs1⟩
        rw [HV.out]
        have hs01 := hs0.trans hs1
        obtain ⟨p0, p1, _, _⟩ := (B0.out.since hs1).two
        rw [← since_cells hs01 hbe] at d0
        go_wp2_with fail
        with_reducible refine (l1In_any (k : Int) 0 ((n : Int) - 1) _).mono ?_
        rintro en w' ⟨rfl, rfl⟩
        rw [HI.out]
        go_wp2_with fail
        with_reducible refine (l1In_any y 6 8 _).mono ?_
        rintro en w' ⟨rfl, rfl⟩
        rw [HY.out]
        go_wp2
        go_ret
        exact ⟨ret_bool HO.out.symm, hs01⟩
    · have HI := Lib.hid hi
      have HO : Hid (holdsG g x y = false) := holds_out g x y (by rw [← HN.out]; exact hi)
      clear hv hi
      go_enter Try.func47, Try.ntmps47
      go_wp2_with fail
      refine (specVG_any _ g _ (HG.out.since hs0) h1 h2).mono ?_
      rintro en w1 ⟨rfl, hs1⟩
      rw [HV.out]
      have hs01 := hs0.trans hs1
      obtain ⟨p0, p1, _, _⟩ := (B0.out.since hs1).two
      go_wp2_with fail
      with_reducible refine (l1In_any x 0 ((n : Int) - 1) _).mono ?_
      rintro en w' ⟨rfl, rfl⟩
      rw [HI.out]
      go_wp2
      go_ret
      exact ⟨ret_bool HO.out.symm, hs01⟩
  · have HV := Lib.hid hv
    have HO := Lib.hid (holds_inval g x y hv)
    clear hv
    go_enter Try.func47, Try.ntmps47
    go_wp2_with fail
    refine (specVG_any _ g _ (HG.out.since hs0) h1 h2).mono ?_
    rintro en w1 ⟨rfl, hs1⟩
    rw [HV.out]
    have hs01 := hs0.trans hs1
    go_wp2
    go_ret
    exact ⟨ret_bool HO.out.symm, hs01⟩
end Go.Proofs.Ytpmkpeclfhmhlaa
