/- The laws' own sizes, comparisons, marks and checks of graphs. -/
import Derived.Test.YtilkheclimammaaBlk
namespace Go.Proofs.Ytilkheclimammaa
set_option maxRecDepth 100000
open Go.ChangeShapes Go.WideShapes Go.ChangeAt Go.RowKit
set_option linter.unusedVariables false

def szLeft (n : Nat) (left : Int) : Int := if left - (n : Int) < 0 then -1 else left - (n : Int)
set_option maxRecDepth 100000 in
theorem szIntS_any (v : Value) (xs : List Int) (left : Int) (w : World) (h : IntsAt w v xs) (hl : xs.length ≤ maxLen) (h0 : 0 ≤ left) (h1 : left ≤ 1048576) :
    Calls Try.prog 70 #[v, .int .i64 left] w fun e w' => e = .returned (.int .i64 (szLeft xs.length left)) ∧ w = w' := by
  obtain ⟨ao, cap, rfl, _⟩ := h.row
  clear h
  unfold maxLen at hl
  obtain ⟨n, hn⟩ : ∃ n, n = xs.length := ⟨_, rfl⟩
  rw [← hn] at hl ⊢
  clear hn
  by_cases hb : left - (n : Int) < 0
  · have HE : Hid (szLeft n left = -1) := by unfold Hid szLeft; rw [if_pos hb]
    go_enter Try.func70, Try.ntmps70
    go_wp2
    go_ret
    exact ⟨ret_int HE.out.symm, rfl⟩
  · have HE : Hid (szLeft n left = left - (n : Int)) := by unfold Hid szLeft; rw [if_neg hb]
    go_enter Try.func70, Try.ntmps70
    go_wp2
    go_ret
    exact ⟨ret_int HE.out.symm, rfl⟩
set_option maxRecDepth 100000 in
theorem szEdgeS_any (v : Value) (xs : List Edg) (left : Int) (w : World) (h : EdgesAt w v xs) (hl : xs.length ≤ maxLen) (h0 : 0 ≤ left) (h1 : left ≤ 1048576) :
    Calls Try.prog 71 #[v, .int .i64 left] w fun e w' => e = .returned (.int .i64 (szLeft xs.length left)) ∧ w = w' := by
  obtain ⟨ao, cap, rfl, _⟩ := h.row
  clear h
  unfold maxLen at hl
  obtain ⟨n, hn⟩ : ∃ n, n = xs.length := ⟨_, rfl⟩
  rw [← hn] at hl ⊢
  clear hn
  by_cases hb : left - (n : Int) < 0
  · have HE : Hid (szLeft n left = -1) := by unfold Hid szLeft; rw [if_pos hb]
    go_enter Try.func71, Try.ntmps71
    go_wp2
    go_ret
    exact ⟨ret_int HE.out.symm, rfl⟩
  · have HE : Hid (szLeft n left = left - (n : Int)) := by unfold Hid szLeft; rw [if_neg hb]
    go_enter Try.func71, Try.ntmps71
    go_wp2
    go_ret
    exact ⟨ret_int HE.out.symm, rfl⟩
/-- Whether a graph is within the laws' size. -/
def szG (g : Grf) (left : Int) : Int := if left - (g.vs.length : Int) < 0 then -1 else szLeft g.es.length (left - (g.vs.length : Int))
set_option maxRecDepth 100000 in
theorem szGraph_any (v : Value) (g : Grf) (left : Int) (w : World) (h : GrfAt w v g) (hl : g.vs.length ≤ maxLen) (hl2 : g.es.length ≤ maxLen) (h0 : 0 ≤ left) (h1 : left ≤ 1048576) :
    Calls Try.prog 26 #[v, .int .i64 left] w fun e w' => e = .returned (.int .i64 (szG g left)) ∧ Since w w' := by
  obtain ⟨a, b, rfl, ha, hb⟩ := h
  have HA := Lib.hid ha
  have HB := Lib.hid hb
  clear ha hb
  obtain ⟨ao, ca, rfl, _⟩ := HA.out.row
  obtain ⟨bo, cb, rfl⟩ := HB.out.len
  have hs0 : Since w (w.alloc (.cells #[.slice ao g.vs.length ca, .slice bo g.es.length cb] 44)) := (Since.refl w).alloc _
  by_cases hc : left - (g.vs.length : Int) < 0
  · have HE : Hid (szLeft g.vs.length left = -1) := by unfold Hid szLeft; rw [if_pos hc]
    have HG : Hid (szG g left = -1) := by unfold Hid szG; rw [if_pos hc]
    clear hc
    go_enter Try.func26, Try.ntmps26
    go_wp2_with fail
    refine (szIntS_any _ g.vs _ _ (HA.out.since hs0) hl h0 h1).mono ?_
    rintro e w1 ⟨rfl, rfl⟩
    rw [HE.out]
    go_wp2
    go_ret
    exact ⟨ret_int HG.out.symm, hs0⟩
  · have HE : Hid (szLeft g.vs.length left = left - (g.vs.length : Int)) := by unfold Hid szLeft; rw [if_neg hc]
    have HG : Hid (szG g left = szLeft g.es.length (left - (g.vs.length : Int))) := by unfold Hid szG; rw [if_neg hc]
    obtain ⟨r, hr⟩ : ∃ r, r = left - (g.vs.length : Int) := ⟨_, rfl⟩
    rw [← hr] at HE HG hc
    have hr0 : 0 ≤ r := by omega
    have hr1 : r ≤ 1048576 := by omega
    clear hc hr
    by_cases hd : r - (g.es.length : Int) < 0
    · have HF : Hid (szLeft g.es.length r = -1) := by unfold Hid szLeft; rw [if_pos hd]
      clear hd
      go_enter Try.func26, Try.ntmps26
      go_wp2_with fail
      refine (szIntS_any _ g.vs _ _ (HA.out.since hs0) hl h0 h1).mono ?_
      rintro e w1 ⟨rfl, rfl⟩
      rw [HE.out]
      go_wp2_with fail
      refine (szEdgeS_any _ g.es _ _ (HB.out.since hs0) hl2 hr0 hr1).mono ?_
      rintro e w1 ⟨rfl, rfl⟩
      rw [HF.out]
      go_wp2
      go_ret
      exact ⟨ret_int (by rw [HG.out, HF.out]), hs0⟩
    · have HF : Hid (szLeft g.es.length r = r - (g.es.length : Int)) := by unfold Hid szLeft; rw [if_neg hd]
      have hd0 : 0 ≤ r - (g.es.length : Int) := by omega
      clear hd
      obtain ⟨q, hq⟩ : ∃ q, q = r - (g.es.length : Int) := ⟨_, rfl⟩
      rw [← hq] at HF hd0
      clear hq
      go_enter Try.func26, Try.ntmps26
      go_wp2_with fail
      refine (szIntS_any _ g.vs _ _ (HA.out.since hs0) hl h0 h1).mono ?_
      rintro e w1 ⟨rfl, rfl⟩
      rw [HE.out]
      go_wp2_with fail
      refine (szEdgeS_any _ g.es _ _ (HB.out.since hs0) hl2 hr0 hr1).mono ?_
      rintro e w1 ⟨rfl, rfl⟩
      rw [HF.out]
      go_wp2
      go_ret
      exact ⟨ret_int (by rw [HG.out, HF.out]), hs0⟩

set_option maxRecDepth 100000 in
theorem eqGraph_any (a b : Value) (g h : Grf) (w : World) (ha : GrfAt w a g) (hb : GrfAt w b h) (g1 : g.vs.length ≤ 1152921504606846976) (g2 : g.es.length ≤ 1152921504606846976) (h1 : h.vs.length ≤ 1152921504606846976) (h2 : h.es.length ≤ 1152921504606846976) :
    Calls Try.prog 32 #[a, b] w fun e w' => e = .returned (.bool (decide (g = h))) ∧ Since w w' := by
  obtain ⟨a1, a2, rfl, ha1, ha2⟩ := ha
  obtain ⟨b1, b2, rfl, hb1, hb2⟩ := hb
  have HA1 := Lib.hid ha1
  have HA2 := Lib.hid ha2
  have HB1 := Lib.hid hb1
  have HB2 := Lib.hid hb2
  clear ha1 ha2 hb1 hb2
  obtain ⟨ao1, ac1, rfl, _⟩ := HA1.out.row
  obtain ⟨ao2, ac2, rfl⟩ := HA2.out.len
  obtain ⟨bo1, bc1, rfl, _⟩ := HB1.out.row
  obtain ⟨bo2, bc2, rfl⟩ := HB2.out.len
  have hs0 : Since w ((w.alloc (.cells #[.slice ao1 g.vs.length ac1, .slice ao2 g.es.length ac2] 27)).alloc (.cells #[.slice bo1 h.vs.length bc1, .slice bo2 h.es.length bc2] 27)) := ((Since.refl w).alloc _).alloc _
  have B0 : Hid (Blk ((w.alloc (.cells #[.slice ao1 g.vs.length ac1, .slice ao2 g.es.length ac2] 27)).alloc (.cells #[.slice bo1 h.vs.length bc1, .slice bo2 h.es.length bc2] 27)) w.heap.size 27 #[.slice ao1 g.vs.length ac1, .slice ao2 g.es.length ac2]) := (Blk.new rfl _ _).alloc _
  have B1 : Hid (Blk ((w.alloc (.cells #[.slice ao1 g.vs.length ac1, .slice ao2 g.es.length ac2] 27)).alloc (.cells #[.slice bo1 h.vs.length bc1, .slice bo2 h.es.length bc2] 27)) (w.heap.size + 1) 27 #[.slice bo1 h.vs.length bc1, .slice bo2 h.es.length bc2]) := Blk.new (by simp) _ _
  by_cases e1 : g.vs = h.vs
  · have HE := Lib.hid (show decide (g.vs = h.vs) = true from decide_eq_true e1)
    have HD : Hid (decide (g = h) = decide (g.es = h.es)) := by
      unfold Hid
      by_cases e2 : g.es = h.es
      · rw [decide_eq_true e2, decide_eq_true ((Grf.eq_iff g h).2 ⟨e1, e2⟩)]
      · rw [decide_eq_false e2, decide_eq_false (fun e => e2 (by rw [e]))]
    clear e1
    by_cases e2 : g.es = h.es
    · have HF := Lib.hid (show decide (g.es = h.es) = true from decide_eq_true e2)
      clear e2
      go_enter Try.func32, Try.ntmps32
      go_wp2_with fail
      refine (eqIntS_any _ _ g.vs h.vs _ (HA1.out.since hs0) (HB1.out.since hs0) (by omega) (by omega)).mono ?_
      rintro e w1 ⟨rfl, hs1⟩
      rw [HE.out]
      obtain ⟨p0, p1, _, _⟩ := (B0.out.since hs1).two
      obtain ⟨q0, q1, _, _⟩ := (B1.out.since hs1).two
      have hs01 := hs0.trans hs1
      go_wp2_with fail
      refine (eqEdgeS_any _ _ g.es h.es _ (HA2.out.since hs01) (HB2.out.since hs01) g2 h2).mono ?_
      rintro e w2 ⟨rfl, hs2⟩
      rw [HF.out]
      have hs02 := hs01.trans hs2
      go_wp2
      go_ret
      exact ⟨ret_bool (by rw [HD.out, HF.out]), hs02⟩
    · have HF := Lib.hid (show decide (g.es = h.es) = false from decide_eq_false e2)
      clear e2
      go_enter Try.func32, Try.ntmps32
      go_wp2_with fail
      refine (eqIntS_any _ _ g.vs h.vs _ (HA1.out.since hs0) (HB1.out.since hs0) (by omega) (by omega)).mono ?_
      rintro e w1 ⟨rfl, hs1⟩
      rw [HE.out]
      obtain ⟨p0, p1, _, _⟩ := (B0.out.since hs1).two
      obtain ⟨q0, q1, _, _⟩ := (B1.out.since hs1).two
      have hs01 := hs0.trans hs1
      go_wp2_with fail
      refine (eqEdgeS_any _ _ g.es h.es _ (HA2.out.since hs01) (HB2.out.since hs01) g2 h2).mono ?_
      rintro e w2 ⟨rfl, hs2⟩
      rw [HF.out]
      have hs02 := hs01.trans hs2
      go_wp2
      go_ret
      exact ⟨ret_bool (by rw [HD.out, HF.out]), hs02⟩
  · have HE := Lib.hid (show decide (g.vs = h.vs) = false from decide_eq_false e1)
    have HD := Lib.hid (show decide (g = h) = false from decide_eq_false (fun e => e1 (by rw [e])))
    clear e1
    go_enter Try.func32, Try.ntmps32
    go_wp2_with fail
    refine (eqIntS_any _ _ g.vs h.vs _ (HA1.out.since hs0) (HB1.out.since hs0) (by omega) (by omega)).mono ?_
    rintro e w1 ⟨rfl, hs1⟩
    rw [HE.out]
    have hs01 := hs0.trans hs1
    go_wp2
    go_ret
    exact ⟨ret_bool HD.out.symm, hs01⟩
end Go.Proofs.Ytilkheclimammaa
