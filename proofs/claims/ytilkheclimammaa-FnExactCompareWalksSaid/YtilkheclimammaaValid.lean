/- Which edges and graphs are valid: the model's tests and the program's. -/
import Derived.Test.YtilkheclimammaaGrfL
import Derived.Test.YtilkheclimammaaFixed
namespace Go.Proofs.Ytilkheclimammaa
set_option maxRecDepth 100000
open Go.ChangeShapes Go.WideShapes Go.ChangeAt Go.RowKit
set_option linter.unusedVariables false

theorem isValue_any (x : Int) (w : World) : Calls Try.prog 102 #[.int .i64 x] w fun e w' => e = .returned (.bool (inB x 0 2)) ∧ w = w' := by
  by_cases h : 0 ≤ x
  · go_enter Try.func102, Try.ntmps102
    go_wp2
    go_ret
    exact ⟨ret_bool (by simp [inB]; omega), rfl⟩
  · go_enter Try.func102, Try.ntmps102
    go_wp2
    go_ret
    exact ⟨ret_bool (by simp [inB]; omega), rfl⟩
theorem inB_node (x : Int) (n : Nat) (h : 0 ≤ x) : decide (x < (n : Int)) = inB x 0 ((n : Int) - 1) := by
  unfold inB; rw [Bool.eq_iff_iff]; simp; omega
theorem inB_lb (x : Int) (h : 0 ≤ x) : decide (x < 3) = inB x 0 2 := by
  unfold inB; rw [Bool.eq_iff_iff]; simp; omega
theorem isNode_any (x : Int) (n : Nat) (w : World) : Calls Try.prog 68 #[.int .i64 x, .int .i64 (n : Int)] w fun e w' => e = .returned (.bool (inB x 0 ((n : Int) - 1))) ∧ w = w' := by
  by_cases h : 0 ≤ x
  · go_enter Try.func68, Try.ntmps68
    go_wp2
    go_ret
    exact ⟨ret_bool (inB_node x n h), rfl⟩
  · go_enter Try.func68, Try.ntmps68
    go_wp2
    go_ret
    exact ⟨ret_bool (inB_false (by omega)).symm, rfl⟩
theorem edB_cases (n : Nat) (e : Edg) :
    (inB e.id 1 99 = false ∧ edB n e = false) ∨ (inB e.id 1 99 = true ∧ inB e.fr 0 ((n : Int) - 1) = false ∧ edB n e = false) ∨
    (inB e.id 1 99 = true ∧ inB e.fr 0 ((n : Int) - 1) = true ∧ inB e.to 0 ((n : Int) - 1) = false ∧ edB n e = false) ∨
    (inB e.id 1 99 = true ∧ inB e.fr 0 ((n : Int) - 1) = true ∧ inB e.to 0 ((n : Int) - 1) = true ∧ edB n e = inB e.lb 0 2) := by
  rw [edB_split n e _ rfl]
  cases inB e.id 1 99 <;> cases inB e.fr 0 ((n : Int) - 1) <;> cases inB e.to 0 ((n : Int) - 1) <;> simp
set_option maxRecDepth 100000 in
theorem l3Edge_any (v : Value) (g : Grf) (e : Edg) (w : World) (h : GrfAt w v g) (h1 : g.vs.length ≤ maxLen) :
    Calls Try.prog 97 #[v, ev e] w fun en w' => en = .returned (.bool (edB g.vs.length e)) ∧ Since w w' := by
  unfold maxLen at h1
  obtain ⟨a, b, rfl, ha, hb⟩ := h
  obtain ⟨ao, ac, rfl, _⟩ := ha.row
  obtain ⟨bo, bc, rfl⟩ := hb.len
  clear ha hb
  obtain ⟨n, hn⟩ : ∃ n, n = g.vs.length := ⟨_, rfl⟩
  obtain ⟨m, hm⟩ : ∃ m, m = g.es.length := ⟨_, rfl⟩
  rw [← hn] at h1 ⊢
  rw [← hm]
  clear hn hm
  have hs0 : Since w ((w.alloc (.cells #[.slice ao n ac, .slice bo m bc] 27)).alloc (.cells #[.int .i64 e.id, .int .i64 e.fr, .int .i64 e.to, .int .i64 e.lb] 108)) := ((Since.refl w).alloc _).alloc _
  rcases edB_cases n e with ⟨c1, c⟩ | ⟨c1, c2, c⟩ | ⟨c1, c2, c3, c⟩ | ⟨c1, c2, c3, c⟩
  all_goals
    have C := Lib.hid c
    clear c
    go_enter Try.func97, Try.ntmps97
    go_wp2_with (go_at_call 69; refine (l1In_any _ _ _ _).mono ?_; rintro e w' ⟨rfl, rfl⟩)
    go_ret
    exact ⟨ret_bool C.out.symm, hs0⟩
theorem isEdgeID_any (x : Int) (w : World) : Calls Try.prog 126 #[.int .i64 x] w fun e w' => e = .returned (.bool (inB x 1 99)) ∧ w = w' := by
  by_cases d1 : 1 ≤ x
  · by_cases d2 : x ≤ 99
    · have C := Lib.hid (inB_true d1 d2)
      go_enter Try.func126, Try.ntmps126
      go_wp2
      go_ret
      exact ⟨ret_bool C.out.symm, rfl⟩
    · have C : Hid (inB x 1 99 = false) := inB_false (by omega)
      go_enter Try.func126, Try.ntmps126
      go_wp2
      go_ret
      exact ⟨ret_bool C.out.symm, rfl⟩
  · have C : Hid (inB x 1 99 = false) := inB_false (by omega)
    go_enter Try.func126, Try.ntmps126
    go_wp2
    go_ret
    exact ⟨ret_bool C.out.symm, rfl⟩
set_option maxRecDepth 100000 in
theorem isEdge_any (e : Edg) (n : Nat) (w : World) :
    Calls Try.prog 103 #[ev e, .int .i64 (n : Int)] w fun en w' => en = .returned (.bool (edB n e)) ∧ Since w w' := by
  have hs0 : Since w (w.alloc (.cells #[.int .i64 e.id, .int .i64 e.fr, .int .i64 e.to, .int .i64 e.lb] 108)) := (Since.refl w).alloc _
  by_cases d3 : 0 ≤ e.lb
  all_goals
    rcases edB_cases n e with ⟨c1, c⟩ | ⟨c1, c2, c⟩ | ⟨c1, c2, c3, c⟩ | ⟨c1, c2, c3, c⟩
    all_goals
      have C := Lib.hid c
      clear c
      go_enter Try.func103, Try.ntmps103
      go_wp2_with (first | (go_at_call 126; refine (isEdgeID_any _ _).mono ?_; rintro e w' ⟨rfl, rfl⟩) | (go_at_call 68; refine (isNode_any _ _ _).mono ?_; rintro e w' ⟨rfl, rfl⟩))
      go_ret
      exact ⟨ret_bool (by first | (rw [C.out]; done) | (rw [C.out]; exact inB_lb _ d3) | (rw [C.out, inB_false (by omega)])), hs0⟩
theorem l3Edge_is (v : Value) (g : Grf) (e : Edg) (c : Bool) (w : World) (h : GrfAt w v g) (h1 : g.vs.length ≤ maxLen) (hc : edB g.vs.length e = c) :
    Calls Try.prog 97 #[v, ev e] w fun en w' => en = .returned (.bool c) ∧ Since w w' := by subst hc; exact l3Edge_any v g e w h h1
theorem isEdge_is (e : Edg) (n : Nat) (c : Bool) (w : World) (hc : edB n e = c) :
    Calls Try.prog 103 #[ev e, .int .i64 (n : Int)] w fun en w' => en = .returned (.bool c) ∧ Since w w' := by subst hc; exact isEdge_any e n w
end Go.Proofs.Ytilkheclimammaa
