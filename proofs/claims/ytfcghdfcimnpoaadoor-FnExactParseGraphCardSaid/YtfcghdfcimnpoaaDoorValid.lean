/- Which edges and graphs are valid: the model's tests and the program's. -/
import Derived.Test.YtfcghdfcimnpoaaDoorGrfL
import Derived.Test.YtfcghdfcimnpoaaDoorFixed
namespace Go.Proofs.YtfcghdfcimnpoaaDoor
set_option maxRecDepth 100000
open Go.ChangeShapes Go.WideShapes Go.ChangeAt Go.RowKit
set_option linter.unusedVariables false

theorem isValue_any (x : Int) (w : World) : Calls Tryd.prog 57 #[.int .i64 x] w fun e w' => e = .returned (.bool (inB x 0 2)) ∧ w = w' := by
  by_cases h : 0 ≤ x
  · go_enter Tryd.func57, Tryd.ntmps57
    go_wp2
    go_ret
    exact ⟨ret_bool (by simp [inB]; omega), rfl⟩
  · go_enter Tryd.func57, Tryd.ntmps57
    go_wp2
    go_ret
    exact ⟨ret_bool (by simp [inB]; omega), rfl⟩
theorem inB_node (x : Int) (n : Nat) (h : 0 ≤ x) : decide (x < (n : Int)) = inB x 0 ((n : Int) - 1) := by
  unfold inB; rw [Bool.eq_iff_iff]; simp; omega
theorem inB_lb (x : Int) (h : 0 ≤ x) : decide (x < 3) = inB x 0 2 := by
  unfold inB; rw [Bool.eq_iff_iff]; simp; omega
theorem isNode_any (x : Int) (n : Nat) (w : World) : Calls Tryd.prog 50 #[.int .i64 x, .int .i64 (n : Int)] w fun e w' => e = .returned (.bool (inB x 0 ((n : Int) - 1))) ∧ w = w' := by
  by_cases h : 0 ≤ x
  · go_enter Tryd.func50, Tryd.ntmps50
    go_wp2
    go_ret
    exact ⟨ret_bool (inB_node x n h), rfl⟩
  · go_enter Tryd.func50, Tryd.ntmps50
    go_wp2
    go_ret
    exact ⟨ret_bool (inB_false (by omega)).symm, rfl⟩
theorem edB_cases (n : Nat) (e : Edg) :
    (inB e.id 1 99 = false ∧ edB n e = false) ∨ (inB e.id 1 99 = true ∧ inB e.fr 0 ((n : Int) - 1) = false ∧ edB n e = false) ∨
    (inB e.id 1 99 = true ∧ inB e.fr 0 ((n : Int) - 1) = true ∧ inB e.to 0 ((n : Int) - 1) = false ∧ edB n e = false) ∨
    (inB e.id 1 99 = true ∧ inB e.fr 0 ((n : Int) - 1) = true ∧ inB e.to 0 ((n : Int) - 1) = true ∧ edB n e = inB e.lb 0 2) := by
  rw [edB_split n e _ rfl]
  cases inB e.id 1 99 <;> cases inB e.fr 0 ((n : Int) - 1) <;> cases inB e.to 0 ((n : Int) - 1) <;> simp
set_option maxRecDepth 100000 in
theorem l3Edge_any (v : Value) (g : Grf) (e : Edg) (w : World) (h : GrfAt w v g) (h1 : g.vs.length ≤ maxLen) :
    Calls Tryd.prog 56 #[v, ev e] w fun en w' => en = .returned (.bool (edB g.vs.length e)) ∧ Since w w' := by
  unfold maxLen at h1
  obtain ⟨a, b, rfl, ha, hb⟩ := h
  obtain ⟨ao, ac, rfl, _⟩ := ha.row
  obtain ⟨bo, bc, rfl⟩ := hb.len
  clear ha hb
  obtain ⟨n, hn⟩ : ∃ n, n = g.vs.length := ⟨_, rfl⟩
  obtain ⟨m, hm⟩ : ∃ m, m = g.es.length := ⟨_, rfl⟩
  rw [← hn] at h1 ⊢
  rw [← hm]
  clear hn hm
  have hs0 : Since w ((w.alloc (.cells #[.slice ao n ac, .slice bo m bc] 40)).alloc (.cells #[.int .i64 e.id, .int .i64 e.fr, .int .i64 e.to, .int .i64 e.lb] 25)) := ((Since.refl w).alloc _).alloc _
  rcases edB_cases n e with ⟨c1, c⟩ | ⟨c1, c2, c⟩ | ⟨c1, c2, c3, c⟩ | ⟨c1, c2, c3, c⟩
  all_goals
    have C := Lib.hid c
    clear c
    go_enter Tryd.func56, Tryd.ntmps56
    go_wp2_with (go_at_call 22; refine (l1In_any _ _ _ _).mono ?_; rintro e w' ⟨rfl, rfl⟩)
    go_ret
    exact ⟨ret_bool C.out.symm, hs0⟩
set_option maxRecDepth 100000 in
theorem isEdge_any (e : Edg) (n : Nat) (w : World) :
    Calls Tryd.prog 25 #[ev e, .int .i64 (n : Int)] w fun en w' => en = .returned (.bool (edB n e)) ∧ Since w w' := by
  have hs0 : Since w (w.alloc (.cells #[.int .i64 e.id, .int .i64 e.fr, .int .i64 e.to, .int .i64 e.lb] 25)) := (Since.refl w).alloc _
  by_cases d1 : 1 ≤ e.id
  · by_cases d2 : e.id ≤ 99
    · by_cases d3 : 0 ≤ e.lb
      all_goals
        rcases edB_cases n e with ⟨c1, c⟩ | ⟨c1, c2, c⟩ | ⟨c1, c2, c3, c⟩ | ⟨c1, c2, c3, c⟩
        · rw [inB_true d1 d2] at c1; cases c1
        all_goals
          have C := Lib.hid c
          clear c
          go_enter Tryd.func25, Tryd.ntmps25
          go_wp2_with (go_at_call 50; refine (isNode_any _ _ _).mono ?_; rintro e w' ⟨rfl, rfl⟩)
          go_ret
          exact ⟨ret_bool (by first | (rw [C.out]; done) | (rw [C.out]; exact inB_lb _ d3) | (rw [C.out, inB_false (by omega)])), hs0⟩
    · have C : Hid (edB n e = false) := edB_false (fun h => d2 h.1.2)
      go_enter Tryd.func25, Tryd.ntmps25
      go_wp2
      go_ret
      exact ⟨ret_bool C.out.symm, hs0⟩
  · have C : Hid (edB n e = false) := edB_false (fun h => d1 h.1.1)
    go_enter Tryd.func25, Tryd.ntmps25
    go_wp2
    go_ret
    exact ⟨ret_bool C.out.symm, hs0⟩
theorem l3Edge_is (v : Value) (g : Grf) (e : Edg) (c : Bool) (w : World) (h : GrfAt w v g) (h1 : g.vs.length ≤ maxLen) (hc : edB g.vs.length e = c) :
    Calls Tryd.prog 56 #[v, ev e] w fun en w' => en = .returned (.bool c) ∧ Since w w' := by subst hc; exact l3Edge_any v g e w h h1
theorem isEdge_is (e : Edg) (n : Nat) (c : Bool) (w : World) (hc : edB n e = c) :
    Calls Tryd.prog 25 #[ev e, .int .i64 (n : Int)] w fun en w' => en = .returned (.bool c) ∧ Since w w' := by subst hc; exact isEdge_any e n w
end Go.Proofs.YtfcghdfcimnpoaaDoor
