/- Valid, VgS, VgI, VgWalk, Ei: small words and contracts that the other texts use. -/
import Derived.Test.YtdbedoediicmhaaDoorK1
import Derived.Test.YtdbedoediicmhaaDoorK0
import Derived.IntWalk
/- Which edges and graphs are valid: the model's tests and the program's. -/
namespace Go.Proofs.YtdbedoediicmhaaDoor
set_option maxRecDepth 100000
open Go.ChangeShapes Go.WideShapes Go.ChangeAt Go.RowKit
set_option linter.unusedVariables false
theorem inB_node (x : Int) (n : Nat) (h : 0 ≤ x) : decide (x < (n : Int)) = inB x 0 ((n : Int) - 1) := by
  unfold inB; rw [Bool.eq_iff_iff]; simp; omega
theorem inB_lb (x : Int) (h : 0 ≤ x) : decide (x < 3) = inB x 0 2 := by
  unfold inB; rw [Bool.eq_iff_iff]; simp; omega
theorem isNode_any (x : Int) (n : Nat) (w : World) : Calls Tryd.prog 46 #[.int .i64 x, .int .i64 (n : Int)] w fun e w' => e = .returned (.bool (inB x 0 ((n : Int) - 1))) ∧ w = w' := by
  by_cases h : 0 ≤ x
  · go_enter Tryd.func46, Tryd.ntmps46
    go_wp2
    go_ret
    exact ⟨ret_bool (inB_node x n h), rfl⟩
  · go_enter Tryd.func46, Tryd.ntmps46
    go_wp2
    go_ret
    exact ⟨ret_bool (inB_false (by omega)).symm, rfl⟩
theorem edB_cases (n : Nat) (e : Edg) :
    (inB e.id 1 99 = false ∧ edB n e = false) ∨ (inB e.id 1 99 = true ∧ inB e.fr 0 ((n : Int) - 1) = false ∧ edB n e = false) ∨
    (inB e.id 1 99 = true ∧ inB e.fr 0 ((n : Int) - 1) = true ∧ inB e.to 0 ((n : Int) - 1) = false ∧ edB n e = false) ∨
    (inB e.id 1 99 = true ∧ inB e.fr 0 ((n : Int) - 1) = true ∧ inB e.to 0 ((n : Int) - 1) = true ∧ edB n e = inB e.lb 0 2) := by
  rw [edB_split n e _ rfl]
  cases inB e.id 1 99 <;> cases inB e.fr 0 ((n : Int) - 1) <;> cases inB e.to 0 ((n : Int) - 1) <;> simp
theorem isEdgeID_any (x : Int) (w : World) : Calls Tryd.prog 45 #[.int .i64 x] w fun e w' => e = .returned (.bool (inB x 1 99)) ∧ w = w' := by
  by_cases d1 : 1 ≤ x
  · by_cases d2 : x ≤ 99
    · have C := Lib.hid (inB_true d1 d2)
      go_enter Tryd.func45, Tryd.ntmps45
      go_wp2
      go_ret
      exact ⟨ret_bool C.out.symm, rfl⟩
    · have C : Hid (inB x 1 99 = false) := inB_false (by omega)
      go_enter Tryd.func45, Tryd.ntmps45
      go_wp2
      go_ret
      exact ⟨ret_bool C.out.symm, rfl⟩
  · have C : Hid (inB x 1 99 = false) := inB_false (by omega)
    go_enter Tryd.func45, Tryd.ntmps45
    go_wp2
    go_ret
    exact ⟨ret_bool C.out.symm, rfl⟩
set_option maxRecDepth 100000 in
theorem isEdge_any (e : Edg) (n : Nat) (w : World) :
    Calls Tryd.prog 31 #[ev e, .int .i64 (n : Int)] w fun en w' => en = .returned (.bool (edB n e)) ∧ Since w w' := by
  have hs0 : Since w (w.alloc (.cells #[.int .i64 e.id, .int .i64 e.fr, .int .i64 e.to, .int .i64 e.lb] 40)) := (Since.refl w).alloc _
  by_cases d3 : 0 ≤ e.lb
  all_goals
    rcases edB_cases n e with ⟨c1, c⟩ | ⟨c1, c2, c⟩ | ⟨c1, c2, c3, c⟩ | ⟨c1, c2, c3, c⟩
    all_goals
      have C := Lib.hid c
      clear c
      go_enter Tryd.func31, Tryd.ntmps31
      go_wp2_with (first | (go_at_call 45; refine (isEdgeID_any _ _).mono ?_; rintro e w' ⟨rfl, rfl⟩) | (go_at_call 46; refine (isNode_any _ _ _).mono ?_; rintro e w' ⟨rfl, rfl⟩))
      go_ret
      exact ⟨ret_bool (by first | (rw [C.out]; done) | (rw [C.out]; exact inB_lb _ d3) | (rw [C.out, inB_false (by omega)])), hs0⟩
theorem isEdge_is (e : Edg) (n : Nat) (c : Bool) (w : World) (hc : edB n e = c) :
    Calls Tryd.prog 31 #[ev e, .int .i64 (n : Int)] w fun en w' => en = .returned (.bool c) ∧ Since w w' := by subst hc; exact isEdge_any e n w
end Go.Proofs.YtdbedoediicmhaaDoor

/- IsValidGraph, the model's. -/
namespace Go.Proofs.YtdbedoediicmhaaDoor
set_option maxRecDepth 100000
open Go.ChangeShapes Go.WideShapes Go.ChangeAt Go.RowKit
set_option linter.unusedVariables false
set_option linter.unusedSimpArgs false

theorem valid_all {g : Grf} (h1 : ∀ x ∈ g.vs, inB x 0 2 = true) (h2 : ∀ e ∈ g.es, edB g.vs.length e = true) (h3 : g.es.Pairwise idLt) : validB g = (inB (g.vs.length : Int) 1 5 && decide (g.es.length ≤ 12)) := by
  rw [Bool.eq_iff_iff, validB_iff]
  unfold Valid inB
  simp only [Bool.and_eq_true, decide_eq_true_eq]
  constructor
  · intro h; obtain ⟨⟨a, b, c⟩, _⟩ := h; omega
  · intro h
    refine ⟨by omega, fun x hx => ?_, fun e he => (edB_iff _ _).1 (h2 e he), h3⟩
    have := h1 x hx
    unfold inB at this; simpa using this
theorem valid_bad_v {g : Grf} {k : Nat} (hk : k < g.vs.length) (h : inB g.vs[k] 0 2 = false) : validB g = false := by
  refine validB_false (fun hv => ?_)
  have := hv.2.1 _ (List.getElem_mem hk)
  rw [inB_true this.1 this.2] at h; cases h
theorem valid_bad_e {g : Grf} {k : Nat} (hk : k < g.es.length) (h : edB g.vs.length g.es[k] = false) : validB g = false := by
  refine validB_false (fun hv => ?_)
  have := hv.2.2.1 _ (List.getElem_mem hk)
  rw [edB_true this] at h; cases h
theorem valid_bad_o {g : Grf} {k : Nat} (hk : k < g.es.length) (h0 : 0 < k) (h : (g.es[k]).id ≤ (g.es[k - 1]'(by omega)).id) : validB g = false :=
  validB_false (fun hv => asc_not hk h0 h hv.2.2.2)

end Go.Proofs.YtdbedoediicmhaaDoor

/- IsValidGraph, the program's. -/
namespace Go.Proofs.YtdbedoediicmhaaDoor
set_option maxRecDepth 100000
open Go.ChangeShapes Go.WideShapes Go.ChangeAt Go.RowKit
set_option linter.unusedVariables false
set_option linter.unusedSimpArgs false

/-- The number of the edge ahead of place j, 0 at the first. -/
def prevId (es : List Edg) (j : Nat) : Int := if h : 0 < j ∧ j ≤ es.length then (es[j - 1]'(by omega)).id else 0
theorem prevId_zero (es : List Edg) : prevId es 0 = 0 := by unfold prevId; rw [dif_neg (by omega)]
theorem prevId_succ {es : List Edg} {j : Nat} (h : j < es.length) : prevId es (j + 1) = (es[j]).id := by unfold prevId; rw [dif_pos ⟨by omega, by omega⟩]; simp
theorem asc_step_prev {es : List Edg} {j : Nat} (hj : j < es.length) (hp : (es.take j).Pairwise idLt) (h : prevId es j < (es[j]).id) : (es.take (j + 1)).Pairwise idLt :=
  asc_step hj hp (fun h0 => by unfold prevId at h; rw [dif_pos ⟨h0, by omega⟩] at h; exact h)
theorem bad_prev {g : Grf} {j : Nat} (hj : j < g.es.length) (hed : edB g.vs.length g.es[j] = true) (h : (g.es[j]).id ≤ prevId g.es j) : validB g = false := by
  by_cases h0 : 0 < j
  · exact valid_bad_o hj h0 (by unfold prevId at h; rw [dif_pos ⟨h0, by omega⟩] at h; exact h)
  · have := edB_ids hed
    unfold prevId at h; rw [dif_neg (by omega)] at h; omega

end Go.Proofs.YtdbedoediicmhaaDoor

/- The law of IsValidGraph, walked. -/
namespace Go.Proofs.YtdbedoediicmhaaDoor
set_option maxRecDepth 100000
open Go.ChangeShapes Go.WideShapes Go.ChangeAt Go.RowKit
set_option linter.unusedVariables false
set_option linter.unusedSimpArgs false

theorem szG_small {g : Grf} (h : ¬ szG g 1048576 < 0) : g.vs.length ≤ 1048577 ∧ g.es.length ≤ 1048577 ∧ (g.vs.length : Int) + (g.es.length : Int) ≤ 1048576 ∧ szG g 1048576 = 1048576 - (g.vs.length : Int) - (g.es.length : Int) := by
  unfold szG szLeft at h ⊢
  by_cases c : (1048576 : Int) - (g.vs.length : Int) < 0
  · rw [if_pos c] at h; omega
  · rw [if_neg c] at h ⊢
    by_cases d : (1048576 : Int) - (g.vs.length : Int) - (g.es.length : Int) < 0
    · rw [if_pos d] at h; omega
    · rw [if_neg d] at h ⊢; omega
end Go.Proofs.YtdbedoediicmhaaDoor

/- EdgeIndex, the model's and the program's. -/
namespace Go.Proofs.YtdbedoediicmhaaDoor
set_option maxRecDepth 100000
open Go.ChangeShapes Go.WideShapes Go.ChangeAt Go.RowKit
set_option linter.unusedVariables false
set_option linter.unusedSimpArgs false

theorem ne_step {es : List Edg} {id : Int} {k : Nat} (hk : k < es.length) (h : ∀ j (hj : j < k), (es[j]'(by omega)).id ≠ id) (hx : (es[k]).id ≠ id) : ∀ j (hj : j < k + 1), (es[j]'(by omega)).id ≠ id := by
  intro j hj
  by_cases e : j = k
  · subst e; exact hx
  · exact h j (by omega)
/-- No edge ahead of place k has this number. -/
def noneTo (es : List Edg) (id : Int) (k : Nat) : Prop := ∀ j (_ : j < k) (h : j < es.length), (es[j]).id ≠ id
theorem noneTo_zero (es : List Edg) (id : Int) : noneTo es id 0 := fun j hj => by omega
theorem noneTo_step {es : List Edg} {id : Int} {k : Nat} (hk : k < es.length) (h : noneTo es id k) (hx : (es[k]).id ≠ id) : noneTo es id (k + 1) := by
  intro j hj hl
  by_cases e : j = k
  · subst e; exact hx
  · exact h j (by omega) hl
theorem noneTo_hit {es : List Edg} {id : Int} {k : Nat} (hk : k < es.length) (h : noneTo es id k) (hx : (es[k]).id = id) : idxE es id = k := idxE_at hk hx (fun j hj => h j hj (by omega))
theorem noneTo_end {es : List Edg} {id : Int} (h : noneTo es id es.length) : idxE es id = -1 := idxE_none (fun j hj => h j hj hj)

end Go.Proofs.YtdbedoediicmhaaDoor
