/- Valid, VgS, VgI, VgWalk, Ei: small words and contracts that the other texts use. -/
import Derived.Test.YtmaagihfjldgeaaK1
import Derived.Test.YtmaagihfjldgeaaK0
import Derived.IntWalk
/- Which edges and graphs are valid: the model's tests and the program's. -/
namespace Go.Proofs.Ytmaagihfjldgeaa
set_option maxRecDepth 100000
open Go.ChangeShapes Go.WideShapes Go.ChangeAt Go.RowKit
set_option linter.unusedVariables false
theorem inB_node (x : Int) (n : Nat) (h : 0 ≤ x) : decide (x < (n : Int)) = inB x 0 ((n : Int) - 1) := by
  unfold inB; rw [Bool.eq_iff_iff]; simp; omega
theorem inB_lb (x : Int) (h : 0 ≤ x) : decide (x < 3) = inB x 0 2 := by
  unfold inB; rw [Bool.eq_iff_iff]; simp; omega
theorem edB_cases (n : Nat) (e : Edg) :
    (inB e.id 1 99 = false ∧ edB n e = false) ∨ (inB e.id 1 99 = true ∧ inB e.fr 0 ((n : Int) - 1) = false ∧ edB n e = false) ∨
    (inB e.id 1 99 = true ∧ inB e.fr 0 ((n : Int) - 1) = true ∧ inB e.to 0 ((n : Int) - 1) = false ∧ edB n e = false) ∨
    (inB e.id 1 99 = true ∧ inB e.fr 0 ((n : Int) - 1) = true ∧ inB e.to 0 ((n : Int) - 1) = true ∧ edB n e = inB e.lb 0 2) := by
  rw [edB_split n e _ rfl]
  cases inB e.id 1 99 <;> cases inB e.fr 0 ((n : Int) - 1) <;> cases inB e.to 0 ((n : Int) - 1) <;> simp
end Go.Proofs.Ytmaagihfjldgeaa

/- IsValidGraph, the model's. -/
namespace Go.Proofs.Ytmaagihfjldgeaa
set_option maxRecDepth 100000
open Go.ChangeShapes Go.WideShapes Go.ChangeAt Go.RowKit
set_option linter.unusedVariables false
set_option linter.unusedSimpArgs false

theorem valid_all {g : Grf} (h1 : ∀ x ∈ g.vs, inB x 0 2 = true) (h2 : ∀ e ∈ g.es, edB g.vs.length e = true) (h3 : g.es.Pairwise idLt) : validB g = (inB (g.vs.length : Int) 1 5 && decide (g.es.length ≤ 12)) := by
  rw [Bool.eq_iff_iff, validB_iff]
  unfold Valid inB
  simp only [Bool.and_eq_true, decide_eq_true_eq]
  constructor
  · intro h; obtain ⟨⟨a, b, c⟩, _⟩ := h; omega
  · intro h
    refine ⟨by omega, fun x hx => ?_, fun e he => (edB_iff _ _).1 (h2 e he), h3⟩
    have := h1 x hx
    unfold inB at this; simpa using this
theorem valid_bad_v {g : Grf} {k : Nat} (hk : k < g.vs.length) (h : inB g.vs[k] 0 2 = false) : validB g = false := by
  refine validB_false (fun hv => ?_)
  have := hv.2.1 _ (List.getElem_mem hk)
  rw [inB_true this.1 this.2] at h; cases h
theorem valid_bad_e {g : Grf} {k : Nat} (hk : k < g.es.length) (h : edB g.vs.length g.es[k] = false) : validB g = false := by
  refine validB_false (fun hv => ?_)
  have := hv.2.2.1 _ (List.getElem_mem hk)
  rw [edB_true this] at h; cases h
theorem valid_bad_o {g : Grf} {k : Nat} (hk : k < g.es.length) (h0 : 0 < k) (h : (g.es[k]).id ≤ (g.es[k - 1]'(by omega)).id) : validB g = false :=
  validB_false (fun hv => asc_not hk h0 h hv.2.2.2)

end Go.Proofs.Ytmaagihfjldgeaa

/- IsValidGraph, the program's. -/
namespace Go.Proofs.Ytmaagihfjldgeaa
set_option maxRecDepth 100000
open Go.ChangeShapes Go.WideShapes Go.ChangeAt Go.RowKit
set_option linter.unusedVariables false
set_option linter.unusedSimpArgs false

/-- The number of the edge ahead of place j, 0 at the first. -/
def prevId (es : List Edg) (j : Nat) : Int := if h : 0 < j ∧ j ≤ es.length then (es[j - 1]'(by omega)).id else 0
theorem prevId_zero (es : List Edg) : prevId es 0 = 0 := by unfold prevId; rw [dif_neg (by omega)]
theorem prevId_succ {es : List Edg} {j : Nat} (h : j < es.length) : prevId es (j + 1) = (es[j]).id := by unfold prevId; rw [dif_pos ⟨by omega, by omega⟩]; simp
theorem asc_step_prev {es : List Edg} {j : Nat} (hj : j < es.length) (hp : (es.take j).Pairwise idLt) (h : prevId es j < (es[j]).id) : (es.take (j + 1)).Pairwise idLt :=
  asc_step hj hp (fun h0 => by unfold prevId at h; rw [dif_pos ⟨h0, by omega⟩] at h; exact h)
theorem bad_prev {g : Grf} {j : Nat} (hj : j < g.es.length) (hed : edB g.vs.length g.es[j] = true) (h : (g.es[j]).id ≤ prevId g.es j) : validB g = false := by
  by_cases h0 : 0 < j
  · exact valid_bad_o hj h0 (by unfold prevId at h; rw [dif_pos ⟨h0, by omega⟩] at h; exact h)
  · have := edB_ids hed
    unfold prevId at h; rw [dif_neg (by omega)] at h; omega

end Go.Proofs.Ytmaagihfjldgeaa

/- The law of IsValidGraph, walked. -/
namespace Go.Proofs.Ytmaagihfjldgeaa
set_option maxRecDepth 100000
open Go.ChangeShapes Go.WideShapes Go.ChangeAt Go.RowKit
set_option linter.unusedVariables false
set_option linter.unusedSimpArgs false

theorem szG_small {g : Grf} (h : ¬ szG g 1048576 < 0) : g.vs.length ≤ 1048577 ∧ g.es.length ≤ 1048577 ∧ (g.vs.length : Int) + (g.es.length : Int) ≤ 1048576 ∧ szG g 1048576 = 1048576 - (g.vs.length : Int) - (g.es.length : Int) := by
  unfold szG szLeft at h ⊢
  by_cases c : (1048576 : Int) - (g.vs.length : Int) < 0
  · rw [if_pos c] at h; omega
  · rw [if_neg c] at h ⊢
    by_cases d : (1048576 : Int) - (g.vs.length : Int) - (g.es.length : Int) < 0
    · rw [if_pos d] at h; omega
    · rw [if_neg d] at h ⊢; omega
end Go.Proofs.Ytmaagihfjldgeaa

/- EdgeIndex, the model's and the program's. -/
namespace Go.Proofs.Ytmaagihfjldgeaa
set_option maxRecDepth 100000
open Go.ChangeShapes Go.WideShapes Go.ChangeAt Go.RowKit
set_option linter.unusedVariables false
set_option linter.unusedSimpArgs false

theorem ne_step {es : List Edg} {id : Int} {k : Nat} (hk : k < es.length) (h : ∀ j (hj : j < k), (es[j]'(by omega)).id ≠ id) (hx : (es[k]).id ≠ id) : ∀ j (hj : j < k + 1), (es[j]'(by omega)).id ≠ id := by
  intro j hj
  by_cases e : j = k
  · subst e; exact hx
  · exact h j (by omega)
/-- No edge ahead of place k has this number. -/
def noneTo (es : List Edg) (id : Int) (k : Nat) : Prop := ∀ j (_ : j < k) (h : j < es.length), (es[j]).id ≠ id
theorem noneTo_zero (es : List Edg) (id : Int) : noneTo es id 0 := fun j hj => by omega
theorem noneTo_step {es : List Edg} {id : Int} {k : Nat} (hk : k < es.length) (h : noneTo es id k) (hx : (es[k]).id ≠ id) : noneTo es id (k + 1) := by
  intro j hj hl
  by_cases e : j = k
  · subst e; exact hx
  · exact h j (by omega) hl
theorem noneTo_hit {es : List Edg} {id : Int} {k : Nat} (hk : k < es.length) (h : noneTo es id k) (hx : (es[k]).id = id) : idxE es id = k := idxE_at hk hx (fun j hj => h j hj (by omega))
theorem noneTo_end {es : List Edg} {id : Int} (h : noneTo es id es.length) : idxE es id = -1 := idxE_none (fun j hj => h j hj hj)

end Go.Proofs.Ytmaagihfjldgeaa
