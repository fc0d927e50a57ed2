/- Graphs as plain data: what chapter 3's functions answer. -/
import Derived.Test.YtilkheclimammaaEdg
import Derived.Test.YtilkheclimammaaCmp
namespace Go.Proofs.Ytilkheclimammaa
set_option maxRecDepth 100000
open Go.ChangeShapes Go.WideShapes Go.ChangeAt Go.RowKit
set_option linter.unusedVariables false

structure Grf where
  vs : List Int
  es : List Edg
theorem Grf.eq_iff (a b : Grf) : a = b ↔ (a.vs = b.vs ∧ a.es = b.es) :=
  ⟨fun h => by subst h; exact ⟨rfl, rfl⟩, fun h => by cases a; cases b; simp_all⟩
instance : DecidableEq Grf := fun a b => decidable_of_iff _ (Grf.eq_iff a b).symm

/-- An edge of a graph of n nodes. -/
def EdOk (n : Nat) (e : Edg) : Prop := (1 ≤ e.id ∧ e.id ≤ 99) ∧ (0 ≤ e.fr ∧ e.fr < n) ∧ (0 ≤ e.to ∧ e.to < n) ∧ (0 ≤ e.lb ∧ e.lb ≤ 2)
instance (n : Nat) (e : Edg) : Decidable (EdOk n e) := by unfold EdOk; exact inferInstance
def edB (n : Nat) (e : Edg) : Bool := decide (EdOk n e)
def idLt (a b : Edg) : Prop := a.id < b.id
instance : DecidableRel idLt := fun a b => by unfold idLt; exact inferInstance
def Valid (g : Grf) : Prop := (1 ≤ g.vs.length ∧ g.vs.length ≤ 5 ∧ g.es.length ≤ 12) ∧ (∀ x ∈ g.vs, 0 ≤ x ∧ x ≤ 2) ∧ (∀ e ∈ g.es, EdOk g.vs.length e) ∧ g.es.Pairwise idLt
instance (g : Grf) : Decidable (Valid g) := by unfold Valid; exact inferInstance
def validB (g : Grf) : Bool := decide (Valid g)
theorem validB_true {g : Grf} (h : Valid g) : validB g = true := decide_eq_true h
theorem validB_false {g : Grf} (h : ¬ Valid g) : validB g = false := decide_eq_false h
theorem validB_iff (g : Grf) : validB g = true ↔ Valid g := decide_eq_true_iff
theorem edB_true {n : Nat} {e : Edg} (h : EdOk n e) : edB n e = true := decide_eq_true h
theorem edB_false {n : Nat} {e : Edg} (h : ¬ EdOk n e) : edB n e = false := decide_eq_false h
theorem edB_iff (n : Nat) (e : Edg) : edB n e = true ↔ EdOk n e := decide_eq_true_iff
theorem edB_split (n : Nat) (e : Edg) (m : Int) (hm : m = (n : Int) - 1) : edB n e = (inB e.id 1 99 && inB e.fr 0 m && inB e.to 0 m && inB e.lb 0 2) := by
  subst hm
  rw [Bool.eq_iff_iff, edB_iff]
  unfold EdOk inB
  simp only [Bool.and_eq_true, decide_eq_true_eq]
  omega
theorem edB_ids {n : Nat} {e : Edg} (h : edB n e = true) : 1 ≤ e.id ∧ e.id ≤ 99 := ((edB_iff n e).1 h).1

theorem asc_step {es : List Edg} {k : Nat} (hk : k < es.length) (h : (es.take k).Pairwise idLt) (hlast : ∀ (h0 : 0 < k), (es[k - 1]'(by omega)).id < (es[k]).id) : (es.take (k + 1)).Pairwise idLt := by
  rw [List.take_succ_eq_append_getElem hk, List.pairwise_append]
  refine ⟨h, List.pairwise_singleton _ _, ?_⟩
  intro a ha b hb
  simp at hb; subst hb
  obtain ⟨i, hi, rfl⟩ := List.getElem_of_mem ha
  have hik : i < k := by simp at hi; omega
  rw [List.getElem_take]
  by_cases hl : i = k - 1
  · subst hl; exact hlast (by omega)
  · have h2 := List.pairwise_iff_getElem.1 h i (k - 1) (by simp; omega) (by simp; omega) (by omega)
    rw [List.getElem_take, List.getElem_take] at h2
    have h3 := hlast (by omega)
    unfold idLt at h2 ⊢; omega
theorem asc_not {es : List Edg} {k : Nat} (hk : k < es.length) (h0 : 0 < k) (h : (es[k]).id ≤ (es[k - 1]'(by omega)).id) : ¬ es.Pairwise idLt := by
  intro hp
  have := List.pairwise_iff_getElem.1 hp (k - 1) k (by omega) hk (by omega)
  unfold idLt at this; omega
theorem all_take_step {α : Type} {P : α → Prop} {xs : List α} {k : Nat} (hk : k < xs.length) (h : ∀ x ∈ xs.take k, P x) (hx : P xs[k]) : ∀ x ∈ xs.take (k + 1), P x := by
  intro x hm
  rw [List.take_succ_eq_append_getElem hk] at hm
  rcases List.mem_append.1 hm with hm | hm
  · exact h x hm
  · simp at hm; subst hm; exact hx

/-- The place of the first edge with this number, or -1. -/
def findE (es : List Edg) (id : Int) : Option Nat := es.findIdx? fun e => decide (e.id = id)
def idxE (es : List Edg) (id : Int) : Int := match findE es id with | some k => (k : Int) | none => -1
theorem idxE_at {es : List Edg} {id : Int} {k : Nat} (hk : k < es.length) (h : (es[k]).id = id) (hlt : ∀ j (hj : j < k), (es[j]'(by omega)).id ≠ id) : idxE es id = k := by
  unfold idxE findE
  rw [List.findIdx?_eq_some_iff_getElem.2 ⟨hk, by simpa using h, fun j hj => by simpa using hlt j hj⟩]
theorem idxE_none {es : List Edg} {id : Int} (h : ∀ j (hj : j < es.length), (es[j]).id ≠ id) : idxE es id = -1 := by
  unfold idxE findE
  rw [List.findIdx?_eq_none_iff.2 (fun x hx => by obtain ⟨j, hj, rfl⟩ := List.getElem_of_mem hx; simpa using h j hj)]
theorem idxE_cases (es : List Edg) (id : Int) : (∃ k : Nat, ∃ hk : k < es.length, idxE es id = k ∧ (es[k]).id = id ∧ ∀ j (hj : j < k), (es[j]'(by omega)).id ≠ id) ∨ (idxE es id = -1 ∧ ∀ j (hj : j < es.length), (es[j]).id ≠ id) := by
  cases e : findE es id with
  | none =>
    refine .inr ⟨by unfold idxE; rw [e], fun j hj => ?_⟩
    have := List.findIdx?_eq_none_iff.1 e _ (List.getElem_mem hj)
    simpa using this
  | some k =>
    obtain ⟨hk, h1, h2⟩ := List.findIdx?_eq_some_iff_getElem.1 e
    exact .inl ⟨k, hk, by unfold idxE; rw [e], by simpa using h1, fun j hj => by simpa using h2 j hj⟩

/-- The place at which an edge with this number is inserted. -/
def lbE (es : List Edg) (id : Int) : Nat := es.findIdx fun e => decide (id ≤ e.id)
theorem lbE_le (es : List Edg) (id : Int) : lbE es id ≤ es.length := List.findIdx_le_length
theorem lbE_below {es : List Edg} {id : Int} {j : Nat} (h : j < lbE es id) : (es[j]'(Nat.lt_of_lt_of_le h (lbE_le es id))).id < id := by
  have := List.not_of_lt_findIdx h
  simpa using this
theorem lbE_at {es : List Edg} {id : Int} (h : lbE es id < es.length) : id ≤ (es[lbE es id]).id := by
  have := List.findIdx_getElem (w := h)
  exact of_decide_eq_true this
theorem lbE_is {es : List Edg} {id : Int} {k : Nat} (hk : k ≤ es.length) (h1 : ∀ j (hj : j < k), (es[j]'(by omega)).id < id) (h2 : ∀ (h : k < es.length), id ≤ (es[k]).id) : lbE es id = k := by
  rcases Nat.lt_trichotomy (lbE es id) k with h | h | h
  · have a := lbE_at (es := es) (id := id) (by omega)
    have b := h1 _ h
    omega
  · exact h
  · have a := lbE_below h
    have b := h2 (by have := lbE_le es id; omega)
    omega
/-- In ascending order, a number is used just where it would be inserted. -/
theorem lbE_idx {es : List Edg} {id : Int} (hs : es.Pairwise idLt) : (∃ h : lbE es id < es.length, (es[lbE es id]).id = id ∧ idxE es id = lbE es id) ∨ ((∀ h : lbE es id < es.length, (es[lbE es id]).id ≠ id) ∧ idxE es id = -1) := by
  rcases idxE_cases es id with ⟨k, hk, h1, h2, h3⟩ | ⟨h1, h2⟩
  · have e : lbE es id = k := by
      refine lbE_is (by omega) (fun j hj => ?_) (fun _ => by omega)
      have := List.pairwise_iff_getElem.1 hs j k (by omega) hk hj
      unfold idLt at this; omega
    refine .inl ⟨by omega, ?_, by omega⟩
    simp only [e]; exact h2
  · exact .inr ⟨fun h => h2 _ h, h1⟩
theorem asc_le {es : List Edg} (hs : es.Pairwise idLt) {i j : Nat} (hij : i ≤ j) (hj : j < es.length) : (es[i]'(by omega)).id ≤ (es[j]).id := by
  by_cases e : i = j
  · subst e; exact Int.le_refl _
  · have := List.pairwise_iff_getElem.1 hs i j (by omega) hj (by omega)
    unfold idLt at this; omega
def insL (es : List Edg) (e : Edg) : List Edg := es.take (lbE es e.id) ++ e :: es.drop (lbE es e.id)
def canIns (g : Grf) (e : Edg) : Bool := validB g && edB g.vs.length e && decide (idxE g.es e.id < 0) && decide (g.es.length ≠ 12)
def insG (g : Grf) (e : Edg) : Grf := if canIns g e = true then ⟨g.vs, insL g.es e⟩ else g
def canDel (g : Grf) (id : Int) : Bool := validB g && decide (0 ≤ idxE g.es id)
def delL (es : List Edg) (k : Nat) : List Edg := es.take k ++ es.drop (k + 1)
def delG (g : Grf) (id : Int) : Grf := if canDel g id = true then ⟨g.vs, delL g.es (idxE g.es id).toNat⟩ else g
def canSet (g : Grf) (node v : Int) : Bool := validB g && inB node 0 ((g.vs.length : Int) - 1) && inB v 0 2
def setG (g : Grf) (node v : Int) : Grf := if canSet g node v = true then ⟨g.vs.set node.toNat v, g.es⟩ else g
def revE (e : Edg) : Edg := ⟨e.id, e.to, e.fr, e.lb⟩
def revG (g : Grf) : Grf := ⟨g.vs, g.es.map revE⟩

/-- v is a graph that reads as g. -/
def GrfAt (w : World) (v : Value) (g : Grf) : Prop := ∃ a b, v = .agg #[a, b] ∧ IntsAt w a g.vs ∧ EdgesAt w b g.es
theorem GrfAt.since {w w' : World} {v : Value} {g : Grf} (h : GrfAt w v g) (k : Since w w') : GrfAt w' v g := by
  obtain ⟨a, b, rfl, h1, h2⟩ := h; exact ⟨a, b, rfl, h1.since k, h2.since k⟩
end Go.Proofs.Ytilkheclimammaa
