/- The automaton of a machine whose states are found: what it accepts. Plain data. -/
import Derived.Test.YtmaagihfjldgeaaMiM
namespace Go.Proofs.Ytmaagihfjldgeaa
set_option maxRecDepth 100000
set_option linter.unusedVariables false
set_option linter.unusedSimpArgs false
set_option linter.unusedSectionVars false

section
variable {α : Type} [DecidableEq α]
/-- Where a word leads to. -/
def goO (step : α → Nat → Option α) (x : α) : List Int → Option α
  | [] => some x
  | k :: w => (step x k.toNat).bind fun z => goO step z w
/-- Whether a word is accepted from a state of the machine. -/
def acO (step : α → Nat → Option α) (acc : α → Bool) (x : α) (w : List Int) : Bool := match goO step x w with
  | none => false
  | some z => acc z
def cellG (step : α → Nat → Option α) (F : List α) (x : α) (k : Nat) : Int := match step x k with
  | none => -1
  | some z => (posG F z : Int)
/-- The automaton of the states F, numbered by their places; the first is the start. -/
def autG (step : α → Nat → Option α) (acc : α → Bool) (F : List α) : Aut := ⟨0, F.map acc, F.map fun x => (List.range 9).map (cellG step F x)⟩
/-- F is what is found: it is closed. -/
def ClosG (step : α → Nat → Option α) (F : List α) : Prop := ∀ x ∈ F, ∀ k z, k < 9 → step x k = some z → z ∈ F
variable {step : α → Nat → Option α} {acc : α → Bool} {F : List α}
theorem cellG_in (hc : ClosG step F) {x : α} (hx : x ∈ F) {k : Nat} (hk : k < 9) : -1 ≤ cellG step F x k ∧ cellG step F x k < (F.length : Int) := by
  unfold cellG
  cases e : step x k with
  | none => simp only; omega
  | some z =>
    have := posG_lt F z (hc x hx k z hk e)
    simp only
    omega
theorem autG_valid (hc : ClosG step F) (h0 : 0 < F.length) (h1 : F.length ≤ 1000) : ValidA (autG step acc F) := by
  refine ⟨by simp [autG]; exact h1, by simp [autG], ⟨Int.le_refl _, by simp [autG]; omega⟩, fun r hr => ?_⟩
  obtain ⟨x, hx, rfl⟩ := List.mem_map.1 hr
  refine ⟨by simp, fun z hz => ?_⟩
  obtain ⟨k, hk, rfl⟩ := List.mem_map.1 hz
  have := cellG_in hc hx (List.mem_range.1 hk)
  simp only [autG, List.length_map]
  exact this
theorem autG_next (step : α → Nat → Option α) (acc : α → Bool) (F : List α) {i k : Nat} (hi : i < F.length) (hk : k < 9) : nextA (autG step acc F).nx (i : Int) (k : Int) = cellG step F F[i] k := by
  rw [nextA_at _ i k (by simp [autG]; exact hi) (by simp [autG]; exact hk)]
  simp [autG]
theorem autG_go (hc : ClosG step F) : ∀ (w : List Int) (x : α), LetW w → x ∈ F → goA (autG step acc F) (posG F x : Int) w = (match goO step x w with
    | none => -1
    | some z => (posG F z : Int)) ∧ ∀ z, goO step x w = some z → z ∈ F
  | [], x, _, hx => ⟨rfl, fun z h => by injection h with h; subst h; exact hx⟩
  | k :: w, x, hw, hx => by
    have hk := hw k (by simp)
    have hw2 : LetW w := fun j hj => hw j (by simp [hj])
    have hp := posG_lt F x hx
    have e1 : stpQ (autG step acc F) (posG F x : Int) k.toNat = cellG step F x k.toNat := by
      unfold stpQ
      rw [if_neg (by omega), autG_next step acc F hp (by omega), posG_get F x hx]
    show goA (autG step acc F) (stpQ (autG step acc F) (posG F x : Int) k.toNat) w = _ ∧ _
    rw [e1]
    unfold cellG goO
    cases e : step x k.toNat with
    | none => exact ⟨goA_none _ w, fun z h => by cases h⟩
    | some y => exact autG_go hc w y hw2 (hc x hx k.toNat y (by omega) e)
/-- It accepts what the machine accepts. -/
theorem autG_acc (hc : ClosG step F) {x : α} (hx : x ∈ F) {w : List Int} (hw : LetW w) : acS (autG step acc F) (posG F x : Int) w = acO step acc x w := by
  obtain ⟨h1, h2⟩ := autG_go (acc := acc) hc w x hw hx
  unfold acS acO
  rw [h1]
  cases e : goO step x w with
  | none => rfl
  | some z =>
    have hz := h2 z e
    have hp := posG_lt F z hz
    simp only
    unfold accI
    rw [if_neg (by omega), Int.toNat_natCast, at0_get _ _ (by simp [autG]; exact hp)]
    simp only [autG, List.getElem_map]
    rw [posG_get F z hz]
theorem autG_start (hc : ClosG step F) (h0 : 0 < F.length) {w : List Int} (hw : LetW w) : acS (autG step acc F) (autG step acc F).st w = acO step acc F[0] w := by
  rw [← autG_acc hc (List.getElem_mem h0) hw]
  congr 1
  show (0 : Int) = _
  cases F with
  | nil => simp at h0
  | cons x xs => simp [posG]
end
/-! two automata side by side -/
def prT (A B : Aut) (x : List Int) (k : Nat) : Option (List Int) := prS A B x k
theorem prS_go (A B : Aut) : ∀ (w : List Int) (a b : Int), goO (prS A B) [a, b] w = some [goA A a w, goA B b w]
  | [], a, b => rfl
  | k :: w, a, b => by
    show (prS A B [a, b] k.toNat).bind _ = _
    unfold prS
    simp only [Option.bind_some, List.getElem?_cons_zero, List.getElem?_cons_succ, Option.getD_some]
    exact prS_go A B w _ _
/-- A pair accepts by both states' answers. -/
def accT (op : Bool → Bool → Bool) (A B : Aut) (x : List Int) : Bool := op (accI A (x[0]?.getD 0)) (accI B (x[1]?.getD 0))
theorem prS_acc (op : Bool → Bool → Bool) (A B : Aut) (a b : Int) (w : List Int) : acO (prS A B) (accT op A B) [a, b] w = op (acS A a w) (acS B b w) := by
  unfold acO
  rw [prS_go]
  rfl
end Go.Proofs.Ytmaagihfjldgeaa
