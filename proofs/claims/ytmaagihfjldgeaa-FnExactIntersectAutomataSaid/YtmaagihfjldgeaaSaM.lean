/- The least word of one automaton alone, the program's search over its live part: it is the model's. Plain data. -/
import Derived.Test.YtmaagihfjldgeaaInM
import Derived.Test.YtmaagihfjldgeaaTrI
import Derived.Test.YtmaagihfjldgeaaA4
namespace Go.Proofs.Ytmaagihfjldgeaa
set_option maxRecDepth 100000
set_option linter.unusedVariables false
set_option linter.unusedSimpArgs false

theorem acS_live {A : Aut} (hv : ValidA A) : ∀ (w : List Int) (s : Int), InA A s → LetW w → acS A s w = true → LiveP A s.toNat
  | [], s, hs, _, h => by
    have h1 : accI A s = true := h
    unfold accI at h1
    rw [if_neg (by unfold InA at hs; omega)] at h1
    exact LeastP.base h1
  | k :: w, s, hs, hw, h => by
    have hk := hw k (by simp)
    have hw2 : LetW w := fun j hj => hw j (by simp [hj])
    have h1 : acS A (stpQ A s k.toNat) w = true := h
    have e1 : stpQ A s k.toNat = nextA A.nx s k.toNat := by unfold stpQ; rw [if_neg (by unfold InA at hs; omega)]
    rw [e1] at h1
    have h2 := next_lt hv hs (k := k.toNat) (by omega)
    have h3 : nextA A.nx s k.toNat ≠ -1 := fun e => by
      rw [e] at h1
      unfold acS at h1
      rw [goA_none] at h1
      cases h1
    have hi : InA A (nextA A.nx s k.toNat) := by unfold InA; omega
    have hl := acS_live hv w _ hi hw2 h1
    have hsn : s.toNat < A.ac.length := by unfold InA at hs; omega
    have hse : ((s.toNat : Nat) : Int) = s := by unfold InA at hs; omega
    exact LeastP.step (k := k.toNat) hsn (by omega) (liveR_of (tgt_some (t := (nextA A.nx s k.toNat).toNat) hsn (by rw [hse]; unfold InA at hi; omega) (by unfold InA at hi; omega))) hl
theorem liveF_acc {A : Aut} (hv : ValidA A) {f : Nat → Bool} (hf : ∀ s, f s = true ↔ LiveP A s) : ∀ (w : List Int) (s : Int), InA A s → LetW w → acO (stepF A f) (accZ1 A) s w = acS A s w
  | [], s, hs, _ => by
    show accZ1 A s = accI A s
    unfold accI accZ1
    rw [if_neg (by unfold InA at hs; omega)]
  | k :: w, s, hs, hw => by
    have hk := hw k (by simp)
    have hw2 : LetW w := fun j hj => hw j (by simp [hj])
    have e1 : stpQ A s k.toNat = nextA A.nx s k.toNat := by unfold stpQ; rw [if_neg (by unfold InA at hs; omega)]
    have h2 := next_lt hv hs (k := k.toNat) (by omega)
    show acO (stepF A f) (accZ1 A) s (k :: w) = acS A (stpQ A s k.toNat) w
    rw [e1]
    have e2 : acO (stepF A f) (accZ1 A) s (k :: w) = match stepF A f s k.toNat with
        | none => false
        | some z => acO (stepF A f) (accZ1 A) z w := by
      have e3 : goO (stepF A f) s (k :: w) = (stepF A f s k.toNat).bind fun z => goO (stepF A f) z w := rfl
      unfold acO
      rw [e3]
      cases stepF A f s k.toNat <;> rfl
    rw [e2]
    by_cases h3 : nextA A.nx s k.toNat = -1
    · rw [stepF_no h3, h3]
      unfold acS
      rw [goA_none]; rfl
    · have hi : InA A (nextA A.nx s k.toNat) := by unfold InA; omega
      have hie : (((nextA A.nx s k.toNat).toNat : Nat) : Int) = nextA A.nx s k.toNat := by unfold InA at hi; omega
      cases e : f (nextA A.nx s k.toNat).toNat with
      | true =>
        rw [stepF_is hie.symm e, hie]
        exact liveF_acc hv hf w _ hi hw2
      | false =>
        rw [stepF_dead hie.symm e]
        cases e3 : acS A (nextA A.nx s k.toNat) w with
        | false => rfl
        | true =>
          have := (hf _).2 (acS_live hv w _ hi hw2 e3)
          rw [e] at this; cases this
theorem nothing_valid : ValidA nothingA := by
  refine ⟨by simp [nothingA], by simp [nothingA], by simp [nothingA], fun r hr => ?_⟩
  have hr : r ∈ [List.replicate 9 (-1 : Int)] := hr
  rw [List.mem_singleton] at hr
  subst hr
  refine ⟨by simp, fun z hz => ?_⟩
  have := List.eq_of_mem_replicate hz
  subst this
  simp [nothingA]
theorem nothing_in : InQ nothingA 0 := by unfold InQ nothingA; simp
theorem nothing_acc (w : List Int) (hw : LetW w) : acS nothingA 0 w = false := by
  cases e : acS nothingA 0 w with
  | false => rfl
  | true =>
    exfalso
    have h := goA_in nothing_valid w 0 nothing_in hw
    unfold acS at e
    unfold accI at e
    split at e
    · cases e
    · rename_i h1
      have h2 : goA nothingA 0 w = 0 := by
        unfold InQ at h
        have : (nothingA.ac.length : Int) = 1 := rfl
        omega
      rw [h2] at e
      exact absurd e (by decide)
/-- The search over the live part answers as the model's. -/
theorem live_sdR {A : Aut} (hv : ValidA A) {f : Nat → Bool} (hf : ∀ s, f s = true ↔ LiveP A s) {m : Nat} {r : Option (List Int)} (hr : lwRun (stepF A f) (accZ1 A) m 0 [(A.st, [])] = some r) : r = sdR true nothingA A 0 A.st := by
  have hst := inA_st hv
  refine sdR_alike nothing_valid hv nothing_in ⟨by unfold InA at hst; omega, hst.2⟩ (fun w hw => ?_) hr
  rw [liveF_acc hv hf w A.st hst hw, nothing_acc w hw]
  unfold accW
  cases acS A A.st w <;> rfl
end Go.Proofs.Ytmaagihfjldgeaa
