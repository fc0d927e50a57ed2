/- A word that one automaton accepts and another does not, the least one: what MissingWord and those behind it answer. Plain data. -/
import Derived.Test.YtmaagihfjldgeaaSaM
import Derived.Test.YtmaagihfjldgeaaA1
namespace Go.Proofs.Ytmaagihfjldgeaa
set_option maxRecDepth 100000
set_option linter.unusedVariables false
set_option linter.unusedSimpArgs false

def opMinus (x y : Bool) : Bool := x && !y
def opAnd (x y : Bool) : Bool := x && y
def opOr (x y : Bool) : Bool := x || y
def opOne (x y : Bool) : Bool := x != y
theorem inQ_st {A : Aut} (h : ValidA A) : InQ A A.st := by have := h.2.2.1; unfold InQ; omega
/-- The program's search: the pairs the other way round. -/
theorem ms_run {A B : Aut} (ha : ValidA A) (hb : ValidA B) : lwRun (prS B A) (accT opMinus B A) (pairN B A + 1) 0 [([B.st, A.st], [])] = some (sdR true A B A.st B.st) := by
  obtain ⟨r, hr⟩ := lwRun_some (acc := accT opMinus B A) (prS_H hb ha) (pairN B A + 1) 0 [([B.st, A.st], ([] : List Int))] (LwI.start ⟨_, _, rfl, inQ_st hb, inQ_st ha⟩) (by omega) (by simp)
  rw [hr]
  congr 1
  refine sdR_alike ha hb (inQ_st ha) (inQ_st hb) (fun w hw => ?_) hr
  rw [prS_acc]
  unfold opMinus accW
  cases acS B B.st w <;> cases acS A A.st w <;> rfl
def msOk (A B : Aut) : Bool := validA A && validA B
/-- What MissingWord answers. -/
def msA (A B : Aut) : Option (List Int) := if msOk A B = true then sdR true A B A.st B.st else none
theorem msOk_in {A B : Aut} (h : msOk A B = true) : ValidA A ∧ ValidA B ∧ A.ac.length ≤ 12 ∧ B.ac.length ≤ 12 := by
  unfold msOk at h
  rw [Bool.and_eq_true] at h
  exact ⟨(validA_iff A).1 h.1, (validA_iff B).1 h.2, (validA_iff A).2 h.1, (validA_iff B).2 h.2⟩
theorem msA_yes {A B : Aut} (h : msOk A B = true) : msA A B = sdR true A B A.st B.st := by unfold msA; rw [if_pos h]
theorem msA_no {A B : Aut} (h : msOk A B = false) : msA A B = none := by unfold msA; rw [if_neg (by rw [h]; decide)]
theorem msA_len (A B : Aut) : ((msA A B).getD []).length ≤ 2097160 := by
  unfold msA
  split
  · rename_i h
    obtain ⟨h1, h2, _⟩ := msOk_in h
    have := sdR_len true h1 h2 (inQ_st h1) (inQ_st h2)
    omega
  · simp
/-- What IncludesLanguage and AreEquivalent answer. -/
def incB (A B : Aut) : Bool := msOk A B && !(msA A B).isSome
def eqvB (A B : Aut) : Bool := incB A B && incB B A
/-- What ShortestAccepted answers: the word that the automaton without words misses. -/
def saA (A : Aut) : Option (List Int) := msA nothingA A
theorem nothing_validA : validA nothingA = true := validA_true (by simp [nothingA]) nothing_valid
theorem saA_no {A : Aut} (h : validA A = false) : saA A = none := msA_no (by unfold msOk; rw [h, Bool.and_false])
theorem saA_yes {A : Aut} (h : validA A = true) : saA A = sdR true nothingA A 0 A.st := msA_yes (by unfold msOk; rw [h, nothing_validA]; rfl)
theorem sa_run {A : Aut} (hv : ValidA A) {f : Nat → Bool} (hf : ∀ s, f s = true ↔ LiveP A s) {N : Nat} (hN : A.ac.length ≤ N) : lwRun (stepF A f) (accZ1 A) (N + 1) 0 [(A.st, [])] = some (sdR true nothingA A 0 A.st) := by
  have hst := inA_st hv
  have H : LwH (stepF A f) N (InA A) := ⟨fun s k x hk hs hx => stepF_in hv f s k x hk hs hx, fun l hl hq => Nat.le_trans (pigeon_le hl hq) hN⟩
  obtain ⟨r, hr⟩ := lwRun_some (acc := accZ1 A) H (N + 1) 0 [(A.st, ([] : List Int))] (LwI.start hst) (by omega) (by simp)
  rw [hr, live_sdR hv hf hr]
end Go.Proofs.Ytmaagihfjldgeaa
