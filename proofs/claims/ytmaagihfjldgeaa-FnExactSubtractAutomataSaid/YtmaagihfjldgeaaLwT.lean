/- The two searches answer alike: the least word that tells two states apart. -/
import Derived.Test.YtmaagihfjldgeaaLwM
import Derived.Test.YtmaagihfjldgeaaLwD
namespace Go.Proofs.Ytmaagihfjldgeaa
set_option maxRecDepth 100000
set_option linter.unusedVariables false
set_option linter.unusedSimpArgs false
set_option linter.unusedSectionVars false

def accQ (A : Aut) (x : List Int) : Bool := accI A (x[0]?.getD 0) != accI A (x[1]?.getD 0)
theorem accP_Q (A : Aut) : accP false A A = accQ A := by
  funext x
  unfold accP accQ
  cases accI A (x[0]?.getD 0) <;> cases accI A (x[1]?.getD 0) <;> rfl
theorem pr_sim (A : Aut) : LwS (prS A A) (prP A A) (accQ A) prAp := by
  refine ⟨fun x h => ?_, fun x k z h hz => ?_, fun x k h => ?_⟩
  · unfold prAp at h
    have e : x[0]?.getD 0 = x[1]?.getD 0 := by simpa using h
    unfold accQ
    rw [e]; simp
  · unfold prAp at h
    have e : x[0]?.getD 0 = x[1]?.getD 0 := by simpa using h
    unfold prS at hz
    injection hz with hz
    subst hz
    unfold prAp
    simp [e]
  · unfold prS prP prAp
    simp only [Option.bind_some, List.getElem?_cons_zero, List.getElem?_cons_succ, Option.getD_some]
    by_cases e : stpQ A (x[0]?.getD 0) k = stpQ A (x[1]?.getD 0) k
    · simp [e]
    · simp [e]
section
variable {α : Type} [DecidableEq α]
theorem lwRun_len {step : α → Nat → Option α} {acc : α → Bool} {N : Nat} {Q : α → Prop} (H : LwH step N Q) : ∀ (m p : Nat) (L : List (α × List Int)) (ws : List Int), LwI Q L → lwRun step acc m p L = some (some ws) → ws.length ≤ N := by
  intro m
  induction m with
  | zero => intro p L ws h e; cases e
  | succ m ih =>
    intro p L ws h e
    by_cases hlt : p < L.length
    · obtain ⟨⟨x, us⟩, hy⟩ : ∃ y, y = L[p] := ⟨_, rfl⟩
      have hp2 : L[p]? = some (x, us) := by rw [List.getElem?_eq_getElem hlt, hy]
      cases ha : acc x with
      | true =>
        rw [lwRun_acc hp2 ha] at e
        injection e with e
        injection e with e
        subst e
        have h1 := h.short p _ hp2
        have h2 := h.room H
        simp at h1
        omega
      | false =>
        rw [lwRun_go hp2 ha] at e
        have hq : Q x := h.all x (List.mem_map.2 ⟨(x, us), List.mem_of_getElem? hp2, rfl⟩)
        obtain ⟨h1, t, h2⟩ := lwRow_keeps H hq 9 (Nat.le_refl _) L h hp2
        exact ih (p + 1) _ ws h1 e
    · rw [lwRun_end (by omega)] at e
      injection e with e
      cases e
end
/-- A row whose letters lead nowhere. -/
theorem lwRow_still {step : List Int → Nat → Option (List Int)} {x : List Int} {ws : List Int} (h : ∀ k, step x k = none) : ∀ (m : Nat) (L : List (List Int × List Int)), lwRow step x ws m L = L
  | 0, L => rfl
  | m + 1, L => by unfold lwRow; rw [h]; exact lwRow_still h m L
/-- The answer: the least word, if there is one. -/
def dwR (A : Aut) (s t : Int) : Option (List Int) := (lwRun (prS A A) (accP false A A) (pairN A A + 1) 0 [([s, t], [])]).getD none
theorem dwR_spec {A : Aut} (hv : ValidA A) {s t : Int} (hs : InQ A s) (ht : InQ A t) : lwRun (prS A A) (accP false A A) (pairN A A + 1) 0 [([s, t], [])] = some (dwR A s t) := by
  obtain ⟨r, hr⟩ := lwRun_some (acc := accP false A A) (prS_H hv hv) (pairN A A + 1) 0 [([s, t], ([] : List Int))] (LwI.start ⟨s, t, rfl, hs, ht⟩) (by omega) (by simp)
  unfold dwR
  rw [hr]; rfl
theorem dwR_impl {A : Aut} (hv : ValidA A) {s t : Int} (hs : InQ A s) (ht : InQ A t) : lwRun (prP A A) (accQ A) (pairN A A + 1) 0 [([s, t], [])] = some (dwR A s t) := by
  obtain ⟨r, hr⟩ := lwRun_some (acc := accQ A) (prP_H hv hv) (pairN A A + 1) 0 [([s, t], ([] : List Int))] (LwI.start ⟨s, t, rfl, hs, ht⟩) (by omega) (by simp)
  rw [hr]
  have hm := dwR_spec hv hs ht
  rw [accP_Q] at hm
  by_cases e : s = t
  · subst e
    have hap : prAp [s, s] = false := by unfold prAp; simp
    have hfl : flt prAp [([s, s], ([] : List Int))] = [] := by simp [flt, hap]
    have h1 : lwRun (prP A A) (accQ A) 1 0 (flt prAp [([s, s], ([] : List Int))]) = some none := by rw [hfl]; exact lwRun_end (by simp)
    have h2 := lwRun_sim (pr_sim A) (pairN A A + 1) 0 [([s, s], [])] 1 _ _ hm (by simpa [flt] using h1)
    have hno : ∀ k, prP A A [s, s] k = none := fun k => by unfold prP; simp
    have hac : accQ A [s, s] = false := (pr_sim A).acc _ hap
    have hN : 0 < pairN A A := by unfold pairN; exact Nat.mul_pos (by omega) (by omega)
    obtain ⟨M, hM⟩ : ∃ M, pairN A A = M + 1 := ⟨pairN A A - 1, by omega⟩
    rw [hM, lwRun_go (x := [s, s]) (ws := []) rfl hac, lwRow_still hno, lwRun_end (by simp)] at hr
    rw [h2]; exact hr.symm
  · have hap : prAp [s, t] = true := by unfold prAp; simp [e]
    have hfl : flt prAp [([s, t], ([] : List Int))] = [([s, t], [])] := by simp [flt, hap]
    have h2 := lwRun_sim (pr_sim A) (pairN A A + 1) 0 [([s, t], [])] (pairN A A + 1) _ r hm (by rw [hfl]; simpa [flt] using hr)
    rw [h2]
/-- The program's search: over two automata that differ in their starts. -/
theorem dwR_impl2 {A : Aut} (hv : ValidA A) {s t : Int} (hs : InQ A s) (ht : InQ A t) : lwRun (prS A A) (accQ A) (pairN A A + 1) 0 [([s, t], [])] = some (dwR A s t) := by
  have h := dwR_spec hv hs ht
  rw [accP_Q] at h
  exact h
theorem dwR_len {A : Aut} (hv : ValidA A) {s t : Int} (hs : InQ A s) (ht : InQ A t) : ((dwR A s t).getD []).length ≤ 1002001 := by
  cases h : dwR A s t with
  | none => simp
  | some ws =>
    have h1 := dwR_spec hv hs ht
    rw [h] at h1
    have h2 := lwRun_len (prS_H hv hv) _ _ _ _ (LwI.start ⟨s, t, rfl, hs, ht⟩) h1
    have h3 := pairN_le hv hv
    show ws.length ≤ _
    omega
/-- What DistinguishingWord answers. -/
def dwOk (A : Aut) (s t : Int) : Bool := validA A && decide (0 ≤ s ∧ s < (A.ac.length : Int)) && decide (0 ≤ t ∧ t < (A.ac.length : Int))
def dwA (A : Aut) (s t : Int) : Option (List Int) := if dwOk A s t = true then dwR A s t else none
theorem dwOk_in {A : Aut} {s t : Int} (h : dwOk A s t = true) : ValidA A ∧ InQ A s ∧ InQ A t := by
  unfold dwOk at h
  simp only [Bool.and_eq_true, decide_eq_true_eq] at h
  obtain ⟨⟨h1, h2⟩, h3⟩ := h
  exact ⟨(validA_iff A).1 h1, ⟨by omega, h2.2⟩, ⟨by omega, h3.2⟩⟩
theorem dwA_len (A : Aut) (s t : Int) : ((dwA A s t).getD []).length ≤ 2097160 := by
  unfold dwA
  split
  · rename_i h
    obtain ⟨h1, h2, h3⟩ := dwOk_in h
    have := dwR_len h1 h2 h3
    omega
  · simp
end Go.Proofs.Ytmaagihfjldgeaa
