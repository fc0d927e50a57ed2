/- Automata as plain data: valid ones, runs, acceptance. -/
import Derived.Test.YtcokggjekleabaaAut
import Derived.Test.YtcokggjekleabaaK0
namespace Go.Proofs.Ytcokggjekleabaa
set_option maxRecDepth 100000
open Go.ChangeShapes Go.WideShapes Go.ChangeAt Go.RowKit Go.Joins Go.Deep
set_option linter.unusedVariables false
set_option linter.unusedSimpArgs false

/-- The transitions of one state in an automaton of n states. -/
def RowOk (n : Nat) (r : List Int) : Prop := r.length = 9 ∧ ∀ x ∈ r, -1 ≤ x ∧ x < (n : Int)
instance (n : Nat) (r : List Int) : Decidable (RowOk n r) := by unfold RowOk; exact inferInstance
def ValidA (A : Aut) : Prop := A.ac.length ≤ 1000 ∧ A.nx.length = A.ac.length ∧ (0 ≤ A.st ∧ A.st < (A.ac.length : Int)) ∧ ∀ r ∈ A.nx, RowOk A.ac.length r
instance (A : Aut) : Decidable (ValidA A) := by unfold ValidA; exact inferInstance
def validA (A : Aut) : Bool := decide (A.ac.length ≤ 12 ∧ ValidA A)
theorem validA_true {A : Aut} (h12 : A.ac.length ≤ 12) (h : ValidA A) : validA A = true := decide_eq_true ⟨h12, h⟩
theorem validA_false {A : Aut} (h : ¬ (A.ac.length ≤ 12 ∧ ValidA A)) : validA A = false := decide_eq_false h
theorem validA_iff (A : Aut) : (validA A = true → ValidA A) ∧ (validA A = true → A.ac.length ≤ 12) := ⟨fun h => (of_decide_eq_true h).2, fun h => (of_decide_eq_true h).1⟩
theorem ValidA.row {A : Aut} (h : ValidA A) (s : Nat) (hs : s < A.nx.length) : RowOk A.ac.length A.nx[s] := h.2.2.2 _ (List.getElem_mem hs)
theorem RowOk.at {n : Nat} {r : List Int} (h : RowOk n r) (k : Nat) (hk : k < r.length) : -1 ≤ r[k] ∧ r[k] < (n : Int) := h.2 _ (List.getElem_mem hk)
theorem rowOk_of {n : Nat} {r : List Int} (hl : r.length = 9) (h : ∀ k (hk : k < r.length), -1 ≤ r[k] ∧ r[k] < (n : Int)) : RowOk n r := ⟨hl, fun x hx => by obtain ⟨k, hk, rfl⟩ := List.getElem_of_mem hx; exact h k hk⟩
/-- The state after one letter. -/
def nextA (nx : List (List Int)) (s k : Int) : Int := ((nx[s.toNat]?.getD [])[k.toNat]?).getD (-1)
theorem nextA_at (nx : List (List Int)) (s k : Nat) (hs : s < nx.length) (hk : k < (nx[s]).length) : nextA nx (s : Int) (k : Int) = (nx[s])[k] := by
  simp [nextA, hs, hk]
def runL (nx : List (List Int)) : Int → List Int → Int
  | s, [] => s
  | s, k :: ks => if s < 0 then -1 else if inB k 0 8 = false then -1 else runL nx (nextA nx s k) ks
def runA (A : Aut) (w : List Int) : Int := if validA A = true then runL A.nx A.st w else -1
def accA (A : Aut) (w : List Int) : Bool := decide (0 ≤ runA A w) && (A.ac[(runA A w).toNat]?.getD false)
theorem runL_neg (nx : List (List Int)) : ∀ (w : List Int), runL nx (-1) w = -1
  | [] => rfl
  | k :: ks => by unfold runL; rw [if_pos (by decide)]
theorem nextA_in {A : Aut} (h : ValidA A) (s k : Int) (hs : 0 ≤ s ∧ s < (A.ac.length : Int)) (hk : inB k 0 8 = true) : ∃ hs1 : s.toNat < A.nx.length, ∃ hk1 : k.toNat < (A.nx[s.toNat]).length, nextA A.nx s k = (A.nx[s.toNat])[k.toNat] ∧ -1 ≤ nextA A.nx s k ∧ nextA A.nx s k < (A.ac.length : Int) := by
  have hk2 : 0 ≤ k ∧ k ≤ 8 := by simpa [inB] using hk
  have hs1 : s.toNat < A.nx.length := by have := h.2.1; omega
  have hr := h.row s.toNat hs1
  have hk1 : k.toNat < (A.nx[s.toNat]).length := by have := hr.1; omega
  have e : nextA A.nx s k = (A.nx[s.toNat])[k.toNat] := by simp [nextA, hs1, hk1]
  have hb := hr.at k.toNat hk1
  exact ⟨hs1, hk1, e, by rw [e]; exact hb.1, by rw [e]; exact hb.2⟩
theorem runL_in {A : Aut} (h : ValidA A) : ∀ (w : List Int) (s : Int), (-1 ≤ s ∧ s < (A.ac.length : Int)) → -1 ≤ runL A.nx s w ∧ runL A.nx s w < (A.ac.length : Int)
  | [], s, hs => hs
  | k :: ks, s, hs => by
    unfold runL
    split
    · exact ⟨Int.le_refl _, by have := h.2.2.1; omega⟩
    · split
      · exact ⟨Int.le_refl _, by have := h.2.2.1; omega⟩
      · rename_i h1 h2
        obtain ⟨_, _, _, h4, h5⟩ := nextA_in h s k ⟨by omega, hs.2⟩ (by simpa using h2)
        exact runL_in h ks _ ⟨h4, h5⟩
theorem runA_in {A : Aut} (h : ValidA A) (w : List Int) : -1 ≤ runA A w ∧ runA A w < (A.ac.length : Int) := by
  unfold runA
  split
  · exact runL_in h w _ ⟨by have := h.2.2.1; omega, h.2.2.1.2⟩
  · have := h.2.2.1
    omega
/-- One step of the run along a word. -/
theorem runL_step (nx : List (List Int)) (w : List Int) (i : Nat) (hi : i < w.length) (s : Int) (hs : 0 ≤ s) (hk : inB w[i] 0 8 = true) : runL nx s (w.drop i) = runL nx (nextA nx s w[i]) (w.drop (i + 1)) := by
  rw [List.drop_eq_getElem_cons hi]
  conv => lhs; unfold runL
  rw [if_neg (by omega), if_neg (by simp [hk])]
theorem runL_bad (nx : List (List Int)) (w : List Int) (i : Nat) (hi : i < w.length) (s : Int) (hk : inB w[i] 0 8 = false) : runL nx s (w.drop i) = -1 := by
  rw [List.drop_eq_getElem_cons hi]
  unfold runL
  by_cases h : s < 0
  · rw [if_pos h]
  · rw [if_neg h, if_pos hk]
theorem runL_negAt (nx : List (List Int)) (w : List Int) (i : Nat) (s : Int) (hs : s = -1) : runL nx s (w.drop i) = -1 := by subst hs; exact runL_neg _ _
end Go.Proofs.Ytcokggjekleabaa
