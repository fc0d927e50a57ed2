/- Automata as text: plain data. -/
import Derived.Test.YtblmiocjhbpklaaDoorAuS
import Derived.Test.YtblmiocjhbpklaaDoorLetF
import Derived.Test.YtblmiocjhbpklaaDoorWfI
import Derived.Lib.ItoaLen
namespace Go.Proofs.YtblmiocjhbpklaaDoor
set_option maxRecDepth 100000
set_option linter.unusedVariables false
set_option linter.unusedSimpArgs false
open Go.ChangeShapes Go.WideShapes Go.ChangeAt Go.RowKit

def itB (n : Int) : ByteArray := ⟨(Lib.itoa n).toArray⟩
theorem itB_size (n : Int) (h0 : -9223372036854775808 ≤ n) (h1 : n ≤ 9223372036854775807) : (itB n).size ≤ 21 := by
  have := Lib.itoa_length_le n h0 h1
  have e : (itB n).size = (Lib.itoa n).length := by unfold itB; simp [ByteArray.size]
  omega
/-- one transition. -/
def trB (k : Nat) (t : Int) : ByteArray := ((⟨#[32]⟩ ++ fmtL k) ++ ⟨#[62]⟩) ++ itB t
def nxAt (r : List Int) (k : Nat) : Int := r[k]?.getD (-1)
theorem nxAt_is (r : List Int) (k : Nat) (h : k < r.length) : nxAt r k = r[k] := by simp [nxAt, h]
def rowB (r : List Int) : Nat → ByteArray
  | 0 => ⟨#[]⟩
  | k + 1 => rowB r k ++ (if 0 ≤ nxAt r k then trB k (nxAt r k) else ⟨#[]⟩)
def starB (c : Bool) : ByteArray := if c = true then ⟨#[42]⟩ else ⟨#[]⟩
def staB (A : Aut) (i : Nat) : ByteArray := (itB i ++ starB (A.ac[i]?.getD false)) ++ rowB (A.nx[i]?.getD []) 9
def autB (A : Aut) : Nat → ByteArray
  | 0 => ⟨#[115, 116, 97, 114, 116, 32]⟩ ++ itB A.st
  | i + 1 => autB A i ++ (⟨#[59, 32]⟩ ++ staB A i)
def fmtAu (A : Aut) : ByteArray := if validA A = true then autB A A.ac.length else ⟨#[]⟩
theorem ba_nil (a : ByteArray) : a ++ (⟨#[]⟩ : ByteArray) = a := ByteArray.append_empty
theorem rowB_no {r : List Int} {k : Nat} (h : nxAt r k < 0) : rowB r (k + 1) = rowB r k := by
  show rowB r k ++ _ = _
  rw [if_neg (by omega), ba_nil]
theorem rowB_yes {r : List Int} {k : Nat} (h : 0 ≤ nxAt r k) : rowB r (k + 1) = rowB r k ++ trB k (nxAt r k) := by
  show rowB r k ++ _ = _
  rw [if_pos h]
theorem trB_size (k : Nat) (t : Int) (h : InI t) : (trB k t).size ≤ 25 := by
  have h1 := fmtL_size k
  have h2 := itB_size t h.1 h.2
  have e1 : (⟨#[32]⟩ : ByteArray).size = 1 := rfl
  have e2 : (⟨#[62]⟩ : ByteArray).size = 1 := rfl
  unfold trB
  simp only [ByteArray.size_append]
  omega
theorem rowB_size (r : List Int) (hr : ∀ k, InI (nxAt r k)) : ∀ k, (rowB r k).size ≤ 25 * k
  | 0 => Nat.le_refl _
  | k + 1 => by
    have ih := rowB_size r hr k
    by_cases h : 0 ≤ nxAt r k
    · rw [rowB_yes h, ByteArray.size_append]
      have := trB_size k _ (hr k)
      omega
    · rw [rowB_no (by omega)]; omega
theorem starB_size (c : Bool) : (starB c).size ≤ 1 := by cases c <;> decide
theorem nx_in {A : Aut} (h : ValidA A) (i : Nat) (k : Nat) : InI (nxAt (A.nx[i]?.getD []) k) := by
  have h12 := h.1
  by_cases hi : i < A.nx.length
  · have hr := h.row i hi
    rw [List.getElem?_eq_getElem hi]
    show InI (nxAt A.nx[i] k)
    by_cases hk : k < (A.nx[i]).length
    · rw [nxAt_is _ k hk]
      have := hr.at k hk
      unfold InI; omega
    · unfold nxAt; rw [List.getElem?_eq_none (by omega)]; unfold InI; exact ⟨by decide, by decide⟩
  · rw [List.getElem?_eq_none (by omega)]
    have e : nxAt (Option.getD none []) k = -1 := by simp [nxAt]
    rw [e]; unfold InI; exact ⟨by decide, by decide⟩
theorem staB_size {A : Aut} (h : ValidA A) (i : Nat) (hi : i ≤ 100) : (staB A i).size ≤ 247 := by
  have h1 := itB_size (i : Int) (by omega) (by omega)
  have h2 := starB_size (A.ac[i]?.getD false)
  have h3 := rowB_size _ (nx_in h i) 9
  unfold staB
  simp only [ByteArray.size_append]
  omega
theorem autB_size {A : Aut} (h : ValidA A) : ∀ i, i ≤ 12 → (autB A i).size ≤ 27 + 249 * i
  | 0, _ => by
    have h12 := h.1
    have hs := h.2.2.1
    have h1 := itB_size A.st (by omega) (by omega)
    have e1 : (⟨#[115, 116, 97, 114, 116, 32]⟩ : ByteArray).size = 6 := rfl
    unfold autB
    rw [ByteArray.size_append]
    omega
  | i + 1, hi => by
    have ih := autB_size h i (by omega)
    have h2 := staB_size h i (by omega)
    have e1 : (⟨#[59, 32]⟩ : ByteArray).size = 2 := rfl
    unfold autB
    simp only [ByteArray.size_append]
    omega
theorem fmtAu_no {A : Aut} (h : validA A = false) : fmtAu A = ⟨#[]⟩ := by unfold fmtAu; rw [if_neg (by rw [h]; decide)]
theorem fmtAu_yes {A : Aut} (h : validA A = true) : fmtAu A = autB A A.ac.length := by unfold fmtAu; rw [if_pos h]
theorem sta_at {A : Aut} (h : ValidA A) (i : Nat) (hi : i < A.ac.length) (hn : i < A.nx.length) : staB A i = (itB i ++ starB A.ac[i]) ++ rowB A.nx[i] 9 := by
  unfold staB
  rw [List.getElem?_eq_getElem hi, List.getElem?_eq_getElem hn]; rfl
/-- the parts that the program joins. -/
def partsA (A : Aut) (i : Nat) : List ByteArray := (⟨#[115, 116, 97, 114, 116, 32]⟩ ++ itB A.st) :: (List.range i).map (staB A)
theorem partsA_len (A : Aut) (i : Nat) : (partsA A i).length = i + 1 := by simp [partsA]
theorem partsA_snoc (A : Aut) (i : Nat) : partsA A (i + 1) = partsA A i ++ [staB A i] := by simp [partsA, List.range_succ]
theorem join_parts (A : Aut) : ∀ i, Lib.join ((partsA A i).map (·.data.toList)) [59, 32] = (autB A i).data.toList
  | 0 => by simp [partsA, Lib.join_one, autB]
  | i + 1 => by
    rw [partsA_snoc, List.map_append, List.map_cons, List.map_nil, join_snoc _ _ _ (by simp [partsA]), join_parts A i]
    show _ = (autB A i ++ (⟨#[59, 32]⟩ ++ staB A i)).data.toList
    simp [List.append_assoc]
end Go.Proofs.YtblmiocjhbpklaaDoor
