/- Words as text: FormatWord. -/
import Derived.Test.YtblmiocjhbpklaaDoorWord
import Derived.Test.YtblmiocjhbpklaaDoorLetF
import Derived.Test.YtblmiocjhbpklaaDoorShelf
import Derived.Lib.Join
namespace Go.Proofs.YtblmiocjhbpklaaDoor
set_option maxRecDepth 100000
set_option linter.unusedVariables false
open Go.ChangeShapes Go.WideShapes Go.ChangeAt Go.RowKit

theorem join_snoc (l : List (List UInt8)) (x sep : List UInt8) (h : l ≠ []) : Lib.join (l ++ [x]) sep = Lib.join l sep ++ sep ++ x := by
  cases l with
  | nil => exact absurd rfl h
  | cons y l => rw [List.cons_append, Lib.join_cons, Lib.join_cons]; simp [Lib.joinTail]
def fmtWL (xs : List Int) : List UInt8 := Lib.join (xs.map fun x => (fmtL x).data.toList) [32]
def fmtW (xs : List Int) : ByteArray := if isWordB xs = true then (if xs = [] then ⟨#[40, 41]⟩ else ⟨(fmtWL xs).toArray⟩) else ⟨#[]⟩
theorem fmtW_out {xs : List Int} (h : isWordB xs = false) : fmtW xs = ⟨#[]⟩ := by unfold fmtW; rw [h]; rfl
theorem fmtW_nil : fmtW [] = ⟨#[40, 41]⟩ := rfl
theorem fmtW_in {xs : List Int} (h : isWordB xs = true) (h0 : xs ≠ []) : fmtW xs = ⟨(fmtWL xs).toArray⟩ := by unfold fmtW; rw [if_pos h, if_neg h0]
theorem bcat (a : List UInt8) (b : ByteArray) : (⟨a.toArray⟩ : ByteArray) ++ b = ⟨(a ++ b.data.toList).toArray⟩ := by
  obtain ⟨⟨l⟩⟩ := b
  exact ByteArray.mk_append_mk a l
theorem wcat_zero (xs : List Int) (h : 0 < xs.length) : (⟨(fmtWL (xs.take 0)).toArray⟩ : ByteArray) ++ fmtL xs[0] = ⟨(fmtWL (xs.take 1)).toArray⟩ := by
  rw [bcat]
  cases xs with
  | nil => simp at h
  | cons x xs => simp [fmtWL, Lib.join_one, Lib.join_nil]
theorem wcat (xs : List Int) (k : Nat) (h : k < xs.length) (h0 : 0 < k) : ((⟨(fmtWL (xs.take k)).toArray⟩ : ByteArray) ++ ⟨#[32]⟩) ++ fmtL xs[k] = ⟨(fmtWL (xs.take (k + 1))).toArray⟩ := by
  rw [bcat, bcat]
  congr 2
  unfold fmtWL
  rw [List.take_succ_eq_append_getElem h, List.map_append, List.map_cons, List.map_nil, join_snoc]
  intro e
  simp only [List.map_eq_nil_iff, List.take_eq_nil_iff] at e
  rcases e with e | e
  · omega
  · rw [e] at h; simp at h
theorem fmtL_size (x : Int) : (fmtL x).size ≤ 2 := by
  cases h : inB x 0 8 with
  | false => rw [fmtL_out h]; decide
  | true =>
    obtain ⟨k, hk, rfl⟩ := inB_nat h
    rw [fmtL_in hk]
    rcases nine hk with rfl | rfl | rfl | rfl | rfl | rfl | rfl | rfl | rfl <;> decide
theorem fmtWL_len (xs : List Int) : (fmtWL xs).length ≤ 3 * xs.length := by
  have hl : ∀ x : Int, (fmtL x).data.toList.length ≤ 2 := fmtL_size
  have : ∀ k, k ≤ xs.length → (fmtWL (xs.take k)).length ≤ 3 * k := by
    intro k
    induction k with
    | zero => intro _; simp [fmtWL, Lib.join_nil]
    | succ k ih =>
      intro hk
      have ih := ih (by omega)
      have hx := hl (xs[k]'(by omega))
      by_cases h0 : 0 < k
      · have := congrArg ByteArray.size (wcat xs k (by omega) h0)
        simp only [ByteArray.size_append] at this
        have e1 : (⟨(fmtWL (xs.take (k + 1))).toArray⟩ : ByteArray).size = (fmtWL (xs.take (k + 1))).length := rfl
        have e2 : (⟨(fmtWL (xs.take k)).toArray⟩ : ByteArray).size = (fmtWL (xs.take k)).length := rfl
        have e3 : (⟨#[32]⟩ : ByteArray).size = 1 := rfl
        have e4 : (fmtL (xs[k]'(by omega))).size ≤ 2 := fmtL_size _
        omega
      · obtain rfl : k = 0 := by omega
        have := congrArg ByteArray.size (wcat_zero xs (by omega))
        simp only [ByteArray.size_append] at this
        have e1 : (⟨(fmtWL (xs.take 1)).toArray⟩ : ByteArray).size = (fmtWL (xs.take 1)).length := rfl
        have e2 : (⟨(fmtWL (xs.take 0)).toArray⟩ : ByteArray).size = (fmtWL (xs.take 0)).length := rfl
        have e4 : (fmtL (xs[0]'(by omega))).size ≤ 2 := fmtL_size _
        simp only [Nat.zero_add]
        omega
  have h := this xs.length (Nat.le_refl _)
  rwa [List.take_of_length_le (Nat.le_refl _)] at h

theorem isWord_len {xs : List Int} (h : isWordB xs = true) : xs.length ≤ 8 := by
  unfold isWordB at h; rw [Bool.and_eq_true] at h; simpa using h.1

end Go.Proofs.YtblmiocjhbpklaaDoor
