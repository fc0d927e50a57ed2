/- ParseInt's answer as a plain function of the bytes. -/
import Derived.Test.YtiojgahjfndmdaaDoorFmtPlain
import Derived.Lib.Strings
namespace Go.Proofs.YtiojgahjfndmdaaDoor
set_option maxRecDepth 100000
open Go.Lib (decDigits itoa)

def isMinus (l : List UInt8) : Bool := l.head? == some 45
def body (l : List UInt8) : List UInt8 := if isMinus l then l.tail else l
def sval (l : List UInt8) : Int := if isMinus l then -(dval l : Int) else (dval l : Int)
theorem body_minus {l : List UInt8} (h : isMinus l = true) : l = 45 :: body l := by
  unfold body; rw [if_pos h]
  cases l with
  | nil => simp [isMinus] at h
  | cons a l => simp [isMinus] at h; rw [h]; rfl
theorem body_plain {l : List UInt8} (h : isMinus l = false) : body l = l := by unfold body; rw [h]; rfl
theorem dval_body (l : List UInt8) : dval (body l) = dval l := by
  cases h : isMinus l with
  | true => conv => rhs; rw [body_minus h, dval_cons_minus]
  | false => rw [body_plain h]
theorem dcnt_body (l : List UInt8) : dcnt (body l) = dcnt l := by
  cases h : isMinus l with
  | true => conv => rhs; rw [body_minus h, dcnt_cons_minus]
  | false => rw [body_plain h]
theorem len_body (l : List UInt8) : (body l).length ≤ l.length ∧ l.length ≤ (body l).length + 1 := by
  cases h : isMinus l with
  | true => have := body_minus h; have e := congrArg List.length this; simp at e; omega
  | false => rw [body_plain h]; omega
theorem has_minus (l : List UInt8) : Lib.hasPrefix l [45] = isMinus l := by
  cases l with
  | nil => rfl
  | cons a l => simp [Lib.hasPrefix, isMinus, List.isPrefixOf]; exact Bool.eq_iff_iff.mpr ⟨fun h => by simpa using (of_decide_eq_true h).symm, fun h => by simpa using (show a = 45 by simpa using h).symm⟩
theorem trim_minus (l : List UInt8) : Lib.trimPrefix l [45] = body l := by
  unfold Lib.trimPrefix body
  rw [has_minus]
  cases l with
  | nil => rfl
  | cons a l => rfl

/-- ParseInt accepts these bytes. -/
def Acc (l : List UInt8) : Prop := dcnt l ≤ 9 ∧ l.length ≤ 10 ∧ itoa (sval l) = l
def pOut (l : List UInt8) : Int × Bool := if dcnt l ≤ 9 ∧ l.length ≤ 10 ∧ itoa (sval l) = l then (sval l, true) else (0, false)
theorem pOut_in {l : List UInt8} (h : Acc l) : pOut l = (sval l, true) := by unfold pOut; exact if_pos h
theorem pOut_out {l : List UInt8} (h : ¬ Acc l) : pOut l = (0, false) := by unfold pOut; exact if_neg h
theorem acc_of {l : List UInt8} (h9 : (body l).length ≤ 9) (hd : ∀ b ∈ body l, isd b = true) (hi : itoa (sval l) = l) : Acc l :=
  ⟨by rw [← dcnt_body, dcnt_all _ hd]; exact h9, by have := len_body l; omega, hi⟩
theorem acc_digits {l : List UInt8} (h : Acc l) : (∀ b ∈ body l, isd b = true) ∧ (body l).length ≤ 9 := by
  obtain ⟨hc, _, hi⟩ := h
  have hd : ∀ b ∈ body l, isd b = true := by
    cases hm : isMinus l with
    | true =>
      unfold sval at hi
      rw [if_pos hm] at hi
      have hb := body_minus hm
      by_cases hz : dval l = 0
      · rw [hz] at hi
        have : itoa (-((0 : Nat) : Int)) = [48] := by
          rw [itoa, if_neg (by omega), show (-((0 : Nat) : Int)).toNat = 0 from rfl, dd_small (by omega)]; rfl
        rw [this] at hi
        rw [← hi] at hm
        exact absurd hm (by decide)
      · rw [itoa, if_pos (by omega)] at hi
        rw [hb] at hi
        have := (List.cons.inj hi).2
        rw [← this]; exact dd_all _
    | false =>
      unfold sval at hi
      rw [hm] at hi
      rw [body_plain hm]
      simp only [Bool.false_eq_true, if_false] at hi
      rw [itoa, if_neg (by omega)] at hi
      intro b hb
      rw [← hi] at hb
      exact dd_all _ b hb
  refine ⟨hd, ?_⟩
  have := dcnt_all _ hd
  rw [dcnt_body] at this
  omega
theorem sval_bounds (l : List UInt8) (h : l.length ≤ 10) : -10000000000 < sval l ∧ sval l < 10000000000 := by
  have h1 := dval_lt l
  have h2 : 10 ^ l.length ≤ 10 ^ 10 := Nat.pow_le_pow_right (by omega) h
  unfold sval
  split <;> omega
theorem isMinus_get (l : List UInt8) (h : 0 < l.length) : isMinus l = decide ((l[0]).toNat = 45) := by
  cases l with
  | nil => simp at h
  | cons a l =>
    unfold isMinus
    simp only [List.head?_cons, List.getElem_cons_zero]
    rw [Bool.eq_iff_iff]
    simp
    exact ⟨fun h => by rw [h]; rfl, fun h => UInt8.toNat_inj.mp h⟩
end Go.Proofs.YtiojgahjfndmdaaDoor
