/- ParseInt, the model's and the program's: both give 'pOut' of the bytes. -/
import Derived.Test.YtiojgahjfndmdaaDoorFmt
import Derived.Test.YtiojgahjfndmdaaDoorParsePlain
import Derived.Lib.OthersKept
namespace Go.Proofs.YtiojgahjfndmdaaDoor
set_option maxRecDepth 100000
open Go.ChangeShapes Go.WideShapes Go.ChangeAt Go.RowKit

theorem ret_p {l : List UInt8} {x : Int} {b : Bool} (h : pOut l = (x, b)) : Ending.returned (.tuple #[.int .i64 x, .bool b]) = .returned (.tuple #[.int .i64 (pOut l).1, .bool (pOut l).2]) := by rw [h]
theorem dval_take (s : ByteArray) (k : Nat) (h : k ≤ 11) : dval (s.data.toList.take k) < 100000000000 := by
  have h1 := dval_lt (s.data.toList.take k)
  have h2 : 10 ^ (s.data.toList.take k).length ≤ 10 ^ 11 := Nat.pow_le_pow_right (by omega) (by have := List.length_take_le k s.data.toList; omega)
  omega
theorem dval_take10 (s : ByteArray) (k : Nat) (h : k ≤ 10) : dval (s.data.toList.take k) < 10000000000 := by
  have h1 := dval_lt (s.data.toList.take k)
  have h2 : 10 ^ (s.data.toList.take k).length ≤ 10 ^ 10 := Nat.pow_le_pow_right (by omega) (by have := List.length_take_le k s.data.toList; omega)
  omega
theorem dcnt_take (s : ByteArray) (k : Nat) : dcnt (s.data.toList.take k) ≤ k := by
  have : dcnt (s.data.toList.take k) ≤ (s.data.toList.take k).length := List.length_filter_le _ _
  have := List.length_take_le k s.data.toList
  omega
theorem isd_yes {b : UInt8} (h1 : 48 ≤ b.toNat) (h2 : b.toNat ≤ 57) : isd b = true := by unfold isd; exact decide_eq_true ⟨h1, h2⟩
theorem isd_no {b : UInt8} (h : ¬ (48 ≤ b.toNat ∧ b.toNat ≤ 57)) : isd b = false := by unfold isd; exact decide_eq_false h
theorem dval_next (s : ByteArray) (k : Nat) (h : k < s.size) (hd : isd s[k] = true) : dval (s.data.toList.take (k + 1)) = dval (s.data.toList.take k) * 10 + (s[k].toNat - 48) := by
  rw [take_snoc s k h, dval_snoc, hd]; rfl
theorem dval_same (s : ByteArray) (k : Nat) (h : k < s.size) (hd : isd s[k] = false) : dval (s.data.toList.take (k + 1)) = dval (s.data.toList.take k) := by
  rw [take_snoc s k h, dval_snoc, hd]; rfl
theorem dcnt_next (s : ByteArray) (k : Nat) (h : k < s.size) (hd : isd s[k] = true) : dcnt (s.data.toList.take (k + 1)) = dcnt (s.data.toList.take k) + 1 := by
  rw [take_snoc s k h, dcnt_snoc, hd]; rfl
theorem dcnt_same (s : ByteArray) (k : Nat) (h : k < s.size) (hd : isd s[k] = false) : dcnt (s.data.toList.take (k + 1)) = dcnt (s.data.toList.take k) := by
  rw [take_snoc s k h, dcnt_snoc, hd]; rfl

end Go.Proofs.YtiojgahjfndmdaaDoor
