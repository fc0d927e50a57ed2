/- DecodeVarint, the model's: what it returns at every string. -/
import Derived.Test.YtpikplllkjpciaaDoorVarE
import Derived.Deep.RegionWith
namespace Go.Proofs.YtpikplllkjpciaaDoor
open Go.ChangeShapes Go.WideShapes Go.ChangeAt Go.RowKit

theorem leNat_bound (l : List UInt8) (k : Nat) (h : l.length ≤ k) (hk : k ≤ 7) : leNat l ≤ 562949953421311 := by
  have h1 := leNat_lt l
  have h2 : 128 ^ l.length ≤ 128 ^ 7 := Nat.pow_le_pow_right (by omega) (by omega)
  omega
theorem leNat_bound6 (l : List UInt8) (h : l.length ≤ 6) : leNat l < 4398046511104 := by
  have h1 := leNat_lt l
  have h2 : 128 ^ l.length ≤ 128 ^ 6 := Nat.pow_le_pow_right (by omega) (by omega)
  omega
theorem drop_cons (s : ByteArray) (k j : Nat) (hk : k ≤ s.size) (hj : j < k) : (s.data.toList.take k).drop j = s[j] :: (s.data.toList.take k).drop (j + 1) := by
  have hl : j < (s.data.toList.take k).length := by rw [List.length_take]; simp; omega
  rw [List.drop_eq_getElem_cons hl]
  congr 1
  simp
  rfl

theorem extract_take (s : ByteArray) (k : Nat) : (s.extract 0 k).toList = s.data.toList.take k := by
  rw [ByteArray.toList_eq]
  simp [ByteArray.data_extract]
theorem encV_is (s : ByteArray) (k : Nat) (h7 : k ≤ 7) (hk : k ≤ s.size) :
    ((encV (leNat (s.data.toList.take k) : Nat)).toList == (s.extract 0 k).toList) = decide (IsV s.data.toList k) := by
  rw [encV_in _ (leNat_bound _ k (List.length_take_le _ _) h7), extract_take, ByteArray.toList_mk]
  have hl : k ≤ s.data.toList.length := by simpa using hk
  by_cases h : vbytes (leNat (s.data.toList.take k)) = s.data.toList.take k
  · rw [h]; simp [IsV, h]; simpa using hk
  · have : ¬ IsV s.data.toList k := fun x => h x.2
    simp [this, h]

theorem ret_dec {l : List UInt8} {x y : Nat} (h : decV l = (x, y)) : Ending.returned (.tuple #[.int .i64 (x : Int), .int .i64 (y : Int)]) = .returned (.tuple #[.int .i64 (decV l).1, .int .i64 (decV l).2]) := by rw [h]

end Go.Proofs.YtpikplllkjpciaaDoor
