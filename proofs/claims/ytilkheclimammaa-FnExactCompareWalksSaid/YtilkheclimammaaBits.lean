/- '&' and '|' on an int that is not negative, as sums and remainders. -/
import Derived.Test.YtilkheclimammaaBase
import Derived.Laws.BitsAllLaws
namespace Go.Proofs.Ytilkheclimammaa
set_option maxRecDepth 100000

theorem wrap_small (n : Nat) (h : n < 9223372036854775808) : IntKind.i64.wrap (n : Int) = (n : Int) := by
  rw [IntKind.wrap_i64]; omega
theorem i64_or_nat (a b : Nat) (ha : a < 9223372036854775808) (hb : b < 9223372036854775808) : bits .or .i64 (a : Int) (b : Int) = ((a ||| b : Nat) : Int) := by
  have hx : a ||| b < 2 ^ 63 := Nat.or_lt_two_pow (by omega) (by omega)
  show IntKind.i64.wrap ((BitVec.ofInt 64 (a : Int) ||| BitVec.ofInt 64 (b : Int)).toNat : Int) = _
  rw [BitVec.toNat_or, ofInt_u64 a (by omega), ofInt_u64 b (by omega)]
  exact wrap_small _ (by omega)
theorem i64_and_nat (a b : Nat) (ha : a < 9223372036854775808) (hb : b < 9223372036854775808) : bits .and .i64 (a : Int) (b : Int) = ((a &&& b : Nat) : Int) := by
  have hx : a &&& b < 2 ^ 63 := Nat.and_lt_two_pow _ (by omega)
  show IntKind.i64.wrap ((BitVec.ofInt 64 (a : Int) &&& BitVec.ofInt 64 (b : Int)).toNat : Int) = _
  rw [BitVec.toNat_and, ofInt_u64 a (by omega), ofInt_u64 b (by omega)]
  exact wrap_small _ (by omega)
theorem or_hi (i a b : Nat) (h : b < 2 ^ i) : a * 2 ^ i ||| b = a * 2 ^ i + b := by
  rw [Nat.mul_comm a, Nat.two_pow_add_eq_or_of_lt h]
theorem or_lo (i a b : Nat) (h : b < 2 ^ i) : b ||| a * 2 ^ i = b + a * 2 ^ i := by
  rw [Nat.or_comm, or_hi i a b h, Nat.add_comm]
theorem i64_or256 (a b : Nat) (hb : b < 256) (h : a < 281474976710656) : bits .or .i64 ((a : Int) * 256) (b : Int) = (a : Int) * 256 + b := by
  have := i64_or_nat (a * 256) b (by omega) (by omega)
  rw [or_hi 8 a b hb] at this
  simpa using this
theorem i64_and127 (a : Nat) (h : a < 9223372036854775808) : bits .and .i64 (a : Int) 127 = (a : Int) % 128 := by
  have := i64_and_nat a 127 h (by omega)
  rw [show (127 : Nat) = 2 ^ 7 - 1 from rfl, Nat.and_two_pow_sub_one_eq_mod] at this
  simpa using this
theorem i64_or128 (a : Nat) (h : a < 128) : bits .or .i64 (a : Int) 128 = (a : Int) + 128 := by
  have := i64_or_nat a (1 * 2 ^ 7) (by omega) (by omega)
  rw [or_lo 7 1 a h] at this
  simpa using this
end Go.Proofs.Ytilkheclimammaa
