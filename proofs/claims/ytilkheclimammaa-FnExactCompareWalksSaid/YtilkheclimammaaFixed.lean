/- DecodeFixed, the model's and the program's: what each returns, at every string and width. -/
import Derived.Test.YtilkheclimammaaBits
namespace Go.Proofs.Ytilkheclimammaa
set_option maxRecDepth 100000
open Go.ChangeShapes Go.WideShapes Go.ChangeAt Go.RowKit

theorem l1In_any (x lo hi : Int) (w : World) :
    Calls Try.prog 69 #[.int .i64 x, .int .i64 lo, .int .i64 hi] w fun e w' => e = .returned (.bool (inB x lo hi)) ∧ w = w' := by
  by_cases h : x < lo
  · go_enter Try.func69, Try.ntmps69
    go_wp2
    go_ret
    exact ⟨ret_bool (by simp [inB]; omega), rfl⟩
  · go_enter Try.func69, Try.ntmps69
    go_wp2
    go_ret
    exact ⟨ret_bool (by simp [inB]; omega), rfl⟩

/-- The number whose digits to the base 256 these bytes are. -/
def beNat (l : List UInt8) : Nat := l.foldl (fun n b => n * 256 + b.toNat) 0
theorem beNat_snoc (l : List UInt8) (b : UInt8) : beNat (l ++ [b]) = beNat l * 256 + b.toNat := by
  simp [beNat, List.foldl_append]
theorem beNat_lt (l : List UInt8) : beNat l < 256 ^ l.length := by
  rw [← List.reverse_reverse l]
  induction l.reverse with
  | nil => simp [beNat]
  | cons b l ih =>
    rw [List.reverse_cons, beNat_snoc]; have := b.toNat_lt; simp [Nat.pow_succ] at *; omega
theorem beNat_take (s : ByteArray) (k : Nat) (h : k ≤ 6) : beNat (s.data.toList.take k) < 281474976710656 := by
  have h1 := beNat_lt (s.data.toList.take k)
  have h2 : 256 ^ (s.data.toList.take k).length ≤ 256 ^ k := Nat.pow_le_pow_right (by omega) (List.length_take_le _ _)
  have h3 : 256 ^ k ≤ 256 ^ 6 := Nat.pow_le_pow_right (by omega) h
  omega

end Go.Proofs.Ytilkheclimammaa
