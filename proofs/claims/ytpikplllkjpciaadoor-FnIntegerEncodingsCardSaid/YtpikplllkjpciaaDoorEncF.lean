/- EncodeFixed, the model's and the program's. -/
import Derived.Test.YtpikplllkjpciaaDoorFixed
import Derived.Test.YtpikplllkjpciaaDoorBytes
namespace Go.Proofs.YtpikplllkjpciaaDoor
open Go.ChangeShapes Go.WideShapes Go.ChangeAt Go.RowKit

/-- The last k digits of n to the base 256, as bytes. -/
def lowBytes (n : Nat) : Nat → List UInt8
  | 0 => []
  | k + 1 => UInt8.ofNat (n / 256 ^ k % 256) :: lowBytes n k
theorem lowBytes_length (n k : Nat) : (lowBytes n k).length = k := by
  induction k with
  | zero => rfl
  | succ k ih => simp [lowBytes, ih]
theorem str_cons (n k : Nat) : (⟨#[UInt8.ofNat (n / 256 ^ k % 256)]⟩ : ByteArray) ++ ⟨(lowBytes n k).toArray⟩ = ⟨(lowBytes n (k + 1)).toArray⟩ := by
  rw [show (#[UInt8.ofNat (n / 256 ^ k % 256)] : Array UInt8) = [UInt8.ofNat (n / 256 ^ k % 256)].toArray from rfl, ByteArray.mk_append_mk]
  simp [lowBytes]

theorem lowBytes_succ (n k q : Nat) (hq : q = n / 256 ^ k) : (⟨#[UInt8.ofNat (q % 256)]⟩ : ByteArray) ++ ⟨(lowBytes n k).toArray⟩ = ⟨(lowBytes n (k + 1)).toArray⟩ := by
  rw [hq]
  exact str_cons n k
theorem div_succ (n k q : Nat) (hq : q = n / 256 ^ k) : q / 256 = n / 256 ^ (k + 1) := by
  rw [hq, Nat.div_div_eq_div_mul, Nat.pow_succ]

/-- What EncodeFixed returns for a number that is not negative and a width from 1 to 7. -/
def encFixed (n m : Nat) : ByteArray := if n / 256 ^ m = 0 then ⟨(lowBytes n m).toArray⟩ else ⟨#[]⟩
theorem encFixed_in {n m q : Nat} (h : q = n / 256 ^ m) (hz : q = 0) : encFixed n m = ⟨(lowBytes n m).toArray⟩ := by
  unfold encFixed; rw [if_pos (by omega)]
theorem encFixed_out {n m q : Nat} (h : q = n / 256 ^ m) (hz : ¬ q = 0) : encFixed n m = ⟨#[]⟩ := by
  unfold encFixed; rw [if_neg (by omega)]
theorem specEF_end (n m : Nat) (w : World) (h9 : n ≤ 9223372036854775807) (h1 : 1 ≤ m) (h2 : m ≤ 7) :
    Calls Tryd.prog 14 #[.int .i64 (n : Int), .int .i64 (m : Int)] w fun e w' => e = .returned (.string (encFixed n m)) ∧ Since w w' := by
  have hb : inB m 1 7 = true := by simp [inB]; omega
  go_enter Tryd.func14, Tryd.ntmps14
  go_wp2_with (go_at_call 26; refine (l1In_any _ _ _ _).mono ?_; rintro e w' ⟨rfl, rfl⟩)
  clear hb
  go_loopw [0, 5, 6] (fun v out i wr => ∃ k q : Nat, k ≤ m ∧ i = .int .i64 k ∧ v = .int .i64 q ∧ Hid (q = n / 256 ^ k) ∧ q ≤ 9223372036854775807 ∧ out = .string ⟨(lowBytes n k).toArray⟩ ∧ Since w wr) (fun _ _ i _ => m - (intOf i).toNat)
  case atStart => exact ⟨0, n, Nat.zero_le _, rfl, rfl, by simp [Hid], h9, rfl, Since.refl _⟩
  case round =>
    obtain ⟨k, q, hk, rfl, rfl, HQ, hq9, rfl, hg⟩ := hrel
    by_cases hlt : k < m
    · have hcv := fun v => one_byte wr v
      have hlen := lowBytes_length n k
      go_wp2
      go_roundw
      case rel => exact ⟨k + 1, q / 256, by omega, by go_num, by go_num, div_succ n k q HQ.out, by omega, by rw [lowBytes_succ n k q HQ.out], hg.alloc _⟩
      case measure => simp [intOf]; omega
    · obtain rfl : k = m := by omega
      by_cases hz : q = 0
      · have hd : q ≤ 0 := by omega
        have HZ := Lib.hid hz
        clear hz
        go_wp2
        go_ret
        exact ⟨ret_str (encFixed_in HQ.out HZ.out).symm, hg⟩
      · have hd : 0 < q := by omega
        have HZ := Lib.hid hz
        clear hz
        go_wp2
        go_ret
        exact ⟨ret_str (encFixed_out HQ.out HZ.out).symm, hg⟩
end Go.Proofs.YtpikplllkjpciaaDoor
