/- DecodeFixed, the model's and the program's: what each returns, at every string and width. -/
import Derived.Test.YtpikplllkjpciaaDoorBits
namespace Go.Proofs.YtpikplllkjpciaaDoor
open Go.ChangeShapes Go.WideShapes Go.ChangeAt Go.RowKit

theorem l1In_any (x lo hi : Int) (w : World) :
    Calls Tryd.prog 26 #[.int .i64 x, .int .i64 lo, .int .i64 hi] w fun e w' => e = .returned (.bool (inB x lo hi)) ∧ w = w' := by
  by_cases h : x < lo
  · go_enter Tryd.func26, Tryd.ntmps26
    go_wp2
    go_ret
    exact ⟨ret_bool (by simp [inB]; omega), rfl⟩
  · go_enter Tryd.func26, Tryd.ntmps26
    go_wp2
    go_ret
    exact ⟨ret_bool (by simp [inB]; omega), rfl⟩

theorem isFixedWidth_any (x : Int) (w : World) :
    Calls Tryd.prog 25 #[.int .i64 x] w fun e w' => e = .returned (.bool (inB x 1 7)) ∧ w = w' := by
  by_cases h : x < 1
  · go_enter Tryd.func25, Tryd.ntmps25
    go_wp2
    go_ret
    exact ⟨ret_bool (by simp [inB]; omega), rfl⟩
  · go_enter Tryd.func25, Tryd.ntmps25
    go_wp2
    go_ret
    exact ⟨ret_bool (by simp [inB]; omega), rfl⟩

/-- The number whose digits to the base 256 these bytes are. -/
def beNat (l : List UInt8) : Nat := l.foldl (fun n b => n * 256 + b.toNat) 0
theorem beNat_snoc (l : List UInt8) (b : UInt8) : beNat (l ++ [b]) = beNat l * 256 + b.toNat := by
  simp [beNat, List.foldl_append]
theorem beNat_lt (l : List UInt8) : beNat l < 256 ^ l.length := by
  rw [← List.reverse_reverse l]
  induction l.reverse with
  | nil => simp [beNat]
  | cons b l ih =>
    rw [List.reverse_cons, beNat_snoc]; have := b.toNat_lt; simp [Nat.pow_succ] at *; omega
theorem beNat_take (s : ByteArray) (k : Nat) (h : k ≤ 6) : beNat (s.data.toList.take k) < 281474976710656 := by
  have h1 := beNat_lt (s.data.toList.take k)
  have h2 : 256 ^ (s.data.toList.take k).length ≤ 256 ^ k := Nat.pow_le_pow_right (by omega) (List.length_take_le _ _)
  have h3 : 256 ^ k ≤ 256 ^ 6 := Nat.pow_le_pow_right (by omega) h
  omega

theorem implDF_bad (s : ByteArray) (x : Int) (w : World) (h : x < 1 ∨ 7 < x ∨ s.size < x) (_hs : s.size ≤ 1048576) :
    Calls Tryd.prog 13 #[.string s, .int .i64 x] w fun e w' => e = .returned (.tuple #[.int .i64 0, .bool false]) ∧ w = w' := by
  by_cases hb : inB x 1 7 = true
  · have h2 : decide ((s.size : Int) < x) = true := by simp [inB] at hb; simp; omega
    go_enter Tryd.func13, Tryd.ntmps13
    go_wp2_with (go_at_call 25; refine (isFixedWidth_any _ _).mono ?_; rintro e w' ⟨rfl, rfl⟩)
    go_ret2
    exact ⟨rfl, rfl⟩
  · have hb : inB x 1 7 = false := by simpa using hb
    go_enter Tryd.func13, Tryd.ntmps13
    go_wp2_with (go_at_call 25; refine (isFixedWidth_any _ _).mono ?_; rintro e w' ⟨rfl, rfl⟩)
    go_ret2
    exact ⟨rfl, rfl⟩

theorem implDF_ok (s : ByteArray) (x : Int) (w : World) (h1 : 1 ≤ x) (h2 : x ≤ 7) (h3 : x ≤ s.size) (hs : s.size ≤ 1048576) :
    Calls Tryd.prog 13 #[.string s, .int .i64 x] w fun e w' => e = .returned (.tuple #[.int .i64 (beNat (s.data.toList.take x.toNat)), .bool true]) ∧ w = w' := by
  obtain ⟨m, rfl⟩ := Int.eq_ofNat_of_zero_le (show 0 ≤ x by omega)
  have hb : inB m 1 7 = true := by simp [inB]; omega
  have hd : decide ((s.size : Nat) < m) = false := by simp; omega
  go_enter Tryd.func13, Tryd.ntmps13
  go_wp2_with (go_at_call 25; refine (isFixedWidth_any _ _).mono ?_; rintro e w' ⟨rfl, rfl⟩)
  clear hb hd
  go_loop [6, 18] (fun n i => ∃ k : Nat, k ≤ m ∧ i = .int .i64 k ∧ n = .int .i64 (beNat (s.data.toList.take k))) (fun _ i => m - (intOf i).toNat)
  case atStart => exact ⟨0, Nat.zero_le _, rfl, rfl⟩
  case round =>
    obtain ⟨k, hk, rfl, rfl⟩ := hrel
    by_cases hlt : k < m
    · have hd := beNat_take s k (by omega)
      have h8 := byte_lt s k (by omega)
      have hts := take_snoc s k (by omega)
      have hsn := beNat_snoc (s.data.toList.take k) s[k]
      have HS : Hid (beNat (s.data.toList.take (k + 1)) = beNat (s.data.toList.take k) * 256 + s[k].toNat) := by rw [hts]; exact hsn
      clear hts hsn
      have hor := i64_or256 (beNat (s.data.toList.take k)) s[k].toNat h8 hd
      go_wp2
      go_round
      case rel => exact ⟨k + 1, by omega, by go_num, by rw [HS.out]; go_num⟩
      case measure => simp [intOf]; omega
    · obtain rfl : k = m := by omega
      go_wp2
      go_ret2
      exact ⟨rfl, rfl⟩
end Go.Proofs.YtpikplllkjpciaaDoor
