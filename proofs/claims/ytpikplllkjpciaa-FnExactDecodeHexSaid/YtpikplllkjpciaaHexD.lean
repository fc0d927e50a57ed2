/- DecodeHex, the model's: one digit, then the loop over pairs. -/
import Derived.Test.YtpikplllkjpciaaHexE
namespace Go.Proofs.Ytpikplllkjpciaa
open Go.ChangeShapes Go.WideShapes Go.ChangeAt Go.RowKit

/-- The value of a hexadecimal digit, or -1. -/
def hx (b : UInt8) : Int := if 48 ≤ b.toNat ∧ b.toNat ≤ 57 then (b.toNat : Int) - 48 else if 97 ≤ b.toNat ∧ b.toNat ≤ 102 then (b.toNat : Int) - 87 else -1
theorem hx_lt (b : UInt8) : hx b < 16 := by unfold hx; split <;> (try split) <;> omega
theorem hx_ge (b : UInt8) : -1 ≤ hx b := by unfold hx; split <;> (try split) <;> omega
theorem hx_of (b : UInt8) (k : Nat) (hk : k < 16) (h : hexd k = b.toNat) : hx b = k := by
  unfold hexd at h; unfold hx
  split at h
  · rw [if_pos (by omega)]; omega
  · rw [if_neg (by omega), if_pos (by omega)]; omega
theorem hx_none (b : UInt8) (h : ∀ k, k < 16 → hexd k ≠ b.toNat) : hx b = -1 := by
  unfold hx
  split
  · have := h (b.toNat - 48) (by omega)
    unfold hexd at this
    rw [if_pos (by omega)] at this
    omega
  · split
    · have := h (b.toNat - 87) (by omega)
      unfold hexd at this
      rw [if_neg (by omega)] at this
      omega
    · rfl

theorem l1FromHex_any (b : UInt8) (w : World) :
    Calls Try.prog 24 #[.int .u8 (b.toNat : Int)] w fun e w' => e = .returned (.int .i64 (hx b)) ∧ w = w' := by
  go_enter Try.func24, Try.ntmps24
  go_wp2
  go_loop [3] (fun i => ∃ k : Nat, k ≤ 16 ∧ i = .int .i64 k ∧ Hid (∀ j, j < k → hexd j ≠ b.toNat)) (fun i => 16 - (intOf i).toNat)
  case atStart => exact ⟨0, by omega, rfl, fun j hj => by omega⟩
  case round =>
    obtain ⟨k, hk, rfl, HN⟩ := hrel
    by_cases hlt : k < 16
    · have HD := Lib.hid (fun W => l1Digit_any (k : Int) k rfl hlt W)
      by_cases he : hexd k = b.toNat
      · have hcmp : (((hexd k : Nat) : Int) == (b.toNat : Int)) = true := by simp [he]
        have HE := Lib.hid he
        clear he
        go_wp2_with (go_at_call 23; refine (HD.out _).mono ?_; rintro e w' ⟨rfl, rfl⟩)
        go_ret
        exact ⟨ret_int (hx_of b k hlt HE.out).symm, rfl⟩
      · have hcmp : (((hexd k : Nat) : Int) == (b.toNat : Int)) = false := by simp; omega
        have HE := Lib.hid he
        clear he
        go_wp2_with (go_at_call 23; refine (HD.out _).mono ?_; rintro e w' ⟨rfl, rfl⟩)
        go_round
        case rel => exact ⟨k + 1, by omega, by go_num, fun j hj => by
          by_cases e : j = k
          · rw [e]; exact HE.out
          · exact HN.out j (by omega)⟩
        case measure => simp [intOf]; omega
    · obtain rfl : k = 16 := by omega
      go_wp2
      go_ret
      exact ⟨ret_int (hx_none b HN.out).symm, rfl⟩

theorem ret_sb {a b : ByteArray} {c : Bool} (h : a = b) : Ending.returned (.tuple #[.string a, .bool c]) = .returned (.tuple #[.string b, .bool c]) := by rw [h]

/-- The value of byte i of s as a digit; 0 if it is none. -/
def dg (s : ByteArray) (i : Nat) : Nat := if h : i < s.size then (hx s[i]).toNat else 0
theorem dg_lt (s : ByteArray) (i : Nat) : dg s i < 16 := by
  unfold dg
  split
  · rename_i h; have := hx_lt s[i]; omega
  · omega
theorem dg_at (s : ByteArray) (i : Nat) (h : i < s.size) (h0 : 0 ≤ hx s[i]) : (dg s i : Int) = hx s[i] := by
  unfold dg
  rw [dif_pos h]
  omega
def pairs (s : ByteArray) (m : Nat) : List UInt8 := (List.range m).map fun j => UInt8.ofNat (16 * dg s (2 * j) + dg s (2 * j + 1))
theorem pairs_succ (s : ByteArray) (m : Nat) : pairs s (m + 1) = pairs s m ++ [UInt8.ofNat (16 * dg s (2 * m) + dg s (2 * m + 1))] := by
  simp [pairs, List.range_succ]
def HexOk (s : ByteArray) : Prop := s.size % 2 = 0 ∧ ∀ i (h : i < s.size), 0 ≤ hx s[i]

set_option maxRecDepth 100000 in
theorem specDH_ok (s : ByteArray) (w : World) (hs : s.size ≤ 1048576) (hok : HexOk s) :
    Calls Try.prog 19 #[.string s] w fun e w' => e = .returned (.tuple #[.string ⟨(pairs s (s.size / 2)).toArray⟩, .bool true]) ∧ Since w w' := by
  have hev := hok.1
  have hm : ((s.size : Int) % 2 == 1) = false := by simp; omega
  have HOK := Lib.hid hok.2
  clear hok
  go_enter Try.func19, Try.ntmps19
  go_wp2
  go_loopw [4, 5] (fun out i wr => ∃ (i0 j n0 : Nat), i0 ≤ s.size ∧ i = .int .i64 i0 ∧ Hid (i0 = 2 * j) ∧ Hid (n0 = j) ∧ wr.ownsRow w.heap.size 5 1 out n0 ((pairs s j).map bcell) ∧ Since w wr) (fun _ i _ => s.size - (intOf i).toNat)
  case atStart => exact ⟨0, 0, 0, Nat.zero_le _, rfl, rfl, rfl, World.ownsRow_lit w _ 0 (Nat.le_refl _) (by decide) (by simp), (Since.refl w).alloc _⟩
  case round =>
    obtain ⟨i, j, n0, hi, rfl, HI, HN, hown, hsin⟩ := hrel
    have HB1 : Hid ((n0 + 1) * 1 ≤ 140737488355328) := by have := HN.out; have := HI.out; unfold Hid; omega
    have HB2 : Hid (n0 + 1 ≤ maxLen) := by have := HN.out; have := HI.out; unfold Hid maxLen; omega
    by_cases hlt : i < s.size
    · have hlt1 : i + 1 < s.size := by have := HI.out; omega
      have a0 := HOK.out i hlt
      have a1 := hx_lt s[i]
      have b0 := HOK.out (i + 1) hlt1
      have b1 := hx_lt s[i + 1]
      have HA := Lib.hid (dg_at s i hlt a0)
      have HB := Lib.hid (dg_at s (i + 1) hlt1 b0)
      have hd1 := dg_lt s i
      have hd2 := dg_lt s (i + 1)
      have HHev := Lib.hid hev
      clear hev
      have HC1 := Lib.hid (fun W => l1FromHex_any s[i] W)
      have HC2 := Lib.hid (fun W => l1FromHex_any s[i + 1] W)
      go_wp2_with (first
        | (go_at_call 24; ((with_reducible refine (HC1.out _).mono ?_); rintro e w' ⟨rfl, rfl⟩))
        | (go_at_call 24; ((with_reducible refine (HC2.out _).mono ?_); rintro e w' ⟨rfl, rfl⟩))
        | (at_builtin; go_must (refine append_cell rfl _ _ 36 rfl 5 (.int .u8 0) 1 Try.underlying36 info_u8 rfl _ _ _ rfl hown hsin _ rfl rfl HB1.out HB2.out ?_); intro v' w1 hown1 hsin1))
      have hown2 : w1.ownsRow w.heap.size 5 1 v' (n0 + 1) ((pairs s (j + 1)).map bcell) := by
        rw [pairs_succ, ← map_bcell_snoc (pairs s j) (16 * dg s (2 * j) + dg s (2 * j + 1)) (16 * hx s[i] + hx s[i + 1]) (by have := dg_lt s (2 * j); have := dg_lt s (2 * j + 1); omega) (by have := HA.out; have := HB.out; rw [← HI.out]; omega)]
        exact hown1
      go_roundw
      case rel => exact ⟨i + 2, j + 1, n0 + 1, by omega, by go_num, by have := HI.out; unfold Hid; omega, by have := HN.out; unfold Hid; omega, hown2, hsin1⟩
      case measure => simp [intOf]; omega
    · have HE : Hid (j = s.size / 2) := by have := HI.out; unfold Hid; omega
      have hcv := own_string wr hown (pairs s j) rfl
      go_wp2
      go_ret2
      exact ⟨ret_sb (by rw [HE.out]), hsin⟩

/-- The first byte that is no digit. -/
theorem bad_first (s : ByteArray) (h : ¬ ∀ i (h : i < s.size), 0 ≤ hx s[i]) : ∃ i, ∃ h : i < s.size, hx s[i] < 0 ∧ ∀ j (hj : j < s.size), j < i → 0 ≤ hx s[j] := by
  have aux : ∀ n, n ≤ s.size → (∀ i (h : i < s.size), i < n → 0 ≤ hx s[i]) ∨ ∃ i, ∃ h : i < s.size, hx s[i] < 0 ∧ ∀ j (hj : j < s.size), j < i → 0 ≤ hx s[j] := by
    intro n
    induction n with
    | zero => intro _; exact .inl fun i _ h => by omega
    | succ n ih =>
      intro hn
      rcases ih (by omega) with h | h
      · by_cases hb : 0 ≤ hx (s[n]'(by omega))
        · refine .inl fun i hi hin => ?_
          by_cases e : i = n
          · subst e; exact hb
          · exact h i hi (by omega)
        · exact .inr ⟨n, by omega, by omega, fun j hj hjn => h j hj hjn⟩
      · exact .inr h
  rcases aux s.size (Nat.le_refl _) with h' | h'
  · exact absurd (fun i hi => h' i hi hi) h
  · exact h'

set_option maxRecDepth 100000 in
theorem specDH_bad (s : ByteArray) (w : World) (hs : s.size ≤ 1048576) (hev : s.size % 2 = 0) (b : Nat) (hb : b < s.size) (hneg : hx s[b] < 0) (hpos : ∀ j (hj : j < s.size), j < b → 0 ≤ hx s[j]) :
    Calls Try.prog 19 #[.string s] w fun e w' => e = .returned (.tuple #[.string ⟨#[]⟩, .bool false]) ∧ Since w w' := by
  have HP := Lib.hid hpos
  have HNG := Lib.hid hneg
  have hm : ((s.size : Int) % 2 == 1) = false := by simp; omega
  clear hpos hneg
  go_enter Try.func19, Try.ntmps19
  go_wp2
  go_loopw [4, 5] (fun out i wr => ∃ (i0 j n0 : Nat), i0 ≤ s.size ∧ i0 ≤ b ∧ i = .int .i64 i0 ∧ Hid (i0 = 2 * j) ∧ Hid (n0 = j) ∧ wr.ownsRow w.heap.size 5 1 out n0 ((pairs s j).map bcell) ∧ Since w wr) (fun _ i _ => s.size - (intOf i).toNat)
  case atStart => exact ⟨0, 0, 0, Nat.zero_le _, Nat.zero_le _, rfl, rfl, rfl, World.ownsRow_lit w _ 0 (Nat.le_refl _) (by decide) (by simp), (Since.refl w).alloc _⟩
  case round =>
    obtain ⟨i, j, n0, hi, hib, rfl, HI, HN, hown, hsin⟩ := hrel
    have HB1 : Hid ((n0 + 1) * 1 ≤ 140737488355328) := by have := HN.out; have := HI.out; unfold Hid; omega
    have HB2 : Hid (n0 + 1 ≤ maxLen) := by have := HN.out; have := HI.out; unfold Hid maxLen; omega
    have hlt : i < s.size := by omega
    have hlt1 : i + 1 < s.size := by have := HI.out; omega
    have HC1 := Lib.hid (fun W => l1FromHex_any s[i] W)
    have HC2 := Lib.hid (fun W => l1FromHex_any s[i + 1] W)
    have HHev := Lib.hid hev
    clear hev
    have a1 := hx_lt s[i]
    have b1 := hx_lt s[i + 1]
    by_cases hb0 : b = i
    · have a0 : hx s[i] < 0 := by have := HNG.out; subst hb0; exact this
      have HB0 := Lib.hid hb0
      clear hb0
      go_wp2_with (first
        | (go_at_call 24; ((with_reducible refine (HC1.out _).mono ?_); rintro e w' ⟨rfl, rfl⟩))
        | (go_at_call 24; ((with_reducible refine (HC2.out _).mono ?_); rintro e w' ⟨rfl, rfl⟩)))
      go_ret2
      exact ⟨rfl, hsin⟩
    · have a0 : 0 ≤ hx s[i] := HP.out i hlt (by omega)
      by_cases hb1 : b = i + 1
      · have b0 : hx s[i + 1] < 0 := by have := HNG.out; subst hb1; exact this
        have HB0 := Lib.hid hb1
        clear hb1 hb0
        go_wp2_with (first
          | (go_at_call 24; ((with_reducible refine (HC1.out _).mono ?_); rintro e w' ⟨rfl, rfl⟩))
          | (go_at_call 24; ((with_reducible refine (HC2.out _).mono ?_); rintro e w' ⟨rfl, rfl⟩)))
        go_ret2
        exact ⟨rfl, hsin⟩
      · have b0 : 0 ≤ hx s[i + 1] := HP.out (i + 1) hlt1 (by omega)
        have HA := Lib.hid (dg_at s i hlt a0)
        have HB := Lib.hid (dg_at s (i + 1) hlt1 b0)
        have hib2 : i + 2 ≤ b := by omega
        clear hb0 hb1
        go_wp2_with (first
          | (go_at_call 24; ((with_reducible refine (HC1.out _).mono ?_); rintro e w' ⟨rfl, rfl⟩))
          | (go_at_call 24; ((with_reducible refine (HC2.out _).mono ?_); rintro e w' ⟨rfl, rfl⟩))
          | (at_builtin; go_must (refine append_cell rfl _ _ 36 rfl 5 (.int .u8 0) 1 Try.underlying36 info_u8 rfl _ _ _ rfl hown hsin _ rfl rfl HB1.out HB2.out ?_); intro v' w1 hown1 hsin1))
        have hown2 : w1.ownsRow w.heap.size 5 1 v' (n0 + 1) ((pairs s (j + 1)).map bcell) := by
          rw [pairs_succ, ← map_bcell_snoc (pairs s j) (16 * dg s (2 * j) + dg s (2 * j + 1)) (16 * hx s[i] + hx s[i + 1]) (by have := dg_lt s (2 * j); have := dg_lt s (2 * j + 1); omega) (by have := HA.out; have := HB.out; rw [← HI.out]; omega)]
          exact hown1
        go_roundw
        case rel => exact ⟨i + 2, j + 1, n0 + 1, by omega, by omega, by go_num, by have := HI.out; unfold Hid; omega, by have := HN.out; unfold Hid; omega, hown2, hsin1⟩
        case measure => simp [intOf]; omega

theorem specDH_odd (s : ByteArray) (w : World) (_hs : s.size ≤ 1048576) (hodd : s.size % 2 = 1) :
    Calls Try.prog 19 #[.string s] w fun e w' => e = .returned (.tuple #[.string ⟨#[]⟩, .bool false]) ∧ Since w w' := by
  have hm : (s.size : Int) % 2 = 1 := by omega
  go_enter Try.func19, Try.ntmps19
  go_wp2
  go_ret2
  exact ⟨rfl, (Since.refl w).alloc _⟩
end Go.Proofs.Ytpikplllkjpciaa
