/- FormatInt, the model's and the program's: both give the library's decimal numeral, at every int. -/
import Derived.Test.YtblmiocjhbpklaaDoorBytes
import Derived.Test.YtblmiocjhbpklaaDoorFmtPlain
import Derived.Test.YtblmiocjhbpklaaDoorShelf
import Derived.Lib.AppendIntMem
namespace Go.Proofs.YtblmiocjhbpklaaDoor
set_option maxRecDepth 100000
open Go.ChangeShapes Go.WideShapes Go.ChangeAt Go.RowKit

/-- The table of powers of ten that the library's strconv reads. -/
def Tab (w : World) : Prop := Lib.TabBelow Tryd.prog w.heap.size w "internal/strconv.uint64pow10" .u64 Lib.pow10Tab
theorem Tab.here {w : World} (h : Tab w) : Lib.TabIs Tryd.prog w "internal/strconv.uint64pow10" .u64 Lib.pow10Tab := Lib.TabBelow.here h
theorem Tab.since {w w' : World} (h : Tab w) (hs : Since w w') : Tab w' := fun _ hb => h _ (Below.trans hs (Below.mono hb hs.size))
theorem Tab.of {w : World} (h : Lib.TabIs Tryd.prog w "internal/strconv.uint64pow10" .u64 Lib.pow10Tab) : Tab w := Lib.tabBelow_of_tabIs h

theorem implFI_any (n : Int) (w : World) (h0 : -9223372036854775808 ≤ n) (h1 : n ≤ 9223372036854775807) (ht : Tab w) :
    Calls Tryd.prog 94 #[.int .i64 n] w fun e w' => e = .returned (.string ⟨(Lib.itoa n).toArray⟩) ∧ Since w w' := by
  have HC := Lib.hid (Tryd.strconv_Itoa n h0 h1 w ht.here)
  clear h0 h1 ht
  go_enter Tryd.func94, Tryd.ntmps94
  go_wp2_with (go_at_call 130; refine HC.out.mono ?_; rintro e w' ⟨rfl, k, os, rfl⟩)
  go_ret
  exact ⟨rfl, Lib.below_grow _ _ (Nat.le_refl _) _ _⟩

theorem str_one (c : Nat) (l : List UInt8) : (⟨#[UInt8.ofNat c]⟩ : ByteArray) ++ ⟨l.toArray⟩ = ⟨(UInt8.ofNat c :: l).toArray⟩ := by
  rw [show (#[UInt8.ofNat c] : Array UInt8) = [UInt8.ofNat c].toArray from rfl, ByteArray.mk_append_mk]; rfl

theorem str_digit (c : Nat) (l : List UInt8) : (⟨#[48 + UInt8.ofNat c]⟩ : ByteArray) ++ ⟨l.toArray⟩ = ⟨(UInt8.ofNat (48 + c) :: l).toArray⟩ := by
  rw [show (48 : UInt8) + UInt8.ofNat c = UInt8.ofNat (48 + c) from by rw [UInt8.ofNat_add]; rfl]
  exact str_one _ _

theorem specFI_zero (w : World) :
    Calls Tryd.prog 89 #[.int .i64 0] w fun e w' => e = .returned (.string ⟨(Lib.itoa 0).toArray⟩) ∧ Since w w' := by
  go_enter Tryd.func89, Tryd.ntmps89
  go_wp2
  go_ret
  exact ⟨ret_str (by rw [Lib.itoa, if_neg (by omega), show Int.toNat 0 = 0 from rfl, dd_small (by omega)]; rfl), Since.refl _⟩

set_option maxRecDepth 100000 in
theorem specFI_pos (u : Nat) (w : World) (h1 : 1 ≤ u) (h9 : u ≤ 9223372036854775807) :
    Calls Tryd.prog 89 #[.int .i64 (u : Int)] w fun e w' => e = .returned (.string ⟨(Lib.itoa (u : Int)).toArray⟩) ∧ Since w w' := by
  have hz : ((u : Int) == 0) = false := by simp; omega
  go_enter Tryd.func89, Tryd.ntmps89
  go_wp2
  go_loopw [0, 3] (fun v out wr => ∃ (q n0 : Nat) (l : List UInt8), v = .int .i64 q ∧ q ≤ 9223372036854775807 ∧ out = .string ⟨l.toArray⟩ ∧ Hid (n0 = l.length) ∧ n0 ≤ 19 ∧ Hid (q * 10 ^ n0 ≤ u) ∧ Hid (restIs q l u) ∧ Since w wr) (fun v _ _ => (intOf v).toNat)
  case atStart => exact ⟨u, 0, [], rfl, h9, rfl, rfl, by omega, by unfold Hid; simp, rest_start u h1, Since.refl _⟩
  case round =>
    obtain ⟨q, n0, l, rfl, hq9, rfl, HL, hn0, HP, HR, hsin⟩ := hrel
    by_cases hq : 1 ≤ q
    · have hne : ((q : Int) != 0) = true := by simp; omega
      have h18 := len18 q n0 u hq HP.out (by omega)
      have hll : l.length ≤ 18 := by rw [← HL.out]; exact h18
      have hcv := fun v => one_byte wr v
      go_wp2
      go_roundw
      case rel => exact ⟨q / 10, n0 + 1, UInt8.ofNat (48 + q % 10) :: l, by go_num, by omega, by rw [str_digit], by unfold Hid; rw [HL.out]; rfl, by omega, pow_step q n0 u HP.out, rest_step hq HR.out, hsin.alloc _⟩
      case measure => simp [intOf]; omega
    · obtain rfl : q = 0 := by omega
      go_wp2
      go_ret
      exact ⟨ret_str (by rw [rest_end HR.out, Lib.itoa, if_neg (by omega)]; simp), hsin⟩
set_option maxRecDepth 100000 in
theorem specFI_neg (u : Nat) (w : World) (h1 : 1 ≤ u) (h9 : (u : Int) ≤ 9223372036854775808) :
    Calls Tryd.prog 89 #[.int .i64 (-(u : Int))] w fun e w' => e = .returned (.string ⟨(Lib.itoa (-(u : Int))).toArray⟩) ∧ Since w w' := by
  have hz : (-(u : Int) == 0) = false := by simp; omega
  have hneg : -(u : Int) < 0 := by omega
  go_enter Tryd.func89, Tryd.ntmps89
  go_wp2
  go_loopw [0, 3, 5] (fun v out _ wr => ∃ (q n0 : Nat) (l : List UInt8), v = .int .i64 (-(q : Int)) ∧ (q : Int) ≤ 9223372036854775808 ∧ out = .string ⟨l.toArray⟩ ∧ Hid (n0 = l.length) ∧ n0 ≤ 19 ∧ Hid (q * 10 ^ n0 ≤ u) ∧ Hid (restIs q l u) ∧ Since w wr) (fun v _ _ _ => (-(intOf v)).toNat)
  case atStart => exact ⟨u, 0, [], rfl, h9, rfl, rfl, by omega, by unfold Hid; simp, rest_start u h1, Since.refl _⟩
  case round =>
    obtain ⟨q, n0, l, rfl, hq9, rfl, HL, hn0, HP, HR, hsin⟩ := hrel
    by_cases hq : 1 ≤ q
    · have hne : (-(q : Int) != 0) = true := by simp; omega
      have h18 := len18 q n0 u hq HP.out (by omega)
      have hll : l.length ≤ 18 := by rw [← HL.out]; exact h18
      have hcv := fun v => one_byte wr v
      have em : (-(q : Int)).tmod 10 = -((q : Int) % 10) := by rw [Int.neg_tmod, Int.tmod_eq_emod_of_nonneg (by omega)]
      have ed : (-(q : Int)).tdiv 10 = -((q : Int) / 10) := by rw [Int.neg_tdiv, Int.tdiv_eq_ediv_of_nonneg (by omega)]
      by_cases hd : 1 ≤ q % 10
      · go_wp2
        go_roundw
        case rel => exact ⟨q / 10, n0 + 1, UInt8.ofNat (48 + q % 10) :: l, by go_num, by omega, by rw [str_digit], by unfold Hid; rw [HL.out]; rfl, by omega, pow_step q n0 u HP.out, rest_step hq HR.out, hsin.alloc _⟩
        case measure => simp [intOf]; omega
      · go_wp2
        go_roundw
        case rel => exact ⟨q / 10, n0 + 1, UInt8.ofNat (48 + q % 10) :: l, by go_num, by omega, by rw [show (48 + -((q : Int) % 10)).toNat = 48 + q % 10 from by omega, str_one], by unfold Hid; rw [HL.out]; rfl, by omega, pow_step q n0 u HP.out, rest_step hq HR.out, hsin.alloc _⟩
        case measure => simp [intOf]; omega
    · obtain rfl : q = 0 := by omega
      have hll : l.length ≤ 19 := by rw [← HL.out]; exact hn0
      have hu0 : 0 < u := by omega
      go_wp2
      go_ret
      exact ⟨ret_str (by rw [rest_end HR.out, Lib.itoa, if_pos (by omega), show (-(u : Int)).natAbs = u from by omega, show (#[45] : Array UInt8) = [45].toArray from rfl, ByteArray.mk_append_mk]; rfl), hsin⟩

theorem specFI_any (n : Int) (w : World) (h0 : -9223372036854775808 ≤ n) (h1 : n ≤ 9223372036854775807) :
    Calls Tryd.prog 89 #[.int .i64 n] w fun e w' => e = .returned (.string ⟨(Lib.itoa n).toArray⟩) ∧ Since w w' := by
  by_cases hz : n = 0
  · rw [hz]; exact specFI_zero w
  · by_cases hp : 0 ≤ n
    · obtain ⟨u, rfl⟩ := Int.eq_ofNat_of_zero_le hp
      exact specFI_pos u w (by omega) (by omega)
    · obtain ⟨u, hu⟩ := Int.eq_ofNat_of_zero_le (show 0 ≤ -n by omega)
      obtain rfl : n = -(u : Int) := by omega
      exact specFI_neg u w (by omega) (by omega)

end Go.Proofs.YtblmiocjhbpklaaDoor
