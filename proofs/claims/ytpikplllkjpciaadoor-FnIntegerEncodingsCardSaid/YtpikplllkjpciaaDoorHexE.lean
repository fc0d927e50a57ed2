/- EncodeHex, the model's and the program's. -/
import Derived.Test.YtpikplllkjpciaaDoorVarE
import Derived.Deep.RegionWith
namespace Go.Proofs.YtpikplllkjpciaaDoor
open Go.ChangeShapes Go.WideShapes Go.ChangeAt Go.RowKit

def hexd (x : Nat) : Nat := if x < 10 then 48 + x else 87 + x
theorem hexd_lt (x : Nat) (h : x < 16) : hexd x < 128 := by unfold hexd; split <;> omega
def hexOf : List UInt8 → List UInt8
  | [] => []
  | b :: l => UInt8.ofNat (hexd (b.toNat / 16)) :: UInt8.ofNat (hexd (b.toNat % 16)) :: hexOf l
theorem hexOf_snoc (l : List UInt8) (b : UInt8) : hexOf (l ++ [b]) = hexOf l ++ [UInt8.ofNat (hexd (b.toNat / 16)), UInt8.ofNat (hexd (b.toNat % 16))] := by
  induction l with
  | nil => rfl
  | cons a l ih => simp [hexOf, ih]
theorem hexOf_length (l : List UInt8) : (hexOf l).length = 2 * l.length := by
  induction l with
  | nil => rfl
  | cons a l ih => simp [hexOf, ih]; omega

theorem sixteen (x : Nat) (h : x < 16) : x = 0 ∨ x = 1 ∨ x = 2 ∨ x = 3 ∨ x = 4 ∨ x = 5 ∨ x = 6 ∨ x = 7 ∨ x = 8 ∨ x = 9 ∨ x = 10 ∨ x = 11 ∨ x = 12 ∨ x = 13 ∨ x = 14 ∨ x = 15 := by omega
theorem index_u8 (v : Int) (x : Nat) (hv : v = (x : Int)) (h : x < 16) (w : World) :
    (Instr.index 9 (.string ⟨#[48, 49, 50, 51, 52, 53, 54, 55, 56, 57, 97, 98, 99, 100, 101, 102]⟩) (.int .u8 v)).run Tryd.prog w = .ok (.int .u8 ((hexd x : Nat) : Int)) w := by
  subst hv
  rcases sixteen x h with h | h | h | h | h | h | h | h | h | h | h | h | h | h | h | h <;> subst h <;> kernel_rfl
theorem index_i64 (v : Int) (x : Nat) (hv : v = (x : Int)) (h : x < 16) (w : World) :
    (Instr.index 9 (.string ⟨#[48, 49, 50, 51, 52, 53, 54, 55, 56, 57, 97, 98, 99, 100, 101, 102]⟩) (.int .i64 v)).run Tryd.prog w = .ok (.int .u8 ((hexd x : Nat) : Int)) w := by
  subst hv
  rcases sixteen x h with h | h | h | h | h | h | h | h | h | h | h | h | h | h | h | h <;> subst h <;> kernel_rfl
theorem and_15 (b : Nat) (h : b < 256) : bits .and .u8 (b : Int) 15 = (b : Int) % 16 := by
  have := u8_and_nat b 15 h (by omega)
  rw [show (15 : Nat) = 2 ^ 4 - 1 from rfl, Nat.and_two_pow_sub_one_eq_mod] at this
  exact this

theorem two_bcells (l : List UInt8) (x y : Nat) (hx : x < 16) (hy : y < 16) :
    (l ++ [UInt8.ofNat (hexd x), UInt8.ofNat (hexd y)]).map bcell = l.map bcell ++ [.int .u8 ((hexd x : Nat) : Int), .int .u8 ((hexd y : Nat) : Int)] := by
  have h1 := hexd_lt x hx
  have h2 := hexd_lt y hy
  rw [List.map_append, List.map_cons, List.map_cons, List.map_nil, bcell_ofNat _ (by omega), bcell_ofNat _ (by omega)]

set_option maxRecDepth 100000 in
theorem implEH_any (s : ByteArray) (w : World) (hs : s.size ≤ 1048576) :
    Calls Tryd.prog 15 #[.string s] w fun e w' => e = .returned (.string ⟨(hexOf s.data.toList).toArray⟩) ∧ Since w w' := by
  obtain ⟨i0, hi, hz0, hz1, hz2⟩ := info_parts info_u8
  have HZ2 := Lib.hid hz2
  clear hz2
  go_enter Tryd.func15, Tryd.ntmps15
  go_wp2_with (at_make; go_must (refine wpList_make_own _ rfl _ _ 22 rfl w.heap.size 5 i0 (.int .u8 0) 1 Tryd.underlying22 hi hz0 hz1 .i64 .i64 _ (2 * s.size) rfl rfl (by omega) (by rw [HZ2.out]; omega) (by unfold maxLen; omega) (Nat.le_refl _) ?_); intro w1 hown hgrow)
  have hsin : Since w w1 := (Since.refl w).grown hgrow (fun _ h => by simp at h)
  go_loopw [3, 11] (fun out i wr => ∃ (k n0 : Nat), k ≤ s.size ∧ i = .int .i64 k ∧ Hid (n0 = 2 * k) ∧ wr.ownsRow w.heap.size 5 1 out n0 ((hexOf (s.data.toList.take k)).map bcell) ∧ Since w wr) (fun _ i _ => s.size - (intOf i).toNat)
  case atStart => exact ⟨0, 0, Nat.zero_le _, rfl, rfl, hown, hsin⟩
  case round =>
    obtain ⟨k, n0, hk, rfl, HN, hown, hsin⟩ := hrel
    by_cases hlt : k < s.size
    · have h8 := byte_lt s k hlt
      have hi1 := fun W => index_u8 ((s[k].toNat : Int) / 16) (s[k].toNat / 16) (by omega) (by omega) W
      have hi2 := fun W => index_u8 ((s[k].toNat : Int) % 16) (s[k].toNat % 16) (by omega) (by omega) W
      have hand := and_15 s[k].toNat h8
      have HB1 : Hid ((n0 + 2) * 1 ≤ 140737488355328) := by have := HN.out; unfold Hid; omega
      have HB2 : Hid (n0 + 2 ≤ maxLen) := by have := HN.out; unfold Hid maxLen; omega
      go_wp2
      go_region_law (refine step_append_cells rfl (.tmp 14) (.tmp 25) 22 rfl 5 (.int .u8 0) 1 Tryd.underlying22 info_u8 rfl _ n0 _ (by simp [Act.eval]) hown hsin [_, _] 2 rfl (by intro u hu; simp at hu; rcases hu with rfl | rfl <;> rfl) (by simp [Act.eval]) HB1.out HB2.out ?_; intro v' w1 hown1 hsin1)
      all_goals
        have hown2 : w1.ownsRow w.heap.size 5 1 v' (n0 + 2) ((hexOf (s.data.toList.take (k + 1))).map bcell) := by
          rw [take_snoc s k hlt, hexOf_snoc, two_bcells _ _ _ (by omega) (by omega)]; exact hown1
        go_wp2
        go_roundw
        case rel => exact ⟨k + 1, n0 + 2, by omega, by go_num, by have := HN.out; unfold Hid; omega, hown2, hsin1⟩
        case measure => simp [intOf]; omega
    · obtain rfl : k = s.size := by omega
      have hcv := own_string wr hown (hexOf (s.data.toList.take s.size)) rfl
      go_wp2
      go_ret
      exact ⟨ret_str (by rw [List.take_of_length_le (by simp)]), hsin⟩
end Go.Proofs.YtpikplllkjpciaaDoor
