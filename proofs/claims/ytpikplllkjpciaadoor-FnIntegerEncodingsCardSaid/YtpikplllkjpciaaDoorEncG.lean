/- The program's EncodeFixed. -/
import Derived.Test.YtpikplllkjpciaaDoorEncF
namespace Go.Proofs.YtpikplllkjpciaaDoor
open Go.ChangeShapes Go.WideShapes Go.ChangeAt Go.RowKit

theorem specEF_bad (n x : Int) (w : World) (h : n < 0 ∨ x < 1 ∨ 7 < x) :
    Calls Tryd.prog 14 #[.int .i64 n, .int .i64 x] w fun e w' => e = .returned (.string ⟨#[]⟩) ∧ Since w w' := by
  by_cases hb : inB x 1 7 = true
  · have h2 : n < 0 := by simp [inB] at hb; omega
    go_enter Tryd.func14, Tryd.ntmps14
    go_wp2_with (go_at_call 26; refine (l1In_any _ _ _ _).mono ?_; rintro e w' ⟨rfl, rfl⟩)
    go_ret
    exact ⟨rfl, Since.refl _⟩
  · have hb : inB x 1 7 = false := by simpa using hb
    go_enter Tryd.func14, Tryd.ntmps14
    go_wp2_with (go_at_call 26; refine (l1In_any _ _ _ _).mono ?_; rintro e w' ⟨rfl, rfl⟩)
    go_ret
    exact ⟨rfl, Since.refl _⟩
theorem implEF_bad (n x : Int) (w : World) (h : n < 0 ∨ x < 1 ∨ 7 < x) :
    Calls Tryd.prog 12 #[.int .i64 n, .int .i64 x] w fun e w' => e = .returned (.string ⟨#[]⟩) ∧ Since w w' := by
  by_cases hb : inB x 1 7 = true
  · have h2 : n < 0 := by simp [inB] at hb; omega
    go_enter Tryd.func12, Tryd.ntmps12
    go_wp2_with (go_at_call 25; refine (isFixedWidth_any _ _).mono ?_; rintro e w' ⟨rfl, rfl⟩)
    go_ret
    exact ⟨rfl, Since.refl _⟩
  · have hb : inB x 1 7 = false := by simpa using hb
    go_enter Tryd.func12, Tryd.ntmps12
    go_wp2_with (go_at_call 25; refine (isFixedWidth_any _ _).mono ?_; rintro e w' ⟨rfl, rfl⟩)
    go_ret
    exact ⟨rfl, Since.refl _⟩

theorem pow_256 (m : Nat) : 2 ^ (8 * m) = 256 ^ m := by rw [Nat.pow_mul]
theorem shr_zero (n m : Nat) (h : n / 256 ^ m = 0) : ((n : Int) / 2 ^ (8 * m) != 0) = false := by
  have : (n : Int) / 2 ^ (8 * m) = 0 := by rw [← pow_256] at h; exact_mod_cast h
  simp [this]
theorem shr_some (n m : Nat) (h : ¬ n / 256 ^ m = 0) : ((n : Int) / 2 ^ (8 * m) != 0) = true := by
  have : ¬ (n : Int) / 2 ^ (8 * m) = 0 := by rw [← pow_256] at h; exact_mod_cast h
  simp [this]

theorem lowBytes_get (n m k : Nat) (h : k < m) : (lowBytes n m)[k]? = some (UInt8.ofNat (n / 256 ^ (m - 1 - k) % 256)) := by
  induction m generalizing k with
  | zero => omega
  | succ m ih =>
    match k with
    | 0 => simp [lowBytes]
    | k + 1 =>
      rw [lowBytes, List.getElem?_cons_succ, ih k (by omega)]
      rw [show m + 1 - 1 - (k + 1) = m - 1 - k from by omega]
theorem row_step (n m k : Nat) (h : k < m) :
    (filled ((lowBytes n m).map bcell) (.int .u8 0) k).set k (.int .u8 ((n : Int) / 2 ^ (8 * (m - 1 - k)) % 256)) = filled ((lowBytes n m).map bcell) (.int .u8 0) (k + 1) := by
  have hl : k < ((lowBytes n m).map bcell).length := by rw [List.length_map, lowBytes_length]; exact h
  rw [← filled_set _ _ k hl]
  congr 1
  have e := lowBytes_get n m k h
  have e2 : ((lowBytes n m).map bcell)[k]? = some (bcell (UInt8.ofNat (n / 256 ^ (m - 1 - k) % 256))) := by rw [List.getElem?_map, e]; rfl
  rw [List.getElem?_eq_getElem hl] at e2
  rw [Option.some.inj e2]
  unfold bcell
  congr 1
  have : (UInt8.ofNat (n / 256 ^ (m - 1 - k) % 256)).toNat = n / 256 ^ (m - 1 - k) % 256 := by
    rw [UInt8.toNat_ofNat']; omega
  rw [this, ← pow_256, Int.natCast_emod, Int.natCast_ediv, Int.natCast_pow]
  rfl

theorem implEF_out (n m : Nat) (w : World) (_h9 : n ≤ 9223372036854775807) (h1 : 1 ≤ m) (h2 : m ≤ 7) (hz : ¬ n / 256 ^ m = 0) :
    Calls Tryd.prog 12 #[.int .i64 (n : Int), .int .i64 (m : Int)] w fun e w' => e = .returned (.string ⟨#[]⟩) ∧ Since w w' := by
  have hb : inB m 1 7 = true := by simp [inB]; omega
  have hs := shr_some n m hz
  clear hz
  go_enter Tryd.func12, Tryd.ntmps12
  go_wp2_with (go_at_call 25; refine (isFixedWidth_any _ _).mono ?_; rintro e w' ⟨rfl, rfl⟩)
  go_ret
  exact ⟨rfl, Since.refl _⟩
theorem implEF_in (n m : Nat) (w : World) (_h9 : n ≤ 9223372036854775807) (h1 : 1 ≤ m) (h2 : m ≤ 7) (hz : n / 256 ^ m = 0) :
    Calls Tryd.prog 12 #[.int .i64 (n : Int), .int .i64 (m : Int)] w fun e w' => e = .returned (.string ⟨(lowBytes n m).toArray⟩) ∧ Since w w' := by
  have hb : inB m 1 7 = true := by simp [inB]; omega
  have hs := shr_zero n m hz
  clear hz
  obtain ⟨i0, hi, hz0, hz1, hz2⟩ := info_parts info_u8
  go_enter Tryd.func12, Tryd.ntmps12
  go_wp2_with (first
    | (go_at_call 25; refine (isFixedWidth_any _ _).mono ?_; rintro e w' ⟨rfl, rfl⟩)
    | (at_make; refine wpList_make_full _ rfl _ _ 22 rfl w.heap.size 5 i0 (.int .u8 0) 1 Tryd.underlying22 hi hz0 hz1 _ _ _ _ m rfl rfl rfl rfl (by rw [hz2]; omega) (by unfold maxLen; omega) (Nat.le_refl _) ?_))
  intro w1 hown hgrow
  have hsin : Since w w1 := (Since.refl w).grown hgrow (fun _ h => by simp at h)
  have hrow : w1.ownsRow w.heap.size 5 1 (.slice (some ⟨w.heap.size, 0, none⟩) m m) m (filled ((lowBytes n m).map bcell) (.int .u8 0) 0) := by
    rw [filled_zero, List.length_map, lowBytes_length, ← toList_madeCells_one]; exact hown
  clear hown hgrow hs hb
  go_wp2
  go_loopw [25] (fun i wr => ∃ k : Nat, k ≤ m ∧ i = .int .i64 k ∧ wr.ownsRow w.heap.size 5 1 (.slice (some ⟨w.heap.size, 0, none⟩) m m) m (filled ((lowBytes n m).map bcell) (.int .u8 0) k) ∧ Since w wr) (fun i _ => m - (intOf i).toNat)
  case atStart => exact ⟨0, Nat.zero_le _, rfl, hrow, hsin⟩
  case round =>
    obtain ⟨k, hk, rfl, hown, hg⟩ := hrel
    by_cases hlt : k < m
    · have hlen : ((lowBytes n m).map bcell).length = m := by rw [List.length_map, lowBytes_length]
      have hcell : wr.cell? ⟨w.heap.size, k, none⟩ = some (.int .u8 0) := by
        rw [hown.cellAt k (by omega)]; exact filled_at _ _ _ (by omega)
      have hfz := hown.frozenAt k
      have hst := hown.stored k (.int .u8 ((n : Int) / 2 ^ (8 * (m - 1 - k)) % 256))
      rw [row_step n m k hlt] at hst
      have HL := Lib.hid hlen
      clear hlen
      go_wp2
      go_roundw
      case rel => exact ⟨k + 1, by omega, by go_num, hst.1, hg.setCell (Nat.le_refl _) _⟩
      case measure => simp [intOf]; omega
    · obtain rfl : k = m := by omega
      have hcv := row_string wr hown (lowBytes n k) (filled_all _ _ _ (by simp [lowBytes_length]))
      go_wp2
      go_ret
      exact ⟨rfl, hg⟩
end Go.Proofs.YtpikplllkjpciaaDoor
