/- Letters as text: the table of formats; FormatLetter. -/
import Derived.Test.YtblmiocjhbpklaaDoorK0
import Derived.Test.YtblmiocjhbpklaaDoorBytes
import Derived.Lib.LaidTab
namespace Go.Proofs.YtblmiocjhbpklaaDoor
set_option maxRecDepth 100000
set_option linter.unusedVariables false
open Go.ChangeShapes Go.WideShapes Go.ChangeAt Go.RowKit

/-- The format of a letter. -/
def fmtB : Nat → ByteArray
  | 0 => ⟨#[97]⟩
  | 1 => ⟨#[97, 45]⟩
  | 2 => ⟨#[98]⟩
  | 3 => ⟨#[98, 45]⟩
  | 4 => ⟨#[99]⟩
  | 5 => ⟨#[99, 45]⟩
  | 6 => ⟨#[48]⟩
  | 7 => ⟨#[49]⟩
  | _ => ⟨#[50]⟩
def fmtL (x : Int) : ByteArray := bif inB x 0 8 then fmtB x.toNat else ⟨#[]⟩
theorem fmtL_in {k : Nat} (h : k ≤ 8) : fmtL (k : Int) = fmtB k := by
  unfold fmtL; rw [inB_true (by omega) (by omega)]; simp
theorem fmtL_out {x : Int} (h : inB x 0 8 = false) : fmtL x = ⟨#[]⟩ := by
  unfold fmtL; rw [h]; rfl
/-- The cells of the program's table. -/
def fbs : List Int := [97, 0, 97, 45, 98, 0, 98, 45, 99, 0, 99, 45, 48, 0, 49, 0, 50, 0]
def Fmts (w : World) : Prop := 1 < w.heap.size ∧ ∀ i, i < 18 → w.cell? ⟨1, i, none⟩ = some (.int .u8 (fbs.getD i 0))
theorem Fmts.since {w w' : World} (h : Fmts w) (k : Since w w') : Fmts w' :=
  ⟨Nat.lt_of_lt_of_le h.1 k.size, fun i hi => (Below.cell k (p := ⟨1, i, none⟩) h.1).trans (h.2 i hi)⟩
theorem nine {k : Nat} (h : k ≤ 8) : k = 0 ∨ k = 1 ∨ k = 2 ∨ k = 3 ∨ k = 4 ∨ k = 5 ∨ k = 6 ∨ k = 7 ∨ k = 8 := by omega
theorem inB_nat {x : Int} (h : inB x 0 8 = true) : ∃ k : Nat, k ≤ 8 ∧ x = (k : Int) := by
  have := of_decide_eq_true h
  exact ⟨x.toNat, by omega, by omega⟩

theorem arr_one (w : World) (a b : Nat) (ha : a < 256) :
    (convert 22 9 (.slice (some ⟨w.heap.size, 0, none⟩) 1 2)).run Tryd.prog (w.alloc (.cells #[.int .u8 (a : Int), .int .u8 (b : Int)] 175)) = .ok (.string ⟨#[UInt8.ofNat a]⟩) (w.alloc (.cells #[.int .u8 (a : Int), .int .u8 (b : Int)] 175)) := by
  refine run_convert_bytes_back _ 22 9 5 ⟨w.heap.size, 0, none⟩ 2 [UInt8.ofNat a] Tryd.underlying22 Tryd.underlying5 Tryd.underlying9 fun j hj => ?_
  match j, hj with
  | 0, _ => simp [Addr.add]; omega
theorem arr_two (w : World) (a b : Nat) (ha : a < 256) (hb : b < 256) :
    (convert 22 9 (.slice (some ⟨w.heap.size, 0, none⟩) 2 2)).run Tryd.prog (w.alloc (.cells #[.int .u8 (a : Int), .int .u8 (b : Int)] 175)) = .ok (.string ⟨#[UInt8.ofNat a, UInt8.ofNat b]⟩) (w.alloc (.cells #[.int .u8 (a : Int), .int .u8 (b : Int)] 175)) := by
  refine run_convert_bytes_back _ 22 9 5 ⟨w.heap.size, 0, none⟩ 2 [UInt8.ofNat a, UInt8.ofNat b] Tryd.underlying22 Tryd.underlying5 Tryd.underlying9 fun j hj => ?_
  match j, hj with
  | 0, _ => simp [Addr.add]; omega
  | 1, _ => simp [Addr.add]; omega

set_option maxHeartbeats 2000000 in
theorem specFL_any (x : Int) (w : World) : Calls Tryd.prog 90 #[.int .i64 x] w fun e w' => e = .returned (.string (fmtL x)) ∧ Since w w' := by
  cases h : inB x 0 8 with
  | false =>
    have H := Lib.hid (fmtL_out h)
    go_enter Tryd.func90, Tryd.ntmps90
    go_wp2_with (go_at_call 69; refine (l2Letter_any _ _).mono ?_; rintro e w' ⟨rfl, rfl⟩)
    go_ret
    exact ⟨ret_str H.out.symm, Since.refl _⟩
  | true =>
    obtain ⟨k, hk, rfl⟩ := inB_nat h
    rcases nine hk with rfl | rfl | rfl | rfl | rfl | rfl | rfl | rfl | rfl
    all_goals
      have H := Lib.hid (fmtL_in hk)
      go_enter Tryd.func90, Tryd.ntmps90
      go_wp2_with (go_at_call 69; refine (l2Letter_any _ _).mono ?_; rintro e w' ⟨rfl, rfl⟩)
      go_ret
      exact ⟨ret_str (H.out.symm ▸ rfl), (Since.refl _).alloc _⟩
set_option maxHeartbeats 2000000 in
theorem implFL_any (x : Int) (w : World) (ht : Fmts w) : Calls Tryd.prog 131 #[.int .i64 x] w fun e w' => e = .returned (.string (fmtL x)) ∧ Since w w' := by
  cases h : inB x 0 8 with
  | false =>
    have H := Lib.hid (fmtL_out h)
    clear ht
    go_enter Tryd.func131, Tryd.ntmps131
    go_wp2_with (go_at_call 77; refine (isLetter_any _ _).mono ?_; rintro e w' ⟨rfl, rfl⟩)
    go_ret
    exact ⟨ret_str H.out.symm, Since.refl _⟩
  | true =>
    obtain ⟨k, hk, rfl⟩ := inB_nat h
    rcases nine hk with rfl | rfl | rfl | rfl | rfl | rfl | rfl | rfl | rfl
    all_goals
      have H := Lib.hid (fmtL_in hk)
    · have h0 := ht.2 0 (by omega)
      have h1 := ht.2 1 (by omega)
      have hcv := arr_one w 97 0 (by omega)
      clear ht
      simp [fbs] at h0 h1 hcv
      go_enter Tryd.func131, Tryd.ntmps131
      go_wp2_with (go_at_call 77; refine (isLetter_any _ _).mono ?_; rintro e w' ⟨rfl, rfl⟩)
      go_ret
      exact ⟨ret_str (H.out.symm ▸ rfl), (Since.refl _).alloc _⟩
    · have h0 := ht.2 2 (by omega)
      have h1 := ht.2 3 (by omega)
      have hcv := arr_two w 97 45 (by omega) (by omega)
      clear ht
      simp [fbs] at h0 h1 hcv
      go_enter Tryd.func131, Tryd.ntmps131
      go_wp2_with (go_at_call 77; refine (isLetter_any _ _).mono ?_; rintro e w' ⟨rfl, rfl⟩)
      go_ret
      exact ⟨ret_str (H.out.symm ▸ rfl), (Since.refl _).alloc _⟩
    · have h0 := ht.2 4 (by omega)
      have h1 := ht.2 5 (by omega)
      have hcv := arr_one w 98 0 (by omega)
      clear ht
      simp [fbs] at h0 h1 hcv
      go_enter Tryd.func131, Tryd.ntmps131
      go_wp2_with (go_at_call 77; refine (isLetter_any _ _).mono ?_; rintro e w' ⟨rfl, rfl⟩)
      go_ret
      exact ⟨ret_str (H.out.symm ▸ rfl), (Since.refl _).alloc _⟩
    · have h0 := ht.2 6 (by omega)
      have h1 := ht.2 7 (by omega)
      have hcv := arr_two w 98 45 (by omega) (by omega)
      clear ht
      simp [fbs] at h0 h1 hcv
      go_enter Tryd.func131, Tryd.ntmps131
      go_wp2_with (go_at_call 77; refine (isLetter_any _ _).mono ?_; rintro e w' ⟨rfl, rfl⟩)
      go_ret
      exact ⟨ret_str (H.out.symm ▸ rfl), (Since.refl _).alloc _⟩
    · have h0 := ht.2 8 (by omega)
      have h1 := ht.2 9 (by omega)
      have hcv := arr_one w 99 0 (by omega)
      clear ht
      simp [fbs] at h0 h1 hcv
      go_enter Tryd.func131, Tryd.ntmps131
      go_wp2_with (go_at_call 77; refine (isLetter_any _ _).mono ?_; rintro e w' ⟨rfl, rfl⟩)
      go_ret
      exact ⟨ret_str (H.out.symm ▸ rfl), (Since.refl _).alloc _⟩
    · have h0 := ht.2 10 (by omega)
      have h1 := ht.2 11 (by omega)
      have hcv := arr_two w 99 45 (by omega) (by omega)
      clear ht
      simp [fbs] at h0 h1 hcv
      go_enter Tryd.func131, Tryd.ntmps131
      go_wp2_with (go_at_call 77; refine (isLetter_any _ _).mono ?_; rintro e w' ⟨rfl, rfl⟩)
      go_ret
      exact ⟨ret_str (H.out.symm ▸ rfl), (Since.refl _).alloc _⟩
    · have h0 := ht.2 12 (by omega)
      have h1 := ht.2 13 (by omega)
      have hcv := arr_one w 48 0 (by omega)
      clear ht
      simp [fbs] at h0 h1 hcv
      go_enter Tryd.func131, Tryd.ntmps131
      go_wp2_with (go_at_call 77; refine (isLetter_any _ _).mono ?_; rintro e w' ⟨rfl, rfl⟩)
      go_ret
      exact ⟨ret_str (H.out.symm ▸ rfl), (Since.refl _).alloc _⟩
    · have h0 := ht.2 14 (by omega)
      have h1 := ht.2 15 (by omega)
      have hcv := arr_one w 49 0 (by omega)
      clear ht
      simp [fbs] at h0 h1 hcv
      go_enter Tryd.func131, Tryd.ntmps131
      go_wp2_with (go_at_call 77; refine (isLetter_any _ _).mono ?_; rintro e w' ⟨rfl, rfl⟩)
      go_ret
      exact ⟨ret_str (H.out.symm ▸ rfl), (Since.refl _).alloc _⟩
    · have h0 := ht.2 16 (by omega)
      have h1 := ht.2 17 (by omega)
      have hcv := arr_one w 50 0 (by omega)
      clear ht
      simp [fbs] at h0 h1 hcv
      go_enter Tryd.func131, Tryd.ntmps131
      go_wp2_with (go_at_call 77; refine (isLetter_any _ _).mono ?_; rintro e w' ⟨rfl, rfl⟩)
      go_ret
      exact ⟨ret_str (H.out.symm ▸ rfl), (Since.refl _).alloc _⟩
end Go.Proofs.YtblmiocjhbpklaaDoor
