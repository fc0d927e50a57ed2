/- Letters read back: ParseLetter. -/
import Derived.Test.YtiojgahjfndmdaaDoorLetF
import Derived.Test.YtiojgahjfndmdaaDoorShelf
import Derived.Lib.LazyBuf
namespace Go.Proofs.YtiojgahjfndmdaaDoor
set_option maxRecDepth 100000
set_option linter.unusedVariables false
open Go.ChangeShapes Go.WideShapes Go.ChangeAt Go.RowKit

/-- The letter that has this format. -/
def pl (s : ByteArray) : Option Nat := (List.range 9).find? fun k => decide (fmtB k = s)
def plN (s : ByteArray) : Int := (((pl s).getD 0 : Nat) : Int)
def plB (s : ByteArray) : Bool := (pl s).isSome
theorem pl_self {k : Nat} (h : k ≤ 8) : pl (fmtB k) = some k := by
  rcases nine h with rfl | rfl | rfl | rfl | rfl | rfl | rfl | rfl | rfl <;> decide +kernel
theorem pl_at {s : ByteArray} {k : Nat} (h : k ≤ 8) (e : fmtB k = s) : plN s = k ∧ plB s = true := by
  subst e; unfold plN plB; rw [pl_self h]; exact ⟨rfl, rfl⟩
theorem pl_none {s : ByteArray} (h : ∀ j, j < 9 → fmtB j ≠ s) : plN s = 0 ∧ plB s = false := by
  have : pl s = none := by
    unfold pl; rw [List.find?_eq_none]; intro k hk; simpa using h k (by simpa using hk)
  unfold plN plB; rw [this]; exact ⟨rfl, rfl⟩
theorem ret_pair {a b : Int} {p q : Bool} (h1 : a = b) (h2 : p = q) : Ending.returned (.tuple #[.int .i64 a, .bool p]) = .returned (.tuple #[.int .i64 b, .bool q]) := by rw [h1, h2]
theorem str_ext {a b : ByteArray} (h : a.data.toList = b.data.toList) : a = b := by
  cases a; cases b; congr; exact Array.toList_inj.1 h
theorem str_ne {a b : ByteArray} (h : a ≠ b) : (a.toList == b.toList) = false := by
  rw [ByteArray.toList_eq, ByteArray.toList_eq, beq_eq_false_iff_ne]
  exact fun e => h (str_ext e)
theorem below_snoc {P : Nat → Prop} {k : Nat} (h : ∀ j, j < k → P j) (hk : P k) : ∀ j, j < k + 1 → P j := by
  intro j hj
  by_cases e : j = k
  · subst e; exact hk
  · exact h j (by omega)

set_option maxHeartbeats 1000000 in
theorem specPL_any (s : ByteArray) (w : World) : Calls Tryd.prog 128 #[.string s] w fun e w' => e = .returned (.tuple #[.int .i64 (plN s), .bool (plB s)]) ∧ Since w w' := by
  go_enter Tryd.func128, Tryd.ntmps128
  go_wp2
  go_loopw [4] (fun i wr => ∃ k : Nat, k ≤ 9 ∧ i = .int .i64 k ∧ Hid (∀ j, j < k → fmtB j ≠ s) ∧ Since w wr) (fun i _ => 9 - (intOf i).toNat)
  case atStart => exact ⟨0, by omega, rfl, fun j hj => by omega, Since.refl _⟩
  case round =>
    obtain ⟨k, hk, rfl, HN, hsin⟩ := hrel
    by_cases hlt : k ≤ 8
    · have hki : (k : Int) < 9 := by omega
      have HF := Lib.hid (fmtL_in hlt)
      by_cases he : fmtB k = s
      · have HR := Lib.hid (pl_at hlt he)
        have HE := Lib.hid he
        clear he
        go_wp2_with fail
        refine (specFL_any _ _).mono ?_
        rintro e w1 ⟨rfl, hs1⟩
        have he1 : fmtL (k : Int) = s := by rw [HF.out]; exact HE.out
        rw [he1]
        clear he1
        go_wp2_with fail
        go_ret2
        exact ⟨ret_pair HR.out.1.symm HR.out.2.symm, hsin.trans hs1⟩
      · have HR : Hid (∀ j, j < k + 1 → fmtB j ≠ s) := below_snoc HN.out he
        have he1 : Hid (fmtL (k : Int) ≠ s) := by rw [HF.out]; exact he
        clear he
        go_wp2_with fail
        refine (specFL_any _ _).mono ?_
        rintro e w1 ⟨rfl, hs1⟩
        have he2 := str_ne he1.out
        go_wp2_with fail
        clear he2
        go_roundw
        case rel => exact ⟨k + 1, by omega, by go_num, HR, hsin.trans hs1⟩
        case measure => simp [intOf]; omega
    · obtain rfl : k = 9 := by omega
      have HR := Lib.hid (pl_none HN.out)
      go_wp2
      go_ret2
      exact ⟨ret_pair HR.out.1.symm HR.out.2.symm, hsin⟩

/-- Byte i of the row of two that the program copies the string into. -/
def gb (s : ByteArray) (i : Nat) : Int := if h : i < s.size then (s[i].toNat : Int) else 0
theorem two_cases (s : ByteArray) (h : s.size ≤ 2) : s = ⟨#[]⟩ ∨ (∃ a, s = ⟨#[a]⟩) ∨ ∃ a b, s = ⟨#[a, b]⟩ := by
  obtain ⟨⟨l⟩⟩ := s
  match l, h with
  | [], _ => exact .inl rfl
  | [a], _ => exact .inr (.inl ⟨a, rfl⟩)
  | [a, b], _ => exact .inr (.inr ⟨a, b, rfl⟩)
  | a :: b :: c :: l, h => simp [ByteArray.size] at h
/-- The formats as rows of two: a string of at most two bytes, none of them 0, has the format of letter k just where its row is the table's. -/
theorem row_iff (s : ByteArray) (k : Nat) (hk : k ≤ 8) (h : s.size ≤ 2) (h0 : Lib.indexByte s.data.toList 0 < 0) : (fbs.getD (2 * k) 0 = gb s 0 ∧ fbs.getD (2 * k + 1) 0 = gb s 1) ↔ fmtB k = s := by
  rcases two_cases s h with rfl | ⟨a, rfl⟩ | ⟨a, b, rfl⟩
  · have g0 : gb ⟨#[]⟩ 0 = 0 := rfl
    have g1 : gb ⟨#[]⟩ 1 = 0 := rfl
    rw [g0, g1]
    rcases nine hk with rfl | rfl | rfl | rfl | rfl | rfl | rfl | rfl | rfl <;> simp [fbs, fmtB]
  · have g0 : gb ⟨#[a]⟩ 0 = (a.toNat : Int) := rfl
    have g1 : gb ⟨#[a]⟩ 1 = 0 := rfl
    rw [g0, g1]
    have ha : a.toNat ≠ 0 := by
      intro e
      have : a = 0 := UInt8.toNat_inj.1 (by simpa using e)
      subst this; exact absurd h0 (by decide)
    rcases nine hk with rfl | rfl | rfl | rfl | rfl | rfl | rfl | rfl | rfl <;> simp [fbs, fmtB, ← UInt8.toNat_inj] <;> omega
  · have g0 : gb ⟨#[a, b]⟩ 0 = (a.toNat : Int) := rfl
    have g1 : gb ⟨#[a, b]⟩ 1 = (b.toNat : Int) := rfl
    rw [g0, g1]
    have hb : b.toNat ≠ 0 := by
      intro e
      have : b = 0 := UInt8.toNat_inj.1 (by simpa using e)
      subst this
      revert h0
      show Lib.indexByte [a, 0] 0 < 0 → False
      intro h0
      by_cases ha : a = 0
      · subst ha; exact absurd h0 (by decide)
      · simp [Lib.indexByte, ha] at h0
    rcases nine hk with rfl | rfl | rfl | rfl | rfl | rfl | rfl | rfl | rfl <;> simp [fbs, fmtB, ← UInt8.toNat_inj] <;> omega
end Go.Proofs.YtiojgahjfndmdaaDoor
