/- Comparing words: shorter lists first, then element by element. -/
import Derived.Test.YtilkheclimammaaInts
namespace Go.Proofs.Ytilkheclimammaa
set_option maxRecDepth 100000
open Go.ChangeShapes Go.WideShapes Go.ChangeAt Go.RowKit
set_option linter.unusedVariables false

def cmpI (a b : Int) : Int := if a < b then -1 else if b < a then 1 else 0
/-- Element by element; a list that ends first is less. -/
def lexC : List Int → List Int → Int
  | [], [] => 0
  | [], _ :: _ => -1
  | _ :: _, [] => 1
  | x :: xs, y :: ys => if x < y then -1 else if y < x then 1 else lexC xs ys
def cmpW (xs ys : List Int) : Int := if xs.length < ys.length then -1 else if ys.length < xs.length then 1 else lexC xs ys
theorem lexC_split (xs ys : List Int) (k : Nat) (h : xs.take k = ys.take k) (hx : k ≤ xs.length) (hy : k ≤ ys.length) : lexC xs ys = lexC (xs.drop k) (ys.drop k) := by
  induction k generalizing xs ys with
  | zero => rfl
  | succ k ih =>
    cases xs with
    | nil => simp at hx
    | cons x xs =>
      cases ys with
      | nil => simp at hy
      | cons y ys =>
        simp only [List.take_succ_cons, List.cons.injEq] at h
        obtain ⟨rfl, h⟩ := h
        simp only [List.length_cons] at hx hy
        rw [List.drop_succ_cons, List.drop_succ_cons, ← ih xs ys h (by omega) (by omega)]
        simp [lexC]
theorem lexC_lt (xs ys : List Int) (k : Nat) (h : xs.take k = ys.take k) (hx : k < xs.length) (hy : k < ys.length) (hlt : xs[k] < ys[k]) : lexC xs ys = -1 := by
  rw [lexC_split xs ys k h (by omega) (by omega), List.drop_eq_getElem_cons hx, List.drop_eq_getElem_cons hy]
  simp [lexC, hlt]
theorem lexC_gt (xs ys : List Int) (k : Nat) (h : xs.take k = ys.take k) (hx : k < xs.length) (hy : k < ys.length) (hlt : ys[k] < xs[k]) : lexC xs ys = 1 := by
  rw [lexC_split xs ys k h (by omega) (by omega), List.drop_eq_getElem_cons hx, List.drop_eq_getElem_cons hy]
  simp [lexC, hlt]; omega
theorem lexC_end_x (xs ys : List Int) (h : xs.take xs.length = ys.take xs.length) (hy : xs.length < ys.length) : lexC xs ys = -1 := by
  rw [lexC_split xs ys xs.length h (by omega) (by omega), List.drop_of_length_le (Nat.le_refl _), List.drop_eq_getElem_cons hy]
  simp [lexC]
theorem lexC_end_y (xs ys : List Int) (h : xs.take ys.length = ys.take ys.length) (hy : ys.length < xs.length) : lexC xs ys = 1 := by
  rw [lexC_split xs ys ys.length h (by omega) (by omega), List.drop_of_length_le (Nat.le_refl ys.length), List.drop_eq_getElem_cons hy]
  simp [lexC]
theorem lexC_same (xs ys : List Int) (k : Nat) (hx : xs.length = k) (hy : ys.length = k) (h : xs.take k = ys.take k) : lexC xs ys = 0 := by
  rw [lexC_split xs ys k h (by omega) (by omega), List.drop_of_length_le (by omega), List.drop_of_length_le (by omega)]
  rfl
theorem lexC_self (xs : List Int) : lexC xs xs = 0 := lexC_same xs xs xs.length rfl rfl rfl

/-- Two slices opened side by side: lengths, and the cells wherever there are some. -/
theorem IntsAt.open {w : World} {v : Value} {xs : List Int} (h : IntsAt w v xs) :
    (∃ ao cap, v = .slice ao 0 cap ∧ xs = []) ∨ ∃ b off cap, v = .slice (some ⟨b, off, none⟩) xs.length cap ∧ b < w.heap.size ∧ Hid (∀ i (h : i < xs.length), w.cell? ⟨b, off + i, none⟩ = some (.int .i64 xs[i])) := by
  obtain ⟨_, ⟨rfl, ao, cap, rfl⟩ | ⟨b, off, cap, rfl, hb, hc⟩⟩ := h
  · exact .inl ⟨ao, cap, rfl, rfl⟩
  · exact .inr ⟨b, off, cap, rfl, hb, hc⟩

theorem isNaN_int (a : Int) (w : World) : Calls Try.prog 113 #[.int .i64 a] w fun e w' => e = .returned (.bool false) ∧ w = w' := by
  have h : (a != a) = false := by simp
  go_enter Try.func113, Try.ntmps113
  go_wp2
  go_ret
  exact ⟨ret_bool rfl, rfl⟩
theorem cmpCompare_int (a b : Int) (w : World) : Calls Try.prog 88 #[.int .i64 a, .int .i64 b] w fun e w' => e = .returned (.int .i64 (cmpI a b)) ∧ w = w' := by
  have hcases : (a < b ∧ cmpI a b = -1) ∨ (¬ a < b ∧ b < a ∧ cmpI a b = 1) ∨ (¬ a < b ∧ ¬ b < a ∧ cmpI a b = 0) := by
    unfold cmpI
    by_cases h1 : a < b
    · exact .inl ⟨h1, by rw [if_pos h1]⟩
    · by_cases h2 : b < a
      · exact .inr (.inl ⟨h1, h2, by rw [if_neg h1, if_pos h2]⟩)
      · exact .inr (.inr ⟨h1, h2, by rw [if_neg h1, if_neg h2]⟩)
  rcases hcases with ⟨h1, h⟩ | ⟨h1, h2, h⟩ | ⟨h1, h2, h⟩
  all_goals
    have H := Lib.hid h
    clear h
    go_enter Try.func88, Try.ntmps88
    go_wp2_with (go_at_call 113; refine (isNaN_int _ _).mono ?_; rintro e w' ⟨rfl, rfl⟩)
    go_ret
    exact ⟨ret_int H.out.symm, rfl⟩
theorem cmpI_cases (a b : Int) : (a < b ∧ cmpI a b = -1) ∨ (b < a ∧ cmpI a b = 1) ∨ (a = b ∧ cmpI a b = 0) := by
  unfold cmpI
  by_cases h1 : a < b
  · exact .inl ⟨h1, by rw [if_pos h1]⟩
  · by_cases h2 : b < a
    · exact .inr (.inl ⟨h2, by rw [if_neg h1, if_pos h2]⟩)
    · exact .inr (.inr ⟨by omega, by rw [if_neg h1, if_neg h2]⟩)

theorem IntsAt.len {w : World} {v : Value} {xs : List Int} (h : IntsAt w v xs) : ∃ ao c, v = .slice ao xs.length c := by
  rcases h.open with ⟨ao2, c2, rfl, rfl⟩ | ⟨b2, off2, c2, rfl, hb2, HC⟩
  · exact ⟨_, _, rfl⟩
  · exact ⟨_, _, rfl⟩
end Go.Proofs.Ytilkheclimammaa
