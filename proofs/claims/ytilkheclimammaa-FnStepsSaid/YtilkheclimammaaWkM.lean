/- Comparing walks, as plain data. -/
import Derived.Test.YtilkheclimammaaWlk
import Derived.Test.YtilkheclimammaaK0
namespace Go.Proofs.Ytilkheclimammaa
set_option maxRecDepth 100000
open Go.ChangeShapes Go.WideShapes Go.ChangeAt Go.RowKit
set_option linter.unusedVariables false

def cmpSt (a b : Stp) : Int := if a.id < b.id then -1 else if b.id < a.id then 1 else if a.inv = b.inv then 0 else if b.inv = true then -1 else 1
theorem cmpSt_cases (a b : Stp) : (a.id < b.id ∧ cmpSt a b = -1) ∨ (b.id < a.id ∧ cmpSt a b = 1) ∨ (a.id = b.id ∧ a.inv = b.inv ∧ cmpSt a b = 0) ∨ (a.id = b.id ∧ a.inv = false ∧ b.inv = true ∧ cmpSt a b = -1) ∨ (a.id = b.id ∧ a.inv = true ∧ b.inv = false ∧ cmpSt a b = 1) := by
  unfold cmpSt
  by_cases h1 : a.id < b.id
  · exact .inl ⟨h1, by rw [if_pos h1]⟩
  · by_cases h2 : b.id < a.id
    · exact .inr (.inl ⟨h2, by rw [if_neg h1, if_pos h2]⟩)
    · rw [if_neg h1, if_neg h2]
      have he : a.id = b.id := by omega
      refine .inr (.inr ?_)
      cases ha : a.inv <;> cases hb : b.inv <;> simp [he]
theorem cmpSt_zero {a b : Stp} : cmpSt a b = 0 ↔ a = b := by
  rw [Stp.eq_iff]
  rcases cmpSt_cases a b with ⟨h, e⟩ | ⟨h, e⟩ | ⟨h, h2, e⟩ | ⟨h, h2, h3, e⟩ | ⟨h, h2, h3, e⟩ <;> rw [e]
  · exact ⟨fun x => by omega, fun x => by omega⟩
  · exact ⟨fun x => by omega, fun x => by omega⟩
  · exact ⟨fun _ => ⟨h, h2⟩, fun _ => rfl⟩
  · exact ⟨fun x => by omega, fun x => by have := x.2; rw [h2, h3] at this; cases this⟩
  · exact ⟨fun x => by omega, fun x => by have := x.2; rw [h2, h3] at this; cases this⟩
theorem cmpSt_flip (a b : Stp) : cmpSt b a = - cmpSt a b := by
  rcases cmpSt_cases a b with ⟨h, e⟩ | ⟨h, e⟩ | ⟨h, h2, e⟩ | ⟨h, h2, h3, e⟩ | ⟨h, h2, h3, e⟩ <;> rcases cmpSt_cases b a with ⟨k, f⟩ | ⟨k, f⟩ | ⟨k, k2, f⟩ | ⟨k, k2, k3, f⟩ | ⟨k, k2, k3, f⟩ <;> rw [e, f] <;> first | rfl | omega | (simp_all)
theorem cmpSt_range (a b : Stp) : cmpSt a b = -1 ∨ cmpSt a b = 0 ∨ cmpSt a b = 1 := by
  rcases cmpSt_cases a b with ⟨h, e⟩ | ⟨h, e⟩ | ⟨h, h2, e⟩ | ⟨h, h2, h3, e⟩ | ⟨h, h2, h3, e⟩ <;> rw [e] <;> simp
/-- Step by step, up to the first that differs. -/
def lexS : List Stp → List Stp → Int
  | x :: xs, y :: ys => if cmpSt x y = 0 then lexS xs ys else cmpSt x y
  | _, _ => 0
theorem lexS_cons (x y : Stp) (xs ys : List Stp) : lexS (x :: xs) (y :: ys) = if cmpSt x y = 0 then lexS xs ys else cmpSt x y := rfl
theorem lexS_split (xs ys : List Stp) (k : Nat) (h : xs.take k = ys.take k) : lexS xs ys = lexS (xs.drop k) (ys.drop k) := by
  induction k generalizing xs ys with
  | zero => rfl
  | succ k ih =>
    cases xs with
    | nil => cases ys with
      | nil => rfl
      | cons y ys => simp at h
    | cons x xs =>
      cases ys with
      | nil => simp at h
      | cons y ys =>
        simp only [List.take_succ_cons, List.cons.injEq] at h
        obtain ⟨rfl, h⟩ := h
        rw [List.drop_succ_cons, List.drop_succ_cons, ← ih xs ys h]
        rw [lexS_cons, if_pos (cmpSt_zero.2 rfl)]
theorem lexS_at (xs ys : List Stp) (k : Nat) (h : xs.take k = ys.take k) (hx : k < xs.length) (hy : k < ys.length) (hn : cmpSt xs[k] ys[k] ≠ 0) : lexS xs ys = cmpSt xs[k] ys[k] := by
  rw [lexS_split xs ys k h, List.drop_eq_getElem_cons hx, List.drop_eq_getElem_cons hy]
  rw [lexS_cons, if_neg hn]
theorem lexS_same (xs : List Stp) : lexS xs xs = 0 := by
  rw [lexS_split xs xs xs.length rfl, List.drop_of_length_le (Nat.le_refl _)]; rfl
theorem lexS_end (xs ys : List Stp) (k : Nat) (h : xs.take k = ys.take k) (hx : xs.length = k) (hy : ys.length = k) : lexS xs ys = 0 := by
  rw [List.take_of_length_le (by omega), List.take_of_length_le (by omega)] at h
  subst h; exact lexS_same xs
theorem lexS_zero {xs ys : List Stp} (hl : xs.length = ys.length) : lexS xs ys = 0 ↔ xs = ys := by
  induction xs generalizing ys with
  | nil => cases ys with
    | nil => simp [lexS]
    | cons y ys => simp at hl
  | cons x xs ih =>
    cases ys with
    | nil => simp at hl
    | cons y ys =>
      rw [lexS_cons]
      by_cases h : cmpSt x y = 0
      · rw [if_pos h, ih (by simpa using hl), cmpSt_zero.1 h]; simp
      · rw [if_neg h]
        refine ⟨fun e => absurd e h, fun e => ?_⟩
        injection e with e1 e2
        exact cmpSt_zero.2 e1
theorem lexS_flip (xs ys : List Stp) : lexS ys xs = - lexS xs ys := by
  induction xs generalizing ys with
  | nil => cases ys <;> simp [lexS]
  | cons x xs ih =>
    cases ys with
    | nil => simp [lexS]
    | cons y ys =>
      rw [lexS_cons, lexS_cons, cmpSt_flip x y]
      by_cases h : cmpSt x y = 0
      · rw [if_pos h, if_pos (by omega), ih]
      · rw [if_neg h, if_neg (by omega)]
theorem lexS_range (xs ys : List Stp) : lexS xs ys = -1 ∨ lexS xs ys = 0 ∨ lexS xs ys = 1 := by
  induction xs generalizing ys with
  | nil => cases ys <;> simp [lexS]
  | cons x xs ih =>
    cases ys with
    | nil => simp [lexS]
    | cons y ys =>
      rw [lexS_cons]
      split
      · exact ih ys
      · exact cmpSt_range x y
def cmpWk (a b : Wlk) : Int := if a.ss.length < b.ss.length then -1 else if b.ss.length < a.ss.length then 1 else if a.st < b.st then -1 else if b.st < a.st then 1 else lexS a.ss b.ss
theorem cmpWk_cases (a b : Wlk) : (a.ss.length < b.ss.length ∧ cmpWk a b = -1) ∨ (b.ss.length < a.ss.length ∧ cmpWk a b = 1) ∨ (a.ss.length = b.ss.length ∧ a.st < b.st ∧ cmpWk a b = -1) ∨ (a.ss.length = b.ss.length ∧ b.st < a.st ∧ cmpWk a b = 1) ∨ (a.ss.length = b.ss.length ∧ a.st = b.st ∧ cmpWk a b = lexS a.ss b.ss) := by
  unfold cmpWk
  by_cases h1 : a.ss.length < b.ss.length
  · exact .inl ⟨h1, by rw [if_pos h1]⟩
  by_cases h2 : b.ss.length < a.ss.length
  · exact .inr (.inl ⟨h2, by rw [if_neg h1, if_pos h2]⟩)
  by_cases h3 : a.st < b.st
  · exact .inr (.inr (.inl ⟨by omega, h3, by rw [if_neg h1, if_neg h2, if_pos h3]⟩))
  by_cases h4 : b.st < a.st
  · exact .inr (.inr (.inr (.inl ⟨by omega, h4, by rw [if_neg h1, if_neg h2, if_neg h3, if_pos h4]⟩)))
  · exact .inr (.inr (.inr (.inr ⟨by omega, by omega, by rw [if_neg h1, if_neg h2, if_neg h3, if_neg h4]⟩)))
theorem cmpWk_flip (a b : Wlk) : cmpWk b a = - cmpWk a b := by
  rcases cmpWk_cases a b with ⟨h, e⟩ | ⟨h, e⟩ | ⟨h, h2, e⟩ | ⟨h, h2, e⟩ | ⟨h, h2, e⟩ <;> rcases cmpWk_cases b a with ⟨k, f⟩ | ⟨k, f⟩ | ⟨k, k2, f⟩ | ⟨k, k2, f⟩ | ⟨k, k2, f⟩ <;> rw [e, f] <;> first | rfl | omega | exact lexS_flip _ _
theorem cmpWk_zero {a b : Wlk} : cmpWk a b = 0 ↔ a = b := by
  rw [Wlk.eq_iff]
  rcases cmpWk_cases a b with ⟨h, e⟩ | ⟨h, e⟩ | ⟨h, h2, e⟩ | ⟨h, h2, e⟩ | ⟨h, h2, e⟩ <;> rw [e]
  · exact ⟨fun x => by omega, fun x => by rw [x.2] at h; omega⟩
  · exact ⟨fun x => by omega, fun x => by rw [x.2] at h; omega⟩
  · exact ⟨fun x => by omega, fun x => by omega⟩
  · exact ⟨fun x => by omega, fun x => by omega⟩
  · rw [lexS_zero h]
    exact ⟨fun x => ⟨h2, x⟩, fun x => x.2⟩
theorem cmpWk_self (a : Wlk) : cmpWk a a = 0 := cmpWk_zero.2 rfl
end Go.Proofs.Ytilkheclimammaa
