/- The model's tables, step by step, as plain data. No program in it. -/
import Derived.Test.YtiojgahjfndmdaaDoorEnM
namespace Go.Proofs.YtiojgahjfndmdaaDoor
set_option maxRecDepth 100000
open Go.ChangeShapes Go.WideShapes Go.ChangeAt Go.RowKit
set_option linter.unusedVariables false
set_option linter.unusedSimpArgs false

abbrev Tb := Nat → Nat → Bool
def setT (f : Tb) (i0 j0 : Nat) (x : Bool) : Tb := fun i j => if i = i0 ∧ j = j0 then x else f i j
def gridF (same : Bool) : Tb := fun i j => same && (i == j)
/-- Nothing below the diagonal. -/
def LowT (N : Nat) (f : Tb) : Prop := ∀ i j, i < N → j < N → f i j = true → i ≤ j
theorem low_grid (N : Nat) (b : Bool) : LowT N (gridF b) := by
  intro i j _ _ h
  unfold gridF at h
  simp only [Bool.and_eq_true, beq_iff_eq] at h
  omega
theorem low_join {N : Nat} {a b : Tb} : LowT N (joinG a b) := by
  intro i j _ _ h
  obtain ⟨k, h1, h2, _⟩ := joinG_iff.1 h
  omega
theorem low_pow {N : Nat} {a : Tb} (k : Nat) : LowT N (powG a k) := by
  cases k with
  | zero =>
    intro i j _ _ h
    unfold powG sameG at h
    simp only [beq_iff_eq] at h
    omega
  | succ k => exact low_join
def repK (a : Tb) (lo k : Nat) : Tb := fun i j => (List.range k).any fun s => decide (lo ≤ s) && powG a s i j
theorem repK_succ (a : Tb) (lo k i j : Nat) : repK a lo (k + 1) i j = if lo ≤ k then (repK a lo k i j || powG a k i j) else repK a lo k i j := by
  unfold repK
  rw [List.range_succ, List.any_append]
  by_cases h : lo ≤ k <;> simp [h]
theorem low_rep {N : Nat} {a : Tb} (lo k : Nat) : LowT N (repK a lo k) := by
  intro i j hi hj h
  unfold repK at h
  simp only [List.any_eq_true, Bool.and_eq_true] at h
  obtain ⟨s, _, _, h⟩ := h
  exact low_pow s i j hi hj h
theorem low_gT (w : List Int) (T : Tr) (N : Nat) : LowT N (gT w T) := by
  induction T with
  | nil => intro i j _ _ h; cases h
  | node t l r hl hr =>
    intro i j hi hj h
    unfold gT at h
    by_cases h2 : t.kd = 2
    · rw [if_pos h2] at h; unfold sameG at h; simp only [beq_iff_eq] at h; omega
    rw [if_neg h2] at h
    by_cases h3 : t.kd = 3
    · rw [if_pos h3] at h; simp only [Bool.and_eq_true, beq_iff_eq] at h; omega
    rw [if_neg h3] at h
    by_cases h4 : t.kd = 4
    · rw [if_pos h4] at h; exact low_join (N := N) i j hi hj h
    rw [if_neg h4] at h
    by_cases h5 : t.kd = 5
    · rw [if_pos h5] at h
      simp only [Bool.or_eq_true] at h
      rcases h with h | h
      · exact hl i j hi hj h
      · exact hr i j hi hj h
    rw [if_neg h5] at h
    by_cases h6 : t.kd = 6
    · rw [if_pos h6] at h; exact low_rep (N := N) 0 (w.length + 1) i j hi hj h
    rw [if_neg h6] at h
    by_cases h7 : t.kd = 7
    · rw [if_pos h7] at h; exact low_rep (N := N) _ _ i j hi hj h
    rw [if_neg h7] at h; cases h
/-- Either of two tables, up to a place. -/
def eitF (a b : Tb) (i0 j0 : Nat) : Tb := fun i j => decide (i ≤ j) && (decide (i < i0) || (decide (i = i0) && decide (j < j0))) && (a i j || b i j)
theorem eitF_zero (a b : Tb) (i j : Nat) : eitF a b 0 0 i j = gridF false i j := by unfold eitF gridF; simp
theorem eitF_step (a b : Tb) {i0 j0 : Nat} (h : i0 ≤ j0) (i j : Nat) : setT (eitF a b i0 j0) i0 j0 (a i0 j0 || b i0 j0) i j = eitF a b i0 (j0 + 1) i j := by
  unfold setT eitF
  by_cases e : i = i0 ∧ j = j0
  · obtain ⟨rfl, rfl⟩ := e
    simp [h]
  · rw [if_neg e, Bool.eq_iff_iff]
    simp only [Bool.and_eq_true, Bool.or_eq_true, decide_eq_true_eq]
    constructor
    · rintro ⟨⟨h1, h2⟩, h3⟩; exact ⟨⟨h1, by omega⟩, h3⟩
    · rintro ⟨⟨h1, h2⟩, h3⟩; exact ⟨⟨h1, by omega⟩, h3⟩
theorem eitF_row (a b : Tb) {i0 N : Nat} (i j : Nat) (hj : j < N) : eitF a b i0 N i j = eitF a b (i0 + 1) (i0 + 1) i j := by
  unfold eitF
  rw [Bool.eq_iff_iff]
  simp only [Bool.and_eq_true, Bool.or_eq_true, decide_eq_true_eq]
  constructor
  · rintro ⟨⟨h1, h2⟩, h3⟩; exact ⟨⟨h1, by omega⟩, h3⟩
  · rintro ⟨⟨h1, h2⟩, h3⟩; exact ⟨⟨h1, by omega⟩, h3⟩
theorem eitF_all {a b : Tb} {N : Nat} (ha : LowT N a) (hb : LowT N b) (i j : Nat) (hi : i < N) (hj : j < N) : eitF a b N N i j = (a i j || b i j) := by
  unfold eitF
  rw [Bool.eq_iff_iff]
  simp only [Bool.and_eq_true, Bool.or_eq_true, decide_eq_true_eq]
  constructor
  · rintro ⟨_, h⟩; exact h
  · intro h
    refine ⟨⟨?_, by omega⟩, h⟩
    rcases h with h | h
    · exact ha i j hi hj h
    · exact hb i j hi hj h
/-- Two tables joined, up to a place. -/
def anyK (a b : Tb) (i k0 j : Nat) : Bool := (List.range k0).any fun s => decide (i ≤ s) && decide (s ≤ j) && a i s && b s j
theorem anyK_iff {a b : Tb} {i k0 j : Nat} : anyK a b i k0 j = true ↔ ∃ s, s < k0 ∧ i ≤ s ∧ s ≤ j ∧ a i s = true ∧ b s j = true := by
  unfold anyK
  simp only [List.any_eq_true, List.mem_range, Bool.and_eq_true, decide_eq_true_eq]
  constructor
  · rintro ⟨s, h1, ⟨⟨⟨h2, h3⟩, h4⟩, h5⟩⟩; exact ⟨s, h1, h2, h3, h4, h5⟩
  · rintro ⟨s, h1, h2, h3, h4, h5⟩; exact ⟨s, h1, ⟨⟨⟨h2, h3⟩, h4⟩, h5⟩⟩
def joiF (a b : Tb) (i0 k0 j0 : Nat) : Tb := fun i j => (decide (i < i0) && joinG a b i j) || (decide (i = i0) && (anyK a b i k0 j || (decide (j < j0) && decide (k0 ≤ j) && a i k0 && b k0 j)))
theorem joiF_iff {a b : Tb} {i0 k0 j0 i j : Nat} : joiF a b i0 k0 j0 i j = true ↔ (i < i0 ∧ joinG a b i j = true) ∨ (i = i0 ∧ (anyK a b i k0 j = true ∨ (j < j0 ∧ k0 ≤ j ∧ a i k0 = true ∧ b k0 j = true))) := by
  unfold joiF
  simp only [Bool.or_eq_true, Bool.and_eq_true, decide_eq_true_eq, and_assoc]
theorem joiF_zero (a b : Tb) (i j : Nat) : joiF a b 0 0 0 i j = gridF false i j := by unfold joiF gridF anyK; simp
theorem joiF_step (a b : Tb) {i0 k0 j0 : Nat} (hk : k0 ≤ j0) (ha : a i0 k0 = true) (i j : Nat) : setT (joiF a b i0 k0 j0) i0 j0 (joiF a b i0 k0 j0 i0 j0 || b k0 j0) i j = joiF a b i0 k0 (j0 + 1) i j := by
  unfold setT
  by_cases e : i = i0 ∧ j = j0
  · obtain ⟨rfl, rfl⟩ := e
    rw [if_pos ⟨rfl, rfl⟩, Bool.eq_iff_iff]
    simp only [Bool.or_eq_true, joiF_iff]
    constructor
    · rintro ((⟨h, _⟩ | ⟨_, h | ⟨h, _⟩⟩) | h)
      · omega
      · exact .inr ⟨trivial, .inl h⟩
      · omega
      · exact .inr ⟨trivial, .inr ⟨by omega, hk, ha, h⟩⟩
    · rintro (⟨h, _⟩ | ⟨_, h | ⟨_, _, _, h⟩⟩)
      · omega
      · exact .inl (.inr ⟨trivial, .inl h⟩)
      · exact .inr h
  · rw [if_neg e, Bool.eq_iff_iff]
    simp only [joiF_iff]
    constructor
    · rintro (h | ⟨h1, h | ⟨h2, h3⟩⟩)
      · exact .inl h
      · exact .inr ⟨h1, .inl h⟩
      · exact .inr ⟨h1, .inr ⟨by omega, h3⟩⟩
    · rintro (h | ⟨h1, h | ⟨h2, h3⟩⟩)
      · exact .inl h
      · exact .inr ⟨h1, .inl h⟩
      · exact .inr ⟨h1, .inr ⟨by omega, h3⟩⟩
theorem anyK_succ {a b : Tb} {i k0 j : Nat} (h : i ≤ k0) : anyK a b i (k0 + 1) j = true ↔ anyK a b i k0 j = true ∨ (k0 ≤ j ∧ a i k0 = true ∧ b k0 j = true) := by
  simp only [anyK_iff]
  constructor
  · rintro ⟨s, h1, h2, h3, h4, h5⟩
    by_cases e : s = k0
    · subst e; exact .inr ⟨h3, h4, h5⟩
    · exact .inl ⟨s, by omega, h2, h3, h4, h5⟩
  · rintro (⟨s, h1, h2, h3, h4, h5⟩ | ⟨h3, h4, h5⟩)
    · exact ⟨s, by omega, h2, h3, h4, h5⟩
    · exact ⟨k0, by omega, h, h3, h4, h5⟩
theorem joiF_mid {a b : Tb} {i0 k0 N : Nat} (hi : i0 ≤ k0) (i j : Nat) (hj : j < N) : joiF a b i0 k0 N i j = joiF a b i0 (k0 + 1) (k0 + 1) i j := by
  rw [Bool.eq_iff_iff]
  simp only [joiF_iff]
  constructor
  · rintro (h | ⟨rfl, h | ⟨_, h⟩⟩)
    · exact .inl h
    · exact .inr ⟨rfl, .inl ((anyK_succ hi).2 (.inl h))⟩
    · exact .inr ⟨rfl, .inl ((anyK_succ hi).2 (.inr h))⟩
  · rintro (h | ⟨rfl, h | ⟨h1, h2, _⟩⟩)
    · exact .inl h
    · rcases (anyK_succ hi).1 h with h | h
      · exact .inr ⟨rfl, .inl h⟩
      · exact .inr ⟨rfl, .inr ⟨hj, h⟩⟩
    · omega
theorem joiF_skip {a b : Tb} {i0 k0 : Nat} (hi : i0 ≤ k0) (ha : a i0 k0 = false) (i j : Nat) : joiF a b i0 k0 k0 i j = joiF a b i0 (k0 + 1) (k0 + 1) i j := by
  rw [Bool.eq_iff_iff]
  simp only [joiF_iff]
  constructor
  · rintro (h | ⟨rfl, h | ⟨h1, h2, _⟩⟩)
    · exact .inl h
    · exact .inr ⟨rfl, .inl ((anyK_succ hi).2 (.inl h))⟩
    · omega
  · rintro (h | ⟨rfl, h | ⟨h1, h2, _⟩⟩)
    · exact .inl h
    · rcases (anyK_succ hi).1 h with h | ⟨_, h, _⟩
      · exact .inr ⟨rfl, .inl h⟩
      · rw [ha] at h; cases h
    · omega
theorem joiF_row {a b : Tb} {i0 N : Nat} (i j : Nat) (hi : i < N) (hj : j < N) : joiF a b i0 N N i j = joiF a b (i0 + 1) (i0 + 1) (i0 + 1) i j := by
  rw [Bool.eq_iff_iff]
  simp only [joiF_iff, anyK_iff]
  constructor
  · rintro (⟨h1, h2⟩ | ⟨rfl, ⟨s, h1, h2, h3, h4, h5⟩ | ⟨h1, h2, _⟩⟩)
    · exact .inl ⟨by omega, h2⟩
    · exact .inl ⟨by omega, joinG_iff.2 ⟨s, h2, h3, h4, h5⟩⟩
    · omega
  · rintro (⟨h1, h2⟩ | ⟨rfl, ⟨s, h1, h2, h3, h4, h5⟩ | ⟨h1, h2, _⟩⟩)
    · by_cases e : i = i0
      · subst e
        obtain ⟨s, h3, h4, h5, h6⟩ := joinG_iff.1 h2
        exact .inr ⟨rfl, .inl ⟨s, by omega, h3, h4, h5, h6⟩⟩
      · exact .inl ⟨by omega, h2⟩
    · omega
    · omega
theorem joiF_all {a b : Tb} {N : Nat} (i j : Nat) (hi : i < N) (hj : j < N) (k j0 : Nat) : joiF a b N k j0 i j = joinG a b i j := by
  rw [Bool.eq_iff_iff]
  simp only [joiF_iff]
  constructor
  · rintro (⟨_, h⟩ | ⟨h, _⟩)
    · exact h
    · omega
  · intro h; exact .inl ⟨hi, h⟩
/-- The table of a letter, up to a place. -/
def letF (w : List Int) (c : Int) (k0 : Nat) : Tb := fun i j => decide (i < k0) && (j == i + 1) && (w[i]? == some c)
theorem letF_zero (w : List Int) (c : Int) (i j : Nat) : letF w c 0 i j = gridF false i j := by unfold letF gridF; simp
theorem letF_step {w : List Int} {c : Int} {k : Nat} (hk : k < w.length) (i j : Nat) : setT (letF w c k) k (k + 1) (w[k] == c) i j = letF w c (k + 1) i j := by
  unfold setT letF
  by_cases e : i = k ∧ j = k + 1
  · obtain ⟨rfl, rfl⟩ := e
    simp [List.getElem?_eq_getElem hk]
  · rw [if_neg e, Bool.eq_iff_iff]
    simp only [Bool.and_eq_true, decide_eq_true_eq, beq_iff_eq]
    constructor
    · rintro ⟨⟨h1, h2⟩, h3⟩; exact ⟨⟨by omega, h2⟩, h3⟩
    · rintro ⟨⟨h1, h2⟩, h3⟩; exact ⟨⟨by omega, h2⟩, h3⟩
theorem letF_all (w : List Int) (c : Int) (i j : Nat) : letF w c w.length i j = ((j == i + 1) && (w[i]? == some c)) := by
  unfold letF
  by_cases h : i < w.length
  · simp [h]
  · simp [h, List.getElem?_eq_none (show w.length ≤ i by omega)]
end Go.Proofs.YtiojgahjfndmdaaDoor
