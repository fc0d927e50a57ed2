/- Matching by sets of places, as the program does it: sets as numbers, bit by bit; they say what the tables say. No program in it. -/
import Derived.Test.YtiojgahjfndmdaaDoorMtM
namespace Go.Proofs.YtiojgahjfndmdaaDoor
set_option maxRecDepth 100000
open Go.ChangeShapes Go.WideShapes Go.ChangeAt Go.RowKit
set_option linter.unusedVariables false
set_option linter.unusedSimpArgs false

/-- The places behind all words that begin in a place of the set, the first k places alone. -/
def allE (f : Nat → Nat) (S : Nat) : Nat → Nat
  | 0 => 0
  | k + 1 => if S.testBit k = true then allE f S k ||| f k else allE f S k
/-- The places behind k words. -/
def rchE (f : Nat → Nat) (n i : Nat) : Nat → Nat
  | 0 => 2 ^ i
  | k + 1 => allE f (rchE f n i k) (n + 1)
/-- The places behind lo to k - 1 words. -/
def setE (f : Nat → Nat) (n lo i : Nat) : Nat → Nat
  | 0 => 0
  | k + 1 => if lo ≤ k then setE f n lo i k ||| rchE f n i k else setE f n lo i k
/-- The places at which the words of a tree end that begin at a place of the word. -/
def endT (w : List Int) : Tr → Nat → Nat
  | .nil, _ => 0
  | .node t l r, i => if t.kd = 2 then 2 ^ i else if t.kd = 3 then (if w[i]? = some t.lr then 2 ^ (i + 1) else 0) else if t.kd = 4 then allE (endT w r) (endT w l i) (w.length + 1) else if t.kd = 5 then endT w l i ||| endT w r i
    else if t.kd = 6 then setE (endT w l) w.length 0 i (w.length + 1) else if t.kd = 7 then setE (endT w l) w.length t.lo.toNat i (t.hi.toNat + 1) else 0
theorem allE_succ (f : Nat → Nat) (S k : Nat) : allE f S (k + 1) = if S.testBit k = true then allE f S k ||| f k else allE f S k := rfl
theorem setE_succ (f : Nat → Nat) (n lo i k : Nat) : setE f n lo i (k + 1) = if lo ≤ k then setE f n lo i k ||| rchE f n i k else setE f n lo i k := rfl
theorem allE_bits (f : Nat → Nat) (S k j : Nat) : (allE f S k).testBit j = (List.range k).any fun s => S.testBit s && (f s).testBit j := by
  induction k with
  | zero => simp [allE]
  | succ k ih =>
    rw [List.range_succ, List.any_append, ← ih, allE_succ]
    split
    · rename_i h; simp [h, Nat.testBit_or]
    · rename_i h; simp [h]
theorem allE_congr {f g : Nat → Nat} (S k : Nat) (h : ∀ s, s < k → f s = g s) : allE f S k = allE g S k := by
  induction k with
  | zero => rfl
  | succ k ih =>
    rw [allE_succ, allE_succ, ih (fun s hs => h s (by omega)), h k (by omega)]
theorem allE_join {f : Nat → Nat} {a b : Nat → Nat → Bool} {n i S : Nat} (hf : ∀ s, s ≤ n → ∀ j, (f s).testBit j = (decide (s ≤ j ∧ j ≤ n) && a s j)) (hS : ∀ s, S.testBit s = (decide (i ≤ s ∧ s ≤ n) && b i s)) (j : Nat) :
    (allE f S (n + 1)).testBit j = (decide (i ≤ j ∧ j ≤ n) && joinG b a i j) := by
  rw [allE_bits, Bool.eq_iff_iff]
  simp only [List.any_eq_true, List.mem_range, Bool.and_eq_true, decide_eq_true_eq, joinG_iff]
  constructor
  · rintro ⟨s, hs, h1, h2⟩
    rw [hS] at h1
    rw [hf s (by omega)] at h2
    simp only [Bool.and_eq_true, decide_eq_true_eq] at h1 h2
    exact ⟨by omega, s, h1.1.1, h2.1.1, h1.2, h2.2⟩
  · rintro ⟨hj, s, h1, h2, h3, h4⟩
    refine ⟨s, by omega, ?_, ?_⟩
    · rw [hS]; simp only [Bool.and_eq_true, decide_eq_true_eq]; exact ⟨by omega, h3⟩
    · rw [hf s (by omega)]; simp only [Bool.and_eq_true, decide_eq_true_eq]; exact ⟨by omega, h4⟩
theorem rchE_bits {f : Nat → Nat} {a : Nat → Nat → Bool} {n i : Nat} (hi : i ≤ n) (hf : ∀ s, s ≤ n → ∀ j, (f s).testBit j = (decide (s ≤ j ∧ j ≤ n) && a s j)) (k j : Nat) :
    (rchE f n i k).testBit j = (decide (i ≤ j ∧ j ≤ n) && powG a k i j) := by
  induction k generalizing j with
  | zero =>
    unfold rchE powG sameG
    rw [Nat.testBit_two_pow, Bool.eq_iff_iff]
    simp only [decide_eq_true_eq, Bool.and_eq_true, beq_iff_eq]
    omega
  | succ k ih => exact allE_join hf ih j
theorem setE_bits {f : Nat → Nat} {a : Nat → Nat → Bool} {n i lo : Nat} (hi : i ≤ n) (hf : ∀ s, s ≤ n → ∀ j, (f s).testBit j = (decide (s ≤ j ∧ j ≤ n) && a s j)) (k j : Nat) :
    (setE f n lo i k).testBit j = (decide (i ≤ j ∧ j ≤ n) && (List.range k).any fun k => decide (lo ≤ k) && powG a k i j) := by
  induction k with
  | zero => simp [setE]
  | succ k ih =>
    rw [List.range_succ, List.any_append, setE_succ]
    split
    · rename_i h
      rw [Nat.testBit_or, ih, rchE_bits hi hf]
      simp [h, Bool.and_or_distrib_left]
    · rename_i h
      rw [ih]; simp [h]
theorem endT_bits (w : List Int) {T : Tr} (h : T.ok) : ∀ i, i ≤ w.length → ∀ j, (endT w T i).testBit j = (decide (i ≤ j ∧ j ≤ w.length) && gT w T i j) := by
  induction T with
  | nil => exact h.elim
  | node t l r hl hr =>
    intro i hi j
    obtain ⟨ht, hc⟩ := h
    have hk := okT_kd ht
    unfold endT gT
    by_cases h2 : t.kd = 2
    · rw [if_pos h2, if_pos h2, Nat.testBit_two_pow, Bool.eq_iff_iff]
      unfold sameG
      simp only [decide_eq_true_eq, Bool.and_eq_true, beq_iff_eq]
      omega
    rw [if_neg h2, if_neg h2]
    by_cases h3 : t.kd = 3
    · rw [if_pos h3, if_pos h3]
      by_cases hw : w[i]? = some t.lr
      · have hlt : i < w.length := by
          rcases Nat.lt_or_ge i w.length with h | h
          · exact h
          · rw [List.getElem?_eq_none h] at hw; cases hw
        rw [if_pos hw, Nat.testBit_two_pow, Bool.eq_iff_iff]
        simp only [decide_eq_true_eq, Bool.and_eq_true, beq_iff_eq]
        constructor
        · intro e; exact ⟨by omega, by omega, hw⟩
        · rintro ⟨_, e, _⟩; omega
      · rw [if_neg hw]
        simp [hw]
    rw [if_neg h3, if_neg h3]
    by_cases h4 : t.kd = 4
    · rw [if_pos h4, if_pos h4]
      have e : opN t = 2 := by unfold opN; rw [if_pos (.inl h4)]
      rcases hc with ⟨h0, _⟩ | ⟨h1, _⟩ | ⟨_, hlo, hro⟩
      · omega
      · omega
      exact allE_join (hr hro) (hl hlo i hi) j
    rw [if_neg h4, if_neg h4]
    by_cases h5 : t.kd = 5
    · rw [if_pos h5, if_pos h5]
      have e : opN t = 2 := by unfold opN; rw [if_pos (.inr h5)]
      rcases hc with ⟨h0, _⟩ | ⟨h1, _⟩ | ⟨_, hlo, hro⟩
      · omega
      · omega
      rw [Nat.testBit_or, hl hlo i hi, hr hro i hi, Bool.and_or_distrib_left]
    rw [if_neg h5, if_neg h5]
    by_cases h6 : t.kd = 6
    · rw [if_pos h6, if_pos h6]
      have e : opN t = 1 := by unfold opN; rw [if_neg (by omega), if_pos (.inl h6)]
      rcases hc with ⟨h0, _⟩ | ⟨_, hlo, _⟩ | ⟨h2, _⟩
      · omega
      · exact setE_bits hi (hl hlo) (w.length + 1) j
      · omega
    rw [if_neg h6, if_neg h6]
    by_cases h7 : t.kd = 7
    · rw [if_pos h7, if_pos h7]
      have e : opN t = 1 := by unfold opN; rw [if_neg (by omega), if_pos (.inr h7)]
      rcases hc with ⟨h0, _⟩ | ⟨_, hlo, _⟩ | ⟨h2, _⟩
      · omega
      · exact setE_bits hi (hl hlo) (t.hi.toNat + 1) j
      · omega
    rw [if_neg h7, if_neg h7]
    simp
theorem lt_of_bits {x n : Nat} {a : Nat → Bool} {i : Nat} (h : ∀ j, x.testBit j = (decide (i ≤ j ∧ j ≤ n) && a j)) : x < 2 ^ (n + 1) := by
  refine Nat.lt_pow_two_of_testBit _ fun j hj => ?_
  rw [h]
  have : ¬ (i ≤ j ∧ j ≤ n) := by omega
  simp [this]
theorem endT_lt (w : List Int) {T : Tr} (h : T.ok) {i : Nat} (hi : i ≤ w.length) : endT w T i < 2 ^ (w.length + 1) := lt_of_bits (endT_bits w h i hi)
theorem allE_lt {f : Nat → Nat} {S N k : Nat} (h : ∀ s, s < k → f s < 2 ^ N) : allE f S k < 2 ^ N := by
  induction k with
  | zero => exact Nat.two_pow_pos _
  | succ k ih =>
    rw [allE_succ]
    split
    · exact Nat.or_lt_two_pow (ih fun s hs => h s (by omega)) (h k (by omega))
    · exact ih fun s hs => h s (by omega)
theorem rchE_lt {f : Nat → Nat} {n i : Nat} (hi : i ≤ n) (h : ∀ s, s ≤ n → f s < 2 ^ (n + 1)) (k : Nat) : rchE f n i k < 2 ^ (n + 1) := by
  cases k with
  | zero => exact Nat.pow_lt_pow_right (by decide) (by omega)
  | succ k => exact allE_lt fun s hs => h s (by omega)
theorem setE_lt {f : Nat → Nat} {n i lo : Nat} (hi : i ≤ n) (h : ∀ s, s ≤ n → f s < 2 ^ (n + 1)) (k : Nat) : setE f n lo i k < 2 ^ (n + 1) := by
  induction k with
  | zero => exact Nat.two_pow_pos _
  | succ k ih =>
    rw [setE_succ]
    split
    · exact Nat.or_lt_two_pow ih (rchE_lt hi h k)
    · exact ih
/-- What MatchesWord answers about a tree. -/
theorem endT_all (w : List Int) {T : Tr} (h : T.ok) : (endT w T 0).testBit w.length = gT w T 0 w.length := by
  rw [endT_bits w h 0 (Nat.zero_le _)]; simp
end Go.Proofs.YtiojgahjfndmdaaDoor
