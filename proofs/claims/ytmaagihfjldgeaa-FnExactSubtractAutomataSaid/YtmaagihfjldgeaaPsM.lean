/- Positions as plain data: which are valid, what is read next, which sets accept, how many runs a word has. No program in it. -/
import Derived.Test.YtmaagihfjldgeaaWord
namespace Go.Proofs.Ytmaagihfjldgeaa
set_option maxRecDepth 100000
open Go.ChangeShapes Go.WideShapes Go.ChangeAt Go.RowKit
set_option linter.unusedVariables false
set_option linter.unusedSimpArgs false

/-- Positions as plain data. -/
structure Psn where
  ls : List Int
  fi : Int
  la : Int
  fo : List Int
  nu : Bool
  deriving DecidableEq
instance : Inhabited Psn := ⟨⟨[], 0, 0, [], false⟩⟩
def setB (n : Nat) (x : Int) : Bool := inB x 0 ((2 ^ n : Nat) - 1 : Int)
theorem setB_iff {n : Nat} {x : Int} : setB n x = true ↔ ∃ m : Nat, x = (m : Int) ∧ m < 2 ^ n := by
  unfold setB inB
  rw [decide_eq_true_eq]
  have := Nat.two_pow_pos n
  constructor
  · rintro ⟨h1, h2⟩
    exact ⟨x.toNat, by omega, by omega⟩
  · rintro ⟨m, rfl, h⟩
    omega
def posB (p : Psn) : Bool := decide (p.ls.length ≤ 20 ∧ p.fo.length = p.ls.length) && (setB p.ls.length p.fi && setB p.ls.length p.la) && (p.ls.all letB && p.fo.all (setB p.ls.length))
def foN (p : Psn) (i : Nat) : Nat := (p.fo.getD i 0).toNat
def lsN (ls : List Int) (i : Nat) : Int := ls.getD i 0
theorem posB_parts {p : Psn} (h : posB p = true) : p.ls.length ≤ 20 ∧ p.fo.length = p.ls.length ∧ (∃ m : Nat, p.fi = m ∧ m < 2 ^ p.ls.length) ∧ (∃ m : Nat, p.la = m ∧ m < 2 ^ p.ls.length) ∧ (∀ i, lsN p.ls i = 0 ∨ inB (lsN p.ls i) 0 8 = true) ∧ ∀ i (hi : i < p.ls.length) (hj : i < p.fo.length), p.fo[i] = (foN p i : Int) ∧ foN p i < 2 ^ p.ls.length := by
  unfold posB at h
  simp only [Bool.and_eq_true, decide_eq_true_eq, List.all_eq_true] at h
  obtain ⟨⟨⟨h1, h2⟩, h3, h4⟩, h5, h6⟩ := h
  refine ⟨h1, h2, setB_iff.1 h3, setB_iff.1 h4, fun i => ?_, fun i _ hj => ?_⟩
  · by_cases hi : i < p.ls.length
    · right
      have : lsN p.ls i = p.ls[i] := by unfold lsN; simp [List.getD, hi]
      rw [this]
      exact h5 _ (List.getElem_mem hi)
    · left
      unfold lsN; simp [List.getD, Nat.not_lt.1 hi]
  · obtain ⟨m, h7, h8⟩ := setB_iff.1 (h6 _ (List.getElem_mem hj))
    have : foN p i = m := by unfold foN; simp [List.getD, hj, h7]
    rw [this]; exact ⟨h7, h8⟩
theorem foN_lt {p : Psn} (h : posB p = true) (i : Nat) : foN p i < 2 ^ p.ls.length := by
  obtain ⟨_, h2, _, _, _, h6⟩ := posB_parts h
  by_cases hi : i < p.ls.length
  · exact (h6 i hi (by omega)).2
  · have : foN p i = 0 := by unfold foN; simp [List.getD, show ¬ i < p.fo.length by omega]
    rw [this]; exact Nat.two_pow_pos _
/-- The positions that may be read next, from the set of states. -/
def rchK (p : Psn) (S : Nat) : Nat → Nat
  | 0 => if S.testBit 0 then p.fi.toNat else 0
  | k + 1 => if S.testBit (k + 1) then rchK p S k ||| foN p k else rchK p S k
/-- .. of them those that read the letter, as states. -/
def pckK (ls : List Int) (l : Int) (m : Nat) : Nat → Nat
  | 0 => 0
  | k + 1 => if m.testBit k && lsN ls k == l then pckK ls l m k ||| 2 ^ (k + 1) else pckK ls l m k
def aft (p : Psn) (S : Nat) (l : Int) : Nat := pckK p.ls l (rchK p S p.ls.length) p.ls.length
theorem rchK_lt {p : Psn} (h : posB p = true) (S k : Nat) : rchK p S k < 2 ^ p.ls.length := by
  induction k with
  | zero =>
    obtain ⟨_, _, ⟨m, e, hm⟩, _⟩ := posB_parts h
    unfold rchK; split
    · rw [e]; exact hm
    · exact Nat.two_pow_pos _
  | succ k ih =>
    unfold rchK; split
    · exact Nat.or_lt_two_pow ih (foN_lt h k)
    · exact ih
theorem pckK_bit (ls : List Int) (l : Int) (m k j : Nat) : (pckK ls l m k).testBit j = decide (1 ≤ j ∧ j ≤ k ∧ m.testBit (j - 1) = true ∧ lsN ls (j - 1) = l) := by
  induction k with
  | zero => simp only [pckK, Nat.zero_testBit]; symm; rw [decide_eq_false_iff_not]; omega
  | succ k ih =>
    unfold pckK
    by_cases hc : (m.testBit k && lsN ls k == l) = true
    · rw [if_pos hc, Nat.testBit_or, ih, Nat.testBit_two_pow]
      simp only [Bool.and_eq_true, beq_iff_eq] at hc
      by_cases hj : j = k + 1
      · subst hj; simp [hc]
      · have e1 : decide (k + 1 = j) = false := by simp; omega
        rw [e1, Bool.or_false, Bool.eq_iff_iff, decide_eq_true_eq, decide_eq_true_eq]
        constructor
        · rintro ⟨a, b, c⟩; exact ⟨a, by omega, c⟩
        · rintro ⟨a, b, c⟩; exact ⟨a, by omega, c⟩
    · rw [if_neg hc, ih, Bool.eq_iff_iff, decide_eq_true_eq, decide_eq_true_eq]
      simp only [Bool.and_eq_true, beq_iff_eq] at hc
      constructor
      · rintro ⟨a, b, c⟩; exact ⟨a, by omega, c⟩
      · rintro ⟨a, b, c, d⟩
        refine ⟨a, ?_, c, d⟩
        rcases Nat.lt_or_ge k j with h | h
        · have : j = k + 1 := by omega
          subst this
          exact absurd ⟨c, d⟩ hc
        · exact h
theorem pckK_lt (ls : List Int) (l : Int) (m k n : Nat) (h : k ≤ n) : pckK ls l m k < 2 ^ (n + 1) := by
  refine Nat.lt_pow_two_of_testBit _ fun i hi => ?_
  rw [pckK_bit, decide_eq_false_iff_not]; omega
theorem aft_lt (p : Psn) (S : Nat) (l : Int) : aft p S l < 2 ^ (p.ls.length + 1) := pckK_lt _ _ _ _ _ (Nat.le_refl _)
/-- The program's way: what reads another letter is taken away. -/
def clrK (ls : List Int) (l : Int) (m : Nat) : Nat → Nat
  | 0 => m
  | k + 1 => if lsN ls k == l then clrK ls l m k else clrK ls l m k &&& (2 ^ 64 - 1 - 2 ^ k)
theorem bit_ones (k j n : Nat) (hk : k < n) : (2 ^ n - 1 - 2 ^ k).testBit j = (decide (j < n) && !decide (k = j)) := by
  have e : 2 ^ n - 1 - 2 ^ k = 2 ^ n - (2 ^ k + 1) := by omega
  have hl : 2 ^ k < 2 ^ n := Nat.pow_lt_pow_right (by decide) hk
  rw [e, Nat.testBit_two_pow_sub_succ hl, Nat.testBit_two_pow]
theorem clrK_bit (ls : List Int) (l : Int) (m k j : Nat) (hm : m < 2 ^ 63) (hk : k ≤ 63) : (clrK ls l m k).testBit j = (m.testBit j && (decide (k ≤ j) || lsN ls j == l)) := by
  induction k with
  | zero => simp [clrK]
  | succ k ih =>
    have ih := ih (by omega)
    unfold clrK
    by_cases hc : (lsN ls k == l) = true
    · rw [if_pos hc, ih]
      by_cases hj : j = k
      · subst hj; simp [hc]
      · congr 2; rw [Bool.eq_iff_iff]; simp; omega
    · rw [if_neg hc, Nat.testBit_and, ih, bit_ones k j 64 (by omega)]
      by_cases hj : j = k
      · subst hj; simp [hc]
      · by_cases h63 : j < 64
        · have e1 : decide (k = j) = false := by simp; omega
          have e2 : decide (k ≤ j) = decide (k + 1 ≤ j) := by rw [Bool.eq_iff_iff]; simp; omega
          simp [h63, e1, e2]
        · have : m.testBit j = false := Nat.testBit_lt_two_pow (Nat.lt_of_lt_of_le hm (Nat.pow_le_pow_right (by decide) (by omega)))
          simp [this]
theorem clrK_lt (ls : List Int) (l : Int) (m n k : Nat) (hm : m < 2 ^ n) (hn : n ≤ 62) (hk : k ≤ 63) : clrK ls l m k < 2 ^ n := by
  refine Nat.lt_pow_two_of_testBit _ fun i hi => ?_
  have h63 : m < 2 ^ 63 := Nat.lt_trans hm (Nat.pow_lt_pow_right (by decide) (by omega))
  rw [clrK_bit _ _ _ _ _ h63 hk, Nat.testBit_lt_two_pow (Nat.lt_of_lt_of_le hm (Nat.pow_le_pow_right (by decide) hi))]
  rfl
theorem clr_aft {p : Psn} (h : posB p = true) (S : Nat) (l : Int) : clrK p.ls l (rchK p S p.ls.length) p.ls.length * 2 = aft p S l := by
  obtain ⟨h1, _⟩ := posB_parts h
  have hr := rchK_lt h S p.ls.length
  have h63 : rchK p S p.ls.length < 2 ^ 63 := Nat.lt_trans hr (Nat.pow_lt_pow_right (by decide) (by omega))
  refine Nat.eq_of_testBit_eq fun j => ?_
  unfold aft
  rw [pckK_bit]
  cases j with
  | zero => rw [Nat.testBit_zero]; simp
  | succ j =>
    rw [Nat.testBit_succ, Nat.mul_div_cancel _ (by decide : 0 < 2)]
    simp only [Nat.add_sub_cancel, ge_iff_le, Nat.le_add_left, decide_true, Bool.true_and]
    rw [clrK_bit _ _ _ _ _ h63 (by omega)]
    by_cases hj : j < p.ls.length
    · rw [Bool.eq_iff_iff]
      have : ¬ p.ls.length ≤ j := by omega
      simp [this]; omega
    · have hz : (rchK p S p.ls.length).testBit j = false := Nat.testBit_lt_two_pow (Nat.lt_of_lt_of_le hr (Nat.pow_le_pow_right (by decide) (by omega)))
      rw [hz]; simp
/-- Whether a set of states has an accepting one. -/
def accN (p : Psn) (S : Nat) : Bool := (S.testBit 0 && p.nu) || !((S / 2) &&& p.la.toNat == 0)
def accS (p : Psn) : Nat := p.la.toNat * 2 + (if p.nu then 1 else 0)
theorem and_bit2 (a b : Nat) (c d : Bool) : (2 * a + c.toNat) &&& (2 * b + d.toNat) = 2 * (a &&& b) + (c && d).toNat := by
  refine Nat.eq_of_testBit_eq fun j => ?_
  rw [Nat.testBit_and]
  cases j with
  | zero => simp [Nat.testBit_zero]; cases c <;> cases d <;> simp <;> omega
  | succ j => simp [Nat.testBit_succ]; cases c <;> cases d <;> simp [Nat.mul_add_div] <;> omega
theorem acc_and (p : Psn) (S : Nat) : (!(S &&& accS p == 0)) = accN p S := by
  have hS : S = 2 * (S / 2) + (S.testBit 0).toNat := by
    rw [Nat.testBit_zero]
    rcases Nat.mod_two_eq_zero_or_one S with h | h <;> simp [h] <;> omega
  have hA : accS p = 2 * p.la.toNat + p.nu.toNat := by unfold accS; cases p.nu <;> simp <;> omega
  have key : S &&& accS p = 2 * ((S / 2) &&& p.la.toNat) + (S.testBit 0 && p.nu).toNat := by
    rw [hA]
    conv => lhs; rw [hS]
    exact and_bit2 _ _ _ _
  rw [key]
  unfold accN
  cases (S.testBit 0 && p.nu)
  · generalize (S / 2 &&& p.la.toNat) = z
    cases z <;> simp
  · simp
theorem accS_lt {p : Psn} (h : posB p = true) : accS p < 2 ^ (p.ls.length + 1) := by
  obtain ⟨_, _, _, ⟨m, e, hm⟩, _⟩ := posB_parts h
  unfold accS
  rw [e, Int.toNat_natCast, Nat.pow_succ]
  split <;> omega
/-- The set behind a word. -/
def aftW (p : Psn) (S : Nat) (w : List Int) : Nat := w.foldl (aft p) S
theorem aftW_lt (p : Psn) (S : Nat) (hS : S < 2 ^ (p.ls.length + 1)) (w : List Int) : aftW p S w < 2 ^ (p.ls.length + 1) := by
  unfold aftW
  induction w generalizing S with
  | nil => exact hS
  | cons x w ih => exact ih _ (aft_lt p S x)
theorem aftW_snoc (p : Psn) (S : Nat) (w : List Int) (k : Nat) (hk : k < w.length) : aftW p S (w.take (k + 1)) = aft p (aftW p S (w.take k)) w[k] := by
  unfold aftW
  rw [List.take_succ_eq_append_getElem hk, List.foldl_append]; rfl
def mtP (p : Psn) (w : List Int) : Bool := posB p && isWordB w && accN p (aftW p 1 w)
/-- The number of runs that end in a state, by the states before. -/
def cntK (p : Psn) (c : Nat → Nat) (l : Int) (k : Nat) : Nat → Nat
  | 0 => 0
  | s + 1 => if (aft p (2 ^ s) l).testBit k then min 1000000 (cntK p c l k s + c s) else cntK p c l k s
theorem cntK_le (p : Psn) (c : Nat → Nat) (l : Int) (k s : Nat) : cntK p c l k s ≤ 1000000 := by
  induction s with
  | zero => exact Nat.zero_le _
  | succ s ih => unfold cntK; split <;> omega
def stpC (p : Psn) (c : Nat → Nat) (l : Int) (k : Nat) : Nat := cntK p c l k (p.ls.length + 1)
def c0C (k : Nat) : Nat := if k = 0 then 1 else 0
def cW (p : Psn) (w : List Int) : Nat → Nat := w.foldl (stpC p) c0C
theorem aft_far {p : Psn} (s : Nat) (l : Int) (hs : p.ls.length < s) : aft p (2 ^ s) l = 0 := by
  have h : ∀ k, k ≤ p.ls.length → rchK p (2 ^ s) k = 0 := by
    intro k hk
    induction k with
    | zero => unfold rchK; rw [Nat.testBit_two_pow, if_neg]; simp; omega
    | succ k ih => unfold rchK; rw [Nat.testBit_two_pow, if_neg]; exact ih (by omega); simp; omega
  unfold aft
  rw [h _ (Nat.le_refl _)]
  refine Nat.eq_of_testBit_eq fun j => ?_
  rw [pckK_bit]; simp
theorem cntK_far (p : Psn) (c : Nat → Nat) (l : Int) (k d : Nat) : cntK p c l k (p.ls.length + 1 + d) = stpC p c l k := by
  induction d with
  | zero => rfl
  | succ d ih =>
    rw [← Nat.add_assoc]
    show cntK p c l k (p.ls.length + 1 + d + 1) = _
    unfold cntK
    rw [aft_far _ _ (by omega)]
    simpa using ih
theorem stpC_far (p : Psn) (c : Nat → Nat) (l : Int) (k : Nat) (hk : p.ls.length < k) : stpC p c l k = 0 := by
  unfold stpC
  generalize p.ls.length + 1 = s
  induction s with
  | zero => rfl
  | succ s ih =>
    unfold cntK
    have : (aft p (2 ^ s) l).testBit k = false := Nat.testBit_lt_two_pow (Nat.lt_of_lt_of_le (aft_lt p _ l) (Nat.pow_le_pow_right (by decide) (by omega)))
    rw [this]; simpa using ih
theorem cW_snoc (p : Psn) (w : List Int) (k : Nat) (hk : k < w.length) : cW p (w.take (k + 1)) = stpC p (cW p (w.take k)) w[k] := by
  unfold cW
  rw [List.take_succ_eq_append_getElem hk, List.foldl_append]; rfl
theorem stpC_le (p : Psn) (c : Nat → Nat) (l : Int) (k : Nat) : stpC p c l k ≤ 1000000 := cntK_le ..
theorem cW_le (p : Psn) (w : List Int) (k : Nat) : cW p w k ≤ 1000000 := by
  unfold cW
  suffices h : ∀ c : Nat → Nat, (∀ k, c k ≤ 1000000) → ∀ k, (w.foldl (stpC p) c) k ≤ 1000000 by
    refine h _ (fun k => ?_) k
    unfold c0C; split <;> omega
  induction w with
  | nil => intro c hc k; exact hc k
  | cons x w ih => intro c hc k; exact ih _ (stpC_le p c x) k
theorem cW_far (p : Psn) (w : List Int) (k : Nat) (hk : p.ls.length < k) : cW p w k = 0 := by
  unfold cW
  suffices h : ∀ c : Nat → Nat, c k = 0 → (w.foldl (stpC p) c) k = 0 by
    refine h _ ?_
    unfold c0C; rw [if_neg (by omega)]
  induction w with
  | nil => intro c hc; exact hc
  | cons x w ih => intro c hc; exact ih _ (stpC_far p c x k hk)
/-- The model passes states over in which no run ends. -/
theorem cntK_pos (p : Psn) (c : Nat → Nat) (l : Int) (k s : Nat) (h : ¬ 0 < c s) : cntK p c l k (s + 1) = cntK p c l k s := by
  have := cntK_le p c l k s
  rw [cntK]; split
  · omega
  · rfl
def sumK (p : Psn) (c : Nat → Nat) : Nat → Nat
  | 0 => 0
  | s + 1 => if accN p (2 ^ s) then min 1000000 (sumK p c s + c s) else sumK p c s
theorem sumK_le (p : Psn) (c : Nat → Nat) (s : Nat) : sumK p c s ≤ 1000000 := by
  induction s with
  | zero => exact Nat.zero_le _
  | succ s ih => unfold sumK; split <;> omega
theorem sumK_far {p : Psn} (c : Nat → Nat) (hc : ∀ k, p.ls.length < k → c k = 0) (d : Nat) : sumK p c (p.ls.length + 1 + d) = sumK p c (p.ls.length + 1) := by
  induction d with
  | zero => rfl
  | succ d ih =>
    rw [← Nat.add_assoc]
    have := sumK_le p c (p.ls.length + 1 + d)
    rw [sumK, hc (p.ls.length + 1 + d) (by omega)]
    split
    · rw [Nat.add_zero, Nat.min_eq_right this, ih]
    · exact ih
def crN (p : Psn) (w : List Int) : Nat := if posB p && isWordB w then sumK p (cW p w) (p.ls.length + 1) else 0
end Go.Proofs.Ytmaagihfjldgeaa
