/- The letters of an expression, ascending, as plain data: by bits of a number, as the model does it, and by marks, as the program does it. -/
import Derived.Test.YtiojgahjfndmdaaDoorDvM
namespace Go.Proofs.YtiojgahjfndmdaaDoor
set_option maxRecDepth 100000
open Go.ChangeShapes Go.WideShapes Go.ChangeAt Go.RowKit
set_option linter.unusedVariables false
set_option linter.unusedSimpArgs false

/-- The letters in the order in which they stand. -/
def ltrs (xs : List Tok) : List Int := (xs.filter fun t => t.kd == 3).map Tok.lr
/-- Which of 0, .., k - 1 are among them. -/
def alT (zs : List Int) (k : Nat) : List Int := ((List.range k).filter fun (i : Nat) => decide ((i : Int) ∈ zs)).map fun (i : Nat) => (i : Int)
def alX (xs : List Tok) : List Int := if isXB xs = true then alT (ltrs xs) 9 else []
theorem alT_succ (zs : List Int) (k : Nat) : alT zs (k + 1) = alT zs k ++ (if (k : Int) ∈ zs then [(k : Int)] else []) := by
  unfold alT
  rw [List.range_succ, List.filter_append, List.map_append]
  congr 1
  by_cases h : (k : Int) ∈ zs <;> simp [h]
theorem alT_len (zs : List Int) (k : Nat) : (alT zs k).length ≤ k := by
  unfold alT; rw [List.length_map]
  exact Nat.le_trans (List.length_filter_le _ _) (by simp)
theorem alT_stop {zs : List Int} {n : Nat} (h : ∀ z ∈ zs, z < (n : Int)) : ∀ k, n ≤ k → alT zs k = alT zs n := by
  intro k hk
  induction k with
  | zero => obtain rfl : n = 0 := by omega
            rfl
  | succ k ih =>
    by_cases e : n = k + 1
    · subst e; rfl
    · rw [alT_succ, ih (by omega), if_neg (fun hm => by have := h _ hm; omega), List.append_nil]
theorem alT_mem {zs : List Int} {k : Nat} {x : Int} : x ∈ alT zs k ↔ x ∈ zs ∧ 0 ≤ x ∧ x < (k : Int) := by
  unfold alT
  simp only [List.mem_map, List.mem_filter, List.mem_range, decide_eq_true_eq]
  constructor
  · rintro ⟨i, ⟨h1, h2⟩, rfl⟩; exact ⟨h2, by omega, by omega⟩
  · rintro ⟨h1, h2, h3⟩
    exact ⟨x.toNat, ⟨by omega, by rw [Int.toNat_of_nonneg h2]; exact h1⟩, Int.toNat_of_nonneg h2⟩
theorem alT_asc (zs : List Int) (k : Nat) : (alT zs k).Pairwise (· < ·) := by
  unfold alT
  refine List.Pairwise.map _ (R := (· < ·)) (fun a b h => by omega) ?_
  exact List.Pairwise.filter _ (List.pairwise_lt_range)
theorem alT_in (zs : List Int) {k : Nat} (hk : k ≤ 1000) : ∀ x ∈ alT zs k, InI x := fun x hx => by
  have := alT_mem.1 hx; unfold InI; omega
/-- All tokens of an expression are tokens. -/
theorem isXB_okT {xs : List Tok} (h : isXB xs = true) : ∀ t ∈ xs, okT t = true := by
  have key : ∀ {T : Tr}, T.ok → ∀ t ∈ T.post, okT t = true := by
    intro T
    induction T with
    | nil => intro h; exact h.elim
    | node t l r hl hr =>
      rintro ⟨ht, hc⟩ x hx
      simp only [Tr.post, List.mem_append, List.mem_singleton] at hx
      rcases hc with ⟨_, rfl, rfl⟩ | ⟨_, hlo, rfl⟩ | ⟨_, hlo, hro⟩
      · simp [Tr.post] at hx; subst hx; exact ht
      · simp [Tr.post] at hx
        rcases hx with hx | rfl
        · exact hl hlo x hx
        · exact ht
      · rcases hx with (hx | hx) | rfl
        · exact hl hlo x hx
        · exact hr hro x hx
        · exact ht
  obtain ⟨T, hT, rfl⟩ := isP_iff.1 h
  exact key hT
theorem okT_lr {t : Tok} (h : okT t = true) (h3 : t.kd = 3) : 0 ≤ t.lr ∧ t.lr < 9 := by
  unfold okT inB at h
  simp only [Bool.or_eq_true, Bool.and_eq_true, decide_eq_true_eq] at h
  omega
theorem ltrs_small {xs : List Tok} (h : ∀ t ∈ xs, okT t = true) : ∀ z ∈ ltrs xs, 0 ≤ z ∧ z < 9 := by
  intro z hz
  unfold ltrs at hz
  obtain ⟨t, ht, rfl⟩ := List.mem_map.1 hz
  obtain ⟨h1, h2⟩ := List.mem_filter.1 ht
  exact okT_lr (h t h1) (by simpa using h2)
theorem ltrs_snoc (xs : List Tok) (t : Tok) : ltrs (xs ++ [t]) = ltrs xs ++ (if t.kd = 3 then [t.lr] else []) := by
  unfold ltrs
  rw [List.filter_append, List.map_append]
  congr 1
  by_cases h : t.kd = 3 <;> simp [h]
/-- The model's number: a bit for each letter. -/
def mskX (xs : List Tok) : Nat := xs.foldl (fun m t => if t.kd = 3 then m ||| 2 ^ t.lr.toNat else m) 0
theorem mskX_snoc (xs : List Tok) (t : Tok) : mskX (xs ++ [t]) = if t.kd = 3 then mskX xs ||| 2 ^ t.lr.toNat else mskX xs := by
  unfold mskX; rw [List.foldl_append]; rfl
theorem snoc_ind {P : List Tok → Prop} (h0 : P []) (h1 : ∀ xs t, P xs → P (xs ++ [t])) : ∀ xs, P xs := by
  intro xs
  have : ∀ n, ∀ xs : List Tok, xs.length = n → P xs := by
    intro n
    induction n with
    | zero => intro xs h; rw [List.eq_nil_of_length_eq_zero h]; exact h0
    | succ n ih =>
      intro xs h
      have e : xs = xs.take n ++ [xs[n]'(by omega)] := by
        rw [← List.take_succ_eq_append_getElem (by omega), List.take_of_length_le (by omega)]
      rw [e]; exact h1 _ _ (ih _ (by rw [List.length_take]; omega))
  exact this _ xs rfl
theorem mskX_bit (xs : List Tok) : (∀ t ∈ xs, okT t = true) → ∀ i : Nat, (mskX xs).testBit i = decide ((i : Int) ∈ ltrs xs) := by
  refine snoc_ind (P := fun xs => (∀ t ∈ xs, okT t = true) → ∀ i : Nat, (mskX xs).testBit i = decide ((i : Int) ∈ ltrs xs)) ?_ ?_ xs
  · intro _ i; simp [mskX, ltrs]
  · intro xs t ih h i
    have hi := ih (fun x hx => h x (by simp [hx])) i
    rw [mskX_snoc, ltrs_snoc]
    by_cases h3 : t.kd = 3
    · have hl := okT_lr (h t (by simp)) h3
      rw [if_pos h3, if_pos h3, Nat.testBit_or, hi, Nat.testBit_two_pow, Bool.eq_iff_iff]
      simp only [Bool.or_eq_true, decide_eq_true_eq, List.mem_append, List.mem_singleton]
      have : (t.lr.toNat = i) ↔ ((i : Int) = t.lr) := by omega
      rw [this]
    · rw [if_neg h3, if_neg h3, hi, List.append_nil]
theorem mskX_lt (xs : List Tok) : (∀ t ∈ xs, okT t = true) → mskX xs < 512 := by
  refine snoc_ind (P := fun xs => (∀ t ∈ xs, okT t = true) → mskX xs < 512) ?_ ?_ xs
  · intro _; decide
  · intro xs t ih h
    have hi := ih (fun x hx => h x (by simp [hx]))
    rw [mskX_snoc]
    by_cases h3 : t.kd = 3
    · have hl := okT_lr (h t (by simp)) h3
      rw [if_pos h3]
      refine Nat.or_lt_two_pow (n := 9) hi ?_
      exact Nat.pow_lt_pow_right (by decide) (by omega)
    · rw [if_neg h3]; exact hi
/-- The program's marks. -/
def occL (xs : List Tok) : List Value := (List.range 9).map fun (i : Nat) => .bool (decide ((i : Int) ∈ ltrs xs))
theorem occL_len (xs : List Tok) : (occL xs).length = 9 := by simp [occL]
theorem occL_at (xs : List Tok) (i : Nat) (h : i < 9) : (occL xs)[i]? = some (.bool (decide ((i : Int) ∈ ltrs xs))) := by
  unfold occL; simp [h]
theorem occL_nil : occL [] = List.replicate 9 (.bool false) := by rfl
theorem occL_set (xs : List Tok) (t : Tok) (k : Nat) (h3 : t.kd = 3) (hk : t.lr = (k : Int)) : (occL xs).set k (.bool true) = occL (xs ++ [t]) := by
  apply List.ext_getElem?
  intro j
  by_cases hj : j < 9
  · rw [occL_at _ _ hj, ltrs_snoc, if_pos h3, hk]
    by_cases e : k = j
    · subst e
      rw [List.getElem?_set_self (by rw [occL_len]; exact hj)]
      simp
    · rw [List.getElem?_set_ne e, occL_at _ _ hj]
      have : ¬ ((j : Int) = (k : Int)) := by omega
      simp [this]
  · rw [List.getElem?_eq_none (by rw [List.length_set, occL_len]; omega), List.getElem?_eq_none (by rw [occL_len]; omega)]
theorem occL_skip (xs : List Tok) (t : Tok) (h3 : t.kd ≠ 3) : occL (xs ++ [t]) = occL xs := by
  unfold occL; rw [ltrs_snoc, if_neg h3, List.append_nil]
theorem alX_len (xs : List Tok) : (alX xs).length ≤ 9 := by
  unfold alX
  split
  · exact alT_len _ _
  · simp
end Go.Proofs.YtiojgahjfndmdaaDoor
