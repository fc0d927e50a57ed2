/- Matching by tables, as the model does it, against the language of an expression. No program in it. -/
import Derived.Test.YtiojgahjfndmdaaDoorLgM
namespace Go.Proofs.YtiojgahjfndmdaaDoor
set_option maxRecDepth 100000
open Go.ChangeShapes Go.WideShapes Go.ChangeAt Go.RowKit
set_option linter.unusedVariables false
set_option linter.unusedSimpArgs false

def subL (w : List Int) (i j : Nat) : List Int := (w.drop i).take (j - i)
def sameG (i j : Nat) : Bool := i == j
def joinG (a b : Nat → Nat → Bool) (i j : Nat) : Bool := (List.range (j + 1)).any fun k => decide (i ≤ k) && a i k && b k j
def powG (a : Nat → Nat → Bool) : Nat → Nat → Nat → Bool
  | 0 => sameG
  | k + 1 => joinG (powG a k) a
def repG (a : Nat → Nat → Bool) (lo hi i j : Nat) : Bool := (List.range (hi + 1)).any fun k => decide (lo ≤ k) && powG a k i j
/-- The table of a tree over a word: does the tree take the letters from i on up to j. -/
def gT (w : List Int) : Tr → Nat → Nat → Bool
  | .nil, _, _ => false
  | .node t l r, i, j => if t.kd = 2 then sameG i j else if t.kd = 3 then (j == i + 1) && (w[i]? == some t.lr) else if t.kd = 4 then joinG (gT w l) (gT w r) i j else if t.kd = 5 then gT w l i j || gT w r i j
    else if t.kd = 6 then repG (gT w l) 0 w.length i j else if t.kd = 7 then repG (gT w l) t.lo.toNat t.hi.toNat i j else false
theorem subL_len (w : List Int) {i j : Nat} (h : i ≤ j) (hj : j ≤ w.length) : (subL w i j).length = j - i := by
  unfold subL; rw [List.length_take, List.length_drop]; omega
theorem subL_self (w : List Int) (i : Nat) : subL w i i = [] := by unfold subL; simp
theorem subL_app (w : List Int) {i k j : Nat} (h1 : i ≤ k) (h2 : k ≤ j) : subL w i k ++ subL w k j = subL w i j := by
  unfold subL
  have e : w.drop k = (w.drop i).drop (k - i) := by rw [List.drop_drop]; congr 1; omega
  have e2 : j - i = (k - i) + (j - k) := by omega
  rw [e, e2, List.take_add]
theorem joinG_iff {a b : Nat → Nat → Bool} {i j : Nat} : joinG a b i j = true ↔ ∃ k, i ≤ k ∧ k ≤ j ∧ a i k = true ∧ b k j = true := by
  unfold joinG
  simp only [List.any_eq_true, List.mem_range, Bool.and_eq_true, decide_eq_true_eq]
  constructor
  · rintro ⟨k, h, ⟨h1, h2⟩, h3⟩; exact ⟨k, h1, by omega, h2, h3⟩
  · rintro ⟨k, h1, h2, h3, h4⟩; exact ⟨k, by omega, ⟨h1, h3⟩, h4⟩
theorem catP_sub {P Q : List Int → Prop} (w : List Int) {i j : Nat} (h : i ≤ j) (hj : j ≤ w.length) : CatP P Q (subL w i j) ↔ ∃ k, i ≤ k ∧ k ≤ j ∧ P (subL w i k) ∧ Q (subL w k j) := by
  constructor
  · rintro ⟨u, v, e, p, q⟩
    have hl : u.length + v.length = j - i := by rw [← List.length_append, ← e, subL_len w h hj]
    have hk := subL_app w (i := i) (k := i + u.length) (j := j) (by omega) (by omega)
    rw [e] at hk
    have l1 : (subL w i (i + u.length)).length = u.length := by rw [subL_len w (by omega) (by omega)]; omega
    obtain ⟨e1, e2⟩ := List.append_inj hk l1
    exact ⟨i + u.length, by omega, by omega, by rw [e1]; exact p, by rw [e2]; exact q⟩
  · rintro ⟨k, h1, h2, p, q⟩
    exact ⟨_, _, (subL_app w h1 h2).symm, p, q⟩
theorem powP_comm {P : List Int → Prop} (k : Nat) (w : List Int) : PowP P (k + 1) w ↔ CatP (PowP P k) P w := by
  induction k generalizing w with
  | zero =>
    constructor
    · intro h; exact ⟨[], w, rfl, rfl, (powP_one w).1 h⟩
    · rintro ⟨u, v, e, p, q⟩
      cases p
      rw [List.nil_append] at e; subst e; exact (powP_one w).2 q
  | succ k ih =>
    constructor
    · rintro ⟨u, v, e, p, q⟩
      obtain ⟨u2, v2, e2, p2, q2⟩ := (ih v).1 q
      exact ⟨u ++ u2, v2, by rw [e, e2, List.append_assoc], ⟨u, u2, rfl, p, p2⟩, q2⟩
    · rintro ⟨u, v, e, ⟨u1, u2, e1, p1, q1⟩, q⟩
      exact ⟨u1, u2 ++ v, by rw [e, e1, List.append_assoc], p1, (ih _).2 ⟨u2, v, rfl, q1, q⟩⟩
theorem powG_iff {a : Nat → Nat → Bool} {P : List Int → Prop} (w : List Int) (h : ∀ i j, i ≤ j → j ≤ w.length → (a i j = true ↔ P (subL w i j))) (k : Nat) :
    ∀ i j, i ≤ j → j ≤ w.length → (powG a k i j = true ↔ PowP P k (subL w i j)) := by
  induction k with
  | zero =>
    intro i j hi hj
    unfold powG sameG PowP
    rw [beq_iff_eq]
    constructor
    · rintro rfl; exact subL_self w i
    · intro e
      have := subL_len w hi hj
      rw [e] at this
      simp at this
      omega
  | succ k ih =>
    intro i j hi hj
    rw [powP_comm, catP_sub w hi hj]
    show joinG (powG a k) a i j = true ↔ _
    rw [joinG_iff]
    constructor
    · rintro ⟨m, h1, h2, h3, h4⟩; exact ⟨m, h1, h2, (ih i m h1 (by omega)).1 h3, (h m j h2 hj).1 h4⟩
    · rintro ⟨m, h1, h2, h3, h4⟩; exact ⟨m, h1, h2, (ih i m h1 (by omega)).2 h3, (h m j h2 hj).2 h4⟩
/-- No more parts than letters are wanted. -/
theorem powP_short {P : List Int → Prop} (k : Nat) (w : List Int) (h : PowP P k w) : ∃ m, m ≤ w.length ∧ m ≤ k ∧ PowP P m w := by
  induction k generalizing w with
  | zero => exact ⟨0, Nat.zero_le _, Nat.le_refl _, h⟩
  | succ k ih =>
    obtain ⟨u, v, e, p, q⟩ := h
    obtain ⟨m, m1, m2, m3⟩ := ih v q
    cases u with
    | nil =>
      rw [List.nil_append] at e; subst e
      exact ⟨m, m1, by omega, m3⟩
    | cons c u =>
      refine ⟨m + 1, ?_, by omega, ⟨c :: u, v, e, p, m3⟩⟩
      rw [e]; simp; omega
theorem repG_iff {a : Nat → Nat → Bool} {lo hi i j : Nat} : repG a lo hi i j = true ↔ ∃ k, lo ≤ k ∧ k ≤ hi ∧ powG a k i j = true := by
  unfold repG
  simp only [List.any_eq_true, List.mem_range, Bool.and_eq_true, decide_eq_true_eq]
  constructor
  · rintro ⟨k, h, h1, h2⟩; exact ⟨k, h1, by omega, h2⟩
  · rintro ⟨k, h1, h2, h3⟩; exact ⟨k, by omega, h1, h3⟩
/-- The tables tell the language. -/
theorem gT_iff (w : List Int) {T : Tr} (h : T.ok) : ∀ i j, i ≤ j → j ≤ w.length → (gT w T i j = true ↔ LgT T (subL w i j)) := by
  induction T with
  | nil => exact h.elim
  | node t l r hl hr =>
    obtain ⟨ht, hc⟩ := h
    obtain ⟨k1, k7⟩ := okT_kd ht
    intro i j hi hj
    have hlen := subL_len w hi hj
    unfold gT LgT
    rcases (by omega : t.kd = 1 ∨ t.kd = 2 ∨ t.kd = 3 ∨ t.kd = 4 ∨ t.kd = 5 ∨ t.kd = 6 ∨ t.kd = 7) with e | e | e | e | e | e | e
    · simp [e]
    · simp only [e]
      simp [sameG]
      constructor
      · rintro rfl; exact subL_self w i
      · intro h0; rw [h0] at hlen; simp at hlen; omega
    · simp only [e]
      simp
      constructor
      · rintro ⟨rfl, hw⟩
        unfold subL
        have hi2 : i < w.length := by omega
        rw [List.getElem?_eq_getElem hi2] at hw
        injection hw with hw
        rw [List.drop_eq_getElem_cons hi2, show i + 1 - i = 1 from by omega, hw]
        rfl
      · intro h0
        rw [h0] at hlen
        have hj2 : j = i + 1 := by simp at hlen; omega
        subst hj2
        refine ⟨rfl, ?_⟩
        have hi2 : i < w.length := by omega
        unfold subL at h0
        rw [List.drop_eq_getElem_cons hi2, show i + 1 - i = 1 from by omega] at h0
        injection h0 with h0
        rw [List.getElem?_eq_getElem hi2, h0]
    · have h2 : opN t = 2 := by unfold opN; rw [if_pos (.inl e)]
      rcases hc with ⟨h0, _⟩ | ⟨h1, _⟩ | ⟨_, hlo, hro⟩
      · omega
      · omega
      · simp [e]
        rw [joinG_iff, catP_sub w hi hj]
        constructor
        · rintro ⟨k, q1, q2, q3, q4⟩; exact ⟨k, q1, q2, (hl hlo i k q1 (by omega)).1 q3, (hr hro k j q2 hj).1 q4⟩
        · rintro ⟨k, q1, q2, q3, q4⟩; exact ⟨k, q1, q2, (hl hlo i k q1 (by omega)).2 q3, (hr hro k j q2 hj).2 q4⟩
    · have h2 : opN t = 2 := by unfold opN; rw [if_pos (.inr e)]
      rcases hc with ⟨h0, _⟩ | ⟨h1, _⟩ | ⟨_, hlo, hro⟩
      · omega
      · omega
      · simp [e]
        rw [hl hlo i j hi hj, hr hro i j hi hj]
    · have h1' : opN t = 1 := by unfold opN; rw [if_neg (by omega), if_pos (.inl e)]
      rcases hc with ⟨h0, _⟩ | ⟨h1, hlo, rfl⟩ | ⟨h2, _⟩
      · omega
      · simp [e]
        rw [repG_iff]
        have pw := fun k => powG_iff w (hl hlo) k i j hi hj
        constructor
        · rintro ⟨k, _, _, q⟩; exact ⟨k, (pw k).1 q⟩
        · rintro ⟨k, q⟩
          obtain ⟨m, m1, _, m3⟩ := powP_short k _ q
          exact ⟨m, Nat.zero_le _, by omega, (pw m).2 m3⟩
      · omega
    · have h1' : opN t = 1 := by unfold opN; rw [if_neg (by omega), if_pos (.inr e)]
      rcases hc with ⟨h0, _⟩ | ⟨h1, hlo, rfl⟩ | ⟨h2, _⟩
      · omega
      · obtain ⟨a, b, d, f⟩ := okT_repD ht e
        simp [e]
        rw [repG_iff]
        have pw := fun k => powG_iff w (hl hlo) k i j hi hj
        constructor
        · rintro ⟨k, q1, q2, q⟩; exact ⟨k, by omega, by omega, (pw k).1 q⟩
        · rintro ⟨k, q1, q2, q⟩; exact ⟨k, by omega, by omega, (pw k).2 q⟩
      · omega
theorem subL_all (w : List Int) : subL w 0 w.length = w := by unfold subL; simp
/-- A word is taken if and only if the table says so. -/
theorem gT_word (w : List Int) {T : Tr} (h : T.ok) : gT w T 0 w.length = true ↔ LgT T w := by
  rw [gT_iff w h 0 w.length (Nat.zero_le _) (Nat.le_refl _), subL_all]
end Go.Proofs.YtiojgahjfndmdaaDoor
