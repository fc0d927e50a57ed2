/- Chapter 9 as plain data: which trees take the empty word, derivatives of trees, and that they are expressions again. No program in it. -/
import Derived.Test.YtiojgahjfndmdaaDoorXf
namespace Go.Proofs.YtiojgahjfndmdaaDoor
set_option maxRecDepth 100000
open Go.ChangeShapes Go.WideShapes Go.ChangeAt Go.RowKit
set_option linter.unusedVariables false
set_option linter.unusedSimpArgs false

def nulT : Tr → Bool
  | .nil => false
  | .node t l r => if t.kd = 2 ∨ t.kd = 6 then true else if t.kd = 4 then nulT l && nulT r else if t.kd = 5 then nulT l || nulT r else if t.kd = 7 then (t.lo == 0 || nulT l) else false
def nulX (xs : List Tok) : Bool := match treeO xs with
  | some T => nulT T
  | none => false
/-- The derivative of a tree by a letter, as the model builds it. -/
def derT (c : Int) : Tr → List Tok
  | .nil => []
  | .node t l r =>
    if t.kd = 3 then (if t.lr = c then [leafK 2] else [leafK 1])
    else if t.kd = 4 then (if nulT l = true then uniX (catX (derT c l) r.post) (derT c r) else catX (derT c l) r.post)
    else if t.kd = 5 then uniX (derT c l) (derT c r)
    else if t.kd = 6 then catX (derT c l) (Tr.node t l r).post
    else if t.kd = 7 then catX (derT c l) (repX l.post (max 0 (t.lo - 1)) (t.hi - 1))
    else [leafK 1]
theorem sq_cat {a b : Nat} (ha : 1 ≤ a) (hb : 1 ≤ b) : a * a + b + 1 + b * b + 1 ≤ (a + b + 1) * (a + b + 1) := by
  have h : (a + b + 1) * (a + b + 1) = a * a + b * b + 2 * (a * b) + 2 * a + 2 * b + 1 := by
    simp only [Nat.add_mul, Nat.mul_add, Nat.one_mul, Nat.mul_one, Nat.mul_comm b a]; omega
  have h2 : 1 ≤ a * b := Nat.mul_pos ha hb
  omega
theorem sq_one {a : Nat} (ha : 1 ≤ a) : a * a + (a + 1) + 1 ≤ (a + 1) * (a + 1) := by
  have h : (a + 1) * (a + 1) = a * a + 2 * a + 1 := by simp only [Nat.add_mul, Nat.mul_add, Nat.one_mul, Nat.mul_one]; omega
  omega
theorem tr_pos {T : Tr} (h : T.ok) : 1 ≤ T.len := by
  cases T with
  | nil => exact h.elim
  | node t l r => simp [Tr.len]
theorem derT_len (c : Int) {T : Tr} (h : T.ok) : (derT c T).length ≤ T.len * T.len := by
  induction T with
  | nil => exact h.elim
  | node t l r hl hr =>
    have hp := tr_pos h
    have hp2 : 1 ≤ (Tr.node t l r).len * (Tr.node t l r).len := Nat.mul_pos hp hp
    obtain ⟨ht, hc⟩ := h
    unfold derT
    split
    · split <;> (simp only [List.length_cons, List.length_nil]; omega)
    · split
      · rename_i h4
        have h2 : opN t = 2 := by unfold opN; rw [if_pos (.inl h4)]
        rcases hc with ⟨h0, _⟩ | ⟨h1, _⟩ | ⟨_, hlo, hro⟩
        · omega
        · omega
        have a := hl hlo
        have b := hr hro
        have sq := sq_cat (tr_pos hlo) (tr_pos hro)
        have e1 := catX_len (derT c l) r.post
        have e2 := uniX_len (catX (derT c l) r.post) (derT c r)
        rw [post_len] at e1
        simp only [Tr.len]
        split <;> omega
      · split
        · rename_i h5
          have h2 : opN t = 2 := by unfold opN; rw [if_pos (.inr h5)]
          rcases hc with ⟨h0, _⟩ | ⟨h1, _⟩ | ⟨_, hlo, hro⟩
          · omega
          · omega
          have a := hl hlo
          have b := hr hro
          have sq := sq_cat (tr_pos hlo) (tr_pos hro)
          have e2 := uniX_len (derT c l) (derT c r)
          simp only [Tr.len]
          omega
        · split
          · rename_i n4 n5 h6
            have h1' : opN t = 1 := by unfold opN; rw [if_neg (by omega), if_pos (.inl h6)]
            rcases hc with ⟨h0, _⟩ | ⟨h1, hlo, rfl⟩ | ⟨h2, _⟩
            · omega
            · have a := hl hlo
              have sq := sq_one (tr_pos hlo)
              have e1 := catX_len (derT c l) (Tr.node t l .nil).post
              rw [post_len] at e1
              simp only [Tr.len] at e1 ⊢
              simp only [Nat.add_zero] at e1 ⊢
              omega
            · omega
          · split
            · rename_i n4 n5 n6 h7
              have h1' : opN t = 1 := by unfold opN; rw [if_neg (by omega), if_pos (.inr h7)]
              rcases hc with ⟨h0, _⟩ | ⟨h1, hlo, rfl⟩ | ⟨h2, _⟩
              · omega
              · have a := hl hlo
                have sq := sq_one (tr_pos hlo)
                have e1 := catX_len (derT c l) (repX l.post (max 0 (t.lo - 1)) (t.hi - 1))
                have e2 := repX_len l.post (max 0 (t.lo - 1)) (t.hi - 1)
                rw [post_len] at e2
                simp only [Tr.len, Nat.add_zero]
                omega
              · omega
            · simp only [List.length_cons, List.length_nil]; omega
/-- What the constructors build of expressions are expressions. -/
def isP (xs : List Tok) : Prop := ∃ T : Tr, T.ok ∧ xs = T.post
theorem isP_iff {xs : List Tok} : isXB xs = true ↔ isP xs := by
  constructor
  · intro h
    unfold isXB at h
    cases ht : treeO xs with
    | none => rw [ht] at h; cases h
    | some T => exact ⟨T, treeO_some ht⟩
  · rintro ⟨T, h, rfl⟩
    unfold isXB; rw [treeO_post h]; rfl
theorem isP_leaf {k : Int} (h : k = 1 ∨ k = 2) : isP [leafK k] := by
  refine ⟨.node (leafK k) .nil .nil, ⟨?_, .inl ⟨?_, rfl, rfl⟩⟩, rfl⟩ <;> rcases h with rfl | rfl <;> decide
theorem isP_two {xs ys : List Tok} {t : Tok} (hx : isP xs) (hy : isP ys) (ht : okT t = true) (h2 : opN t = 2) : isP (xs ++ ys ++ [t]) := by
  obtain ⟨A, ha, rfl⟩ := hx
  obtain ⟨B, hb, rfl⟩ := hy
  exact ⟨.node t A B, ⟨ht, .inr (.inr ⟨h2, ha, hb⟩)⟩, rfl⟩
theorem isP_one {xs : List Tok} {t : Tok} (hx : isP xs) (ht : okT t = true) (h1 : opN t = 1) : isP (xs ++ [t]) := by
  obtain ⟨A, ha, rfl⟩ := hx
  exact ⟨.node t A .nil, ⟨ht, .inr (.inl ⟨h1, ha, rfl⟩)⟩, by simp [Tr.post]⟩
theorem isP_cat {xs ys : List Tok} (hx : isP xs) (hy : isP ys) : isP (catX xs ys) := by
  have h := isP_two (t := leafK 4) hx hy (by decide) (by decide)
  have h1 := isP_leaf (k := 1) (.inl rfl)
  unfold catX
  cases alone xs 1 <;> cases alone ys 1 <;> cases alone xs 2 <;> cases alone ys 2 <;> first | exact h | exact h1 | exact hx | exact hy
theorem isP_uni {xs ys : List Tok} (hx : isP xs) (hy : isP ys) : isP (uniX xs ys) := by
  have h := isP_two (t := leafK 5) hx hy (by decide) (by decide)
  unfold uniX
  cases alone xs 1 <;> cases decide (xs = ys) <;> cases alone ys 1 <;> first | exact h | exact hx | exact hy
theorem isP_star {xs : List Tok} (hx : isP xs) : isP (starX xs) := by
  have h := isP_one (t := leafK 6) hx (by decide) (by decide)
  have h2 := isP_leaf (k := 2) (.inr rfl)
  unfold starX
  cases alone xs 1 <;> cases alone xs 2 <;> cases lastB xs 6 <;> first | exact h | exact h2 | exact hx
theorem isP_rep {xs : List Tok} {lo hi : Int} (hx : isP xs) (h0 : 0 ≤ lo) (h1 : lo ≤ hi) (h3 : hi ≤ 3) : isP (repX xs lo hi) := by
  unfold repX
  cases ha : (lo == 0 && hi == 0) with
  | true => exact isP_leaf (k := 2) (.inr rfl)
  | false =>
    cases hb : (lo == 1 && hi == 1) with
    | true => exact hx
    | false =>
      refine isP_one (t := ⟨7, 0, lo, hi⟩) hx ?_ (by simp [opN])
      have hh : 1 ≤ hi := by
        rcases (by omega : hi = 0 ∨ 1 ≤ hi) with e | e
        · have e2 : lo = 0 := by omega
          subst e; subst e2; cases ha
        · exact e
      unfold okT
      simp only [Bool.or_eq_true, Bool.and_eq_true, decide_eq_true_eq]
      exact .inr ⟨trivial, trivial, h0, h1, hh, h3⟩
theorem okT_repD {t : Tok} (h : okT t = true) (h7 : t.kd = 7) : 0 ≤ t.lo ∧ t.lo ≤ t.hi ∧ 1 ≤ t.hi ∧ t.hi ≤ 3 := by
  unfold okT at h
  simp only [Bool.or_eq_true, Bool.and_eq_true, decide_eq_true_eq] at h
  omega
/-- The derivative of an expression is an expression. -/
theorem isP_der (c : Int) {T : Tr} (h : T.ok) : isP (derT c T) := by
  induction T with
  | nil => exact h.elim
  | node t l r hl hr =>
    have h' := h
    obtain ⟨ht, hc⟩ := h
    unfold derT
    split
    · split
      · exact isP_leaf (.inr rfl)
      · exact isP_leaf (.inl rfl)
    · split
      · rename_i h4
        have h2 : opN t = 2 := by unfold opN; rw [if_pos (.inl h4)]
        rcases hc with ⟨h0, _⟩ | ⟨h1, _⟩ | ⟨_, hlo, hro⟩
        · omega
        · omega
        · have k := isP_cat (hl hlo) ⟨r, hro, rfl⟩
          split
          · exact isP_uni k (hr hro)
          · exact k
      · split
        · rename_i h5
          have h2 : opN t = 2 := by unfold opN; rw [if_pos (.inr h5)]
          rcases hc with ⟨h0, _⟩ | ⟨h1, _⟩ | ⟨_, hlo, hro⟩
          · omega
          · omega
          · exact isP_uni (hl hlo) (hr hro)
        · split
          · rename_i n4 n5 h6
            have h1' : opN t = 1 := by unfold opN; rw [if_neg (by omega), if_pos (.inl h6)]
            rcases hc with ⟨h0, _⟩ | ⟨h1, hlo, rfl⟩ | ⟨h2, _⟩
            · omega
            · exact isP_cat (hl hlo) ⟨_, h', rfl⟩
            · omega
          · split
            · rename_i n4 n5 n6 h7
              have h1' : opN t = 1 := by unfold opN; rw [if_neg (by omega), if_pos (.inr h7)]
              rcases hc with ⟨h0, _⟩ | ⟨h1, hlo, rfl⟩ | ⟨h2, _⟩
              · omega
              · obtain ⟨a, b, d, e⟩ := okT_repD ht h7
                exact isP_cat (hl hlo) (isP_rep ⟨l, hlo, rfl⟩ (by omega) (by omega) (by omega))
              · omega
            · exact isP_leaf (.inl rfl)
/-- What Derivative and DerivativeWord answer (the letter known to be one). -/
def derX (xs : List Tok) (c : Int) : List Tok × Bool := match treeO xs with
  | some T => if xs.length ≤ 400 ∧ inB c 0 8 = true ∧ (derT c T).length ≤ 400 then (derT c T, true) else ([], false)
  | none => ([], false)
def derWL : List Tok → List Int → List Tok × Bool
  | xs, [] => (xs, true)
  | xs, c :: w => if (derX xs c).2 = true then derWL (derX xs c).1 w else ([], false)
def derW (xs : List Tok) (w : List Int) : List Tok × Bool := if isXB xs = true ∧ xs.length ≤ 400 then derWL xs w else ([], false)
theorem derX_ok {xs : List Tok} {c : Int} (h : (derX xs c).2 = true) : isXB (derX xs c).1 = true ∧ (derX xs c).1.length ≤ 400 := by
  unfold derX at h ⊢
  cases ht : treeO xs with
  | none => rw [ht] at h; cases h
  | some T =>
    rw [ht] at h
    simp only at h ⊢
    split at h
    · rename_i hc
      rw [if_pos hc]
      exact ⟨isP_iff.2 (isP_der c (treeO_some ht).1), hc.2.2⟩
    · cases h
end Go.Proofs.YtiojgahjfndmdaaDoor
