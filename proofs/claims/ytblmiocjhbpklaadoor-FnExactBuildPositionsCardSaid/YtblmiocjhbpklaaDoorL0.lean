/- DvM, LgM, MtM, EnM, DwM, WuM, CsM, AlM, Memo, TbM: small words and contracts that the other texts use. -/
import Derived.Test.YtblmiocjhbpklaaDoorXf
import Derived.Test.YtblmiocjhbpklaaDoorK0
import Derived.Test.YtblmiocjhbpklaaDoorTree
import Derived.Maps.OwnOps
import Derived.LaidEqlPtr
import Derived.Laws.StructEq
/- Chapter 9 as plain data: which trees take the empty word, derivatives of trees, and that they are expressions again. No program in it. -/
namespace Go.Proofs.YtblmiocjhbpklaaDoor
set_option maxRecDepth 100000
open Go.ChangeShapes Go.WideShapes Go.ChangeAt Go.RowKit
set_option linter.unusedVariables false
set_option linter.unusedSimpArgs false

def nulT : Tr → Bool
  | .nil => false
  | .node t l r => if t.kd = 2 ∨ t.kd = 6 then true else if t.kd = 4 then nulT l && nulT r else if t.kd = 5 then nulT l || nulT r else if t.kd = 7 then (t.lo == 0 || nulT l) else false
def nulX (xs : List Tok) : Bool := match treeO xs with
  | some T => nulT T
  | none => false
/-- The derivative of a tree by a letter, as the model builds it. -/
def derT (c : Int) : Tr → List Tok
  | .nil => []
  | .node t l r =>
    if t.kd = 3 then (if t.lr = c then [leafK 2] else [leafK 1])
    else if t.kd = 4 then (if nulT l = true then uniX (catX (derT c l) r.post) (derT c r) else catX (derT c l) r.post)
    else if t.kd = 5 then uniX (derT c l) (derT c r)
    else if t.kd = 6 then catX (derT c l) (Tr.node t l r).post
    else if t.kd = 7 then catX (derT c l) (repX l.post (max 0 (t.lo - 1)) (t.hi - 1))
    else [leafK 1]
theorem sq_cat {a b : Nat} (ha : 1 ≤ a) (hb : 1 ≤ b) : a * a + b + 1 + b * b + 1 ≤ (a + b + 1) * (a + b + 1) := by
  have h : (a + b + 1) * (a + b + 1) = a * a + b * b + 2 * (a * b) + 2 * a + 2 * b + 1 := by
    simp only [Nat.add_mul, Nat.mul_add, Nat.one_mul, Nat.mul_one, Nat.mul_comm b a]; omega
  have h2 : 1 ≤ a * b := Nat.mul_pos ha hb
  omega
theorem sq_one {a : Nat} (ha : 1 ≤ a) : a * a + (a + 1) + 1 ≤ (a + 1) * (a + 1) := by
  have h : (a + 1) * (a + 1) = a * a + 2 * a + 1 := by simp only [Nat.add_mul, Nat.mul_add, Nat.one_mul, Nat.mul_one]; omega
  omega
theorem tr_pos {T : Tr} (h : T.ok) : 1 ≤ T.len := by
  cases T with
  | nil => exact h.elim
  | node t l r => simp [Tr.len]
theorem derT_len (c : Int) {T : Tr} (h : T.ok) : (derT c T).length ≤ T.len * T.len := by
  induction T with
  | nil => exact h.elim
  | node t l r hl hr =>
    have hp := tr_pos h
    have hp2 : 1 ≤ (Tr.node t l r).len * (Tr.node t l r).len := Nat.mul_pos hp hp
    obtain ⟨ht, hc⟩ := h
    unfold derT
    split
    · split <;> (simp only [List.length_cons, List.length_nil]; omega)
    · split
      · rename_i h4
        have h2 : opN t = 2 := by unfold opN; rw [if_pos (.inl h4)]
        rcases hc with ⟨h0, _⟩ | ⟨h1, _⟩ | ⟨_, hlo, hro⟩
        · omega
        · omega
        have a := hl hlo
        have b := hr hro
        have sq := sq_cat (tr_pos hlo) (tr_pos hro)
        have e1 := catX_len (derT c l) r.post
        have e2 := uniX_len (catX (derT c l) r.post) (derT c r)
        rw [post_len] at e1
        simp only [Tr.len]
        split <;> omega
      · split
        · rename_i h5
          have h2 : opN t = 2 := by unfold opN; rw [if_pos (.inr h5)]
          rcases hc with ⟨h0, _⟩ | ⟨h1, _⟩ | ⟨_, hlo, hro⟩
          · omega
          · omega
          have a := hl hlo
          have b := hr hro
          have sq := sq_cat (tr_pos hlo) (tr_pos hro)
          have e2 := uniX_len (derT c l) (derT c r)
          simp only [Tr.len]
          omega
        · split
          · rename_i n4 n5 h6
            have h1' : opN t = 1 := by unfold opN; rw [if_neg (by omega), if_pos (.inl h6)]
            rcases hc with ⟨h0, _⟩ | ⟨h1, hlo, rfl⟩ | ⟨h2, _⟩
            · omega
            · have a := hl hlo
              have sq := sq_one (tr_pos hlo)
              have e1 := catX_len (derT c l) (Tr.node t l .nil).post
              rw [post_len] at e1
              simp only [Tr.len] at e1 ⊢
              simp only [Nat.add_zero] at e1 ⊢
              omega
            · omega
          · split
            · rename_i n4 n5 n6 h7
              have h1' : opN t = 1 := by unfold opN; rw [if_neg (by omega), if_pos (.inr h7)]
              rcases hc with ⟨h0, _⟩ | ⟨h1, hlo, rfl⟩ | ⟨h2, _⟩
              · omega
              · have a := hl hlo
                have sq := sq_one (tr_pos hlo)
                have e1 := catX_len (derT c l) (repX l.post (max 0 (t.lo - 1)) (t.hi - 1))
                have e2 := repX_len l.post (max 0 (t.lo - 1)) (t.hi - 1)
                rw [post_len] at e2
                simp only [Tr.len, Nat.add_zero]
                omega
              · omega
            · simp only [List.length_cons, List.length_nil]; omega
/-- What the constructors build of expressions are expressions. -/
def isP (xs : List Tok) : Prop := ∃ T : Tr, T.ok ∧ xs = T.post
theorem isP_iff {xs : List Tok} : isXB xs = true ↔ isP xs := by
  constructor
  · intro h
    unfold isXB at h
    cases ht : treeO xs with
    | none => rw [ht] at h; cases h
    | some T => exact ⟨T, treeO_some ht⟩
  · rintro ⟨T, h, rfl⟩
    unfold isXB; rw [treeO_post h]; rfl
theorem isP_leaf {k : Int} (h : k = 1 ∨ k = 2) : isP [leafK k] := by
  refine ⟨.node (leafK k) .nil .nil, ⟨?_, .inl ⟨?_, rfl, rfl⟩⟩, rfl⟩ <;> rcases h with rfl | rfl <;> decide
theorem isP_two {xs ys : List Tok} {t : Tok} (hx : isP xs) (hy : isP ys) (ht : okT t = true) (h2 : opN t = 2) : isP (xs ++ ys ++ [t]) := by
  obtain ⟨A, ha, rfl⟩ := hx
  obtain ⟨B, hb, rfl⟩ := hy
  exact ⟨.node t A B, ⟨ht, .inr (.inr ⟨h2, ha, hb⟩)⟩, rfl⟩
theorem isP_one {xs : List Tok} {t : Tok} (hx : isP xs) (ht : okT t = true) (h1 : opN t = 1) : isP (xs ++ [t]) := by
  obtain ⟨A, ha, rfl⟩ := hx
  exact ⟨.node t A .nil, ⟨ht, .inr (.inl ⟨h1, ha, rfl⟩)⟩, by simp [Tr.post]⟩
theorem isP_cat {xs ys : List Tok} (hx : isP xs) (hy : isP ys) : isP (catX xs ys) := by
  have h := isP_two (t := leafK 4) hx hy (by decide) (by decide)
  have h1 := isP_leaf (k := 1) (.inl rfl)
  unfold catX
  cases alone xs 1 <;> cases alone ys 1 <;> cases alone xs 2 <;> cases alone ys 2 <;> first | exact h | exact h1 | exact hx | exact hy
theorem isP_uni {xs ys : List Tok} (hx : isP xs) (hy : isP ys) : isP (uniX xs ys) := by
  have h := isP_two (t := leafK 5) hx hy (by decide) (by decide)
  unfold uniX
  cases alone xs 1 <;> cases decide (xs = ys) <;> cases alone ys 1 <;> first | exact h | exact hx | exact hy
theorem isP_star {xs : List Tok} (hx : isP xs) : isP (starX xs) := by
  have h := isP_one (t := leafK 6) hx (by decide) (by decide)
  have h2 := isP_leaf (k := 2) (.inr rfl)
  unfold starX
  cases alone xs 1 <;> cases alone xs 2 <;> cases lastB xs 6 <;> first | exact h | exact h2 | exact hx
theorem isP_rep {xs : List Tok} {lo hi : Int} (hx : isP xs) (h0 : 0 ≤ lo) (h1 : lo ≤ hi) (h3 : hi ≤ 3) : isP (repX xs lo hi) := by
  unfold repX
  cases ha : (lo == 0 && hi == 0) with
  | true => exact isP_leaf (k := 2) (.inr rfl)
  | false =>
    cases hb : (lo == 1 && hi == 1) with
    | true => exact hx
    | false =>
      refine isP_one (t := ⟨7, 0, lo, hi⟩) hx ?_ (by simp [opN])
      have hh : 1 ≤ hi := by
        rcases (by omega : hi = 0 ∨ 1 ≤ hi) with e | e
        · have e2 : lo = 0 := by omega
          subst e; subst e2; cases ha
        · exact e
      unfold okT
      simp only [Bool.or_eq_true, Bool.and_eq_true, decide_eq_true_eq]
      exact .inr ⟨trivial, trivial, h0, h1, hh, h3⟩
theorem okT_repD {t : Tok} (h : okT t = true) (h7 : t.kd = 7) : 0 ≤ t.lo ∧ t.lo ≤ t.hi ∧ 1 ≤ t.hi ∧ t.hi ≤ 3 := by
  unfold okT at h
  simp only [Bool.or_eq_true, Bool.and_eq_true, decide_eq_true_eq] at h
  omega
/-- The derivative of an expression is an expression. -/
theorem isP_der (c : Int) {T : Tr} (h : T.ok) : isP (derT c T) := by
  induction T with
  | nil => exact h.elim
  | node t l r hl hr =>
    have h' := h
    obtain ⟨ht, hc⟩ := h
    unfold derT
    split
    · split
      · exact isP_leaf (.inr rfl)
      · exact isP_leaf (.inl rfl)
    · split
      · rename_i h4
        have h2 : opN t = 2 := by unfold opN; rw [if_pos (.inl h4)]
        rcases hc with ⟨h0, _⟩ | ⟨h1, _⟩ | ⟨_, hlo, hro⟩
        · omega
        · omega
        · have k := isP_cat (hl hlo) ⟨r, hro, rfl⟩
          split
          · exact isP_uni k (hr hro)
          · exact k
      · split
        · rename_i h5
          have h2 : opN t = 2 := by unfold opN; rw [if_pos (.inr h5)]
          rcases hc with ⟨h0, _⟩ | ⟨h1, _⟩ | ⟨_, hlo, hro⟩
          · omega
          · omega
          · exact isP_uni (hl hlo) (hr hro)
        · split
          · rename_i n4 n5 h6
            have h1' : opN t = 1 := by unfold opN; rw [if_neg (by omega), if_pos (.inl h6)]
            rcases hc with ⟨h0, _⟩ | ⟨h1, hlo, rfl⟩ | ⟨h2, _⟩
            · omega
            · exact isP_cat (hl hlo) ⟨_, h', rfl⟩
            · omega
          · split
            · rename_i n4 n5 n6 h7
              have h1' : opN t = 1 := by unfold opN; rw [if_neg (by omega), if_pos (.inr h7)]
              rcases hc with ⟨h0, _⟩ | ⟨h1, hlo, rfl⟩ | ⟨h2, _⟩
              · omega
              · obtain ⟨a, b, d, e⟩ := okT_repD ht h7
                exact isP_cat (hl hlo) (isP_rep ⟨l, hlo, rfl⟩ (by omega) (by omega) (by omega))
              · omega
            · exact isP_leaf (.inl rfl)
/-- What Derivative and DerivativeWord answer (the letter known to be one). -/
def derX (xs : List Tok) (c : Int) : List Tok × Bool := match treeO xs with
  | some T => if xs.length ≤ 400 ∧ inB c 0 8 = true ∧ (derT c T).length ≤ 400 then (derT c T, true) else ([], false)
  | none => ([], false)
def derWL : List Tok → List Int → List Tok × Bool
  | xs, [] => (xs, true)
  | xs, c :: w => if (derX xs c).2 = true then derWL (derX xs c).1 w else ([], false)
def derW (xs : List Tok) (w : List Int) : List Tok × Bool := if isXB xs = true ∧ xs.length ≤ 400 then derWL xs w else ([], false)
theorem derX_ok {xs : List Tok} {c : Int} (h : (derX xs c).2 = true) : isXB (derX xs c).1 = true ∧ (derX xs c).1.length ≤ 400 := by
  unfold derX at h ⊢
  cases ht : treeO xs with
  | none => rw [ht] at h; cases h
  | some T =>
    rw [ht] at h
    simp only at h ⊢
    split at h
    · rename_i hc
      rw [if_pos hc]
      exact ⟨isP_iff.2 (isP_der c (treeO_some ht).1), hc.2.2⟩
    · cases h
end Go.Proofs.YtblmiocjhbpklaaDoor

/- The language of an expression, as plain data: what the constructors' and the derivatives' languages are. No program in it. -/
namespace Go.Proofs.YtblmiocjhbpklaaDoor
set_option maxRecDepth 100000
open Go.ChangeShapes Go.WideShapes Go.ChangeAt Go.RowKit
set_option linter.unusedVariables false
set_option linter.unusedSimpArgs false

def CatP (P Q : List Int → Prop) (w : List Int) : Prop := ∃ u v, w = u ++ v ∧ P u ∧ Q v
def PowP (P : List Int → Prop) : Nat → List Int → Prop
  | 0, w => w = []
  | k + 1, w => CatP P (PowP P k) w
/-- The words that a tree takes. -/
def LgT : Tr → List Int → Prop
  | .nil, _ => False
  | .node t l r, w => if t.kd = 2 then w = [] else if t.kd = 3 then w = [t.lr] else if t.kd = 4 then CatP (LgT l) (LgT r) w else if t.kd = 5 then LgT l w ∨ LgT r w
    else if t.kd = 6 then ∃ k, PowP (LgT l) k w else if t.kd = 7 then ∃ k : Nat, t.lo ≤ (k : Int) ∧ (k : Int) ≤ t.hi ∧ PowP (LgT l) k w else False
def LgX (xs : List Tok) (w : List Int) : Prop := ∃ T, treeO xs = some T ∧ LgT T w
theorem LgX_post {T : Tr} (h : T.ok) (w : List Int) : LgX T.post w ↔ LgT T w := by
  unfold LgX
  rw [treeO_post h]
  exact ⟨fun ⟨S, e, k⟩ => by injection e with e; subst e; exact k, fun k => ⟨T, rfl, k⟩⟩
theorem catP_nil {P Q : List Int → Prop} : CatP P Q [] ↔ P [] ∧ Q [] := by
  constructor
  · rintro ⟨u, v, e, p, q⟩
    have := List.append_eq_nil_iff.1 e.symm
    rw [this.1] at p; rw [this.2] at q; exact ⟨p, q⟩
  · rintro ⟨p, q⟩; exact ⟨[], [], rfl, p, q⟩
theorem powP_nil {P : List Int → Prop} (k : Nat) : PowP P k [] ↔ k = 0 ∨ P [] := by
  induction k with
  | zero => simp [PowP]
  | succ k ih =>
    rw [PowP, catP_nil, ih]
    constructor
    · rintro ⟨p, _⟩; exact .inr p
    · rintro (h | h)
      · omega
      · exact ⟨h, .inr h⟩
/-- The empty word. -/
theorem lg_nil {T : Tr} (h : T.ok) : LgT T [] ↔ nulT T = true := by
  induction T with
  | nil => exact h.elim
  | node t l r hl hr =>
    obtain ⟨ht, hc⟩ := h
    obtain ⟨k1, k7⟩ := okT_kd ht
    unfold LgT nulT
    rcases (by omega : t.kd = 1 ∨ t.kd = 2 ∨ t.kd = 3 ∨ t.kd = 4 ∨ t.kd = 5 ∨ t.kd = 6 ∨ t.kd = 7) with e | e | e | e | e | e | e
    · simp [e]
    · simp [e]
    · simp [e]
    · have h2 : opN t = 2 := by unfold opN; rw [if_pos (.inl e)]
      rcases hc with ⟨h0, _⟩ | ⟨h1, _⟩ | ⟨_, hlo, hro⟩
      · omega
      · omega
      · simp [e, catP_nil, hl hlo, hr hro]
    · have h2 : opN t = 2 := by unfold opN; rw [if_pos (.inr e)]
      rcases hc with ⟨h0, _⟩ | ⟨h1, _⟩ | ⟨_, hlo, hro⟩
      · omega
      · omega
      · simp [e, hl hlo, hr hro]
    · simp only [e]
      simp
      exact ⟨0, rfl⟩
    · have h1' : opN t = 1 := by unfold opN; rw [if_neg (by omega), if_pos (.inr e)]
      rcases hc with ⟨h0, _⟩ | ⟨h1, hlo, rfl⟩ | ⟨h2, _⟩
      · omega
      · obtain ⟨a, b, c, d⟩ := okT_repD ht e
        simp only [e]
        simp
        rw [← hl hlo]
        constructor
        · rintro ⟨k, k1, k2, k3⟩
          rcases (powP_nil k).1 k3 with rfl | h
          · exact .inl (by omega)
          · exact .inr h
        · rintro (h | h)
          · exact ⟨0, by omega, by omega, rfl⟩
          · exact ⟨t.hi.toNat, by omega, by omega, (powP_nil _).2 (.inr h)⟩
      · omega
theorem catP_cons {P Q : List Int → Prop} {c : Int} {w : List Int} : CatP P Q (c :: w) ↔ (P [] ∧ Q (c :: w)) ∨ CatP (fun u => P (c :: u)) Q w := by
  constructor
  · rintro ⟨u, v, e, p, q⟩
    cases u with
    | nil => rw [List.nil_append] at e; subst e; exact .inl ⟨p, q⟩
    | cons d u =>
      rw [List.cons_append] at e
      injection e with e1 e2
      subst e1
      exact .inr ⟨u, v, e2, p, q⟩
  · rintro (⟨p, q⟩ | ⟨u, v, e, p, q⟩)
    · exact ⟨[], _, rfl, p, q⟩
    · exact ⟨c :: u, v, by rw [e]; rfl, p, q⟩
theorem powP_more {P : List Int → Prop} (h0 : P []) (k : Nat) (w : List Int) (h : PowP P k w) : PowP P (k + 1) w := ⟨[], w, rfl, h0, h⟩
/-- A power behind its first letter: an operand that takes the empty word makes no difference. -/
theorem powP_cons {P : List Int → Prop} {c : Int} (k : Nat) (w : List Int) : PowP P (k + 1) (c :: w) ↔ CatP (fun u => P (c :: u)) (PowP P k) w := by
  constructor
  · intro h
    induction k with
    | zero =>
      rw [PowP, catP_cons] at h
      rcases h with ⟨_, h⟩ | h
      · cases h
      · exact h
    | succ k ih =>
      rw [PowP, catP_cons] at h
      rcases h with ⟨h0, h⟩ | h
      · obtain ⟨u, v, e, p, q⟩ := ih h
        exact ⟨u, v, e, p, powP_more h0 k v q⟩
      · exact h
  · intro h
    rw [PowP, catP_cons]
    exact .inr h
theorem powP_one {P : List Int → Prop} (w : List Int) : PowP P 1 w ↔ P w := by
  constructor
  · rintro ⟨u, v, e, p, q⟩
    cases q
    rw [List.append_nil] at e; subst e; exact p
  · intro h; exact ⟨w, [], by simp, h, rfl⟩
theorem lgX_two {xs ys : List Tok} {t : Tok} (hx : isP xs) (hy : isP ys) (ht : okT t = true) (h2 : opN t = 2) (w : List Int) :
    LgX (xs ++ ys ++ [t]) w ↔ (t.kd = 4 ∧ CatP (LgX xs) (LgX ys) w) ∨ (t.kd = 5 ∧ (LgX xs w ∨ LgX ys w)) := by
  obtain ⟨A, ha, rfl⟩ := hx
  obtain ⟨B, hb, rfl⟩ := hy
  have hk : (Tr.node t A B).ok := ⟨ht, .inr (.inr ⟨h2, ha, hb⟩)⟩
  rw [show A.post ++ B.post ++ [t] = (Tr.node t A B).post from rfl, LgX_post hk]
  have ea : LgX A.post = LgT A := by funext w; exact propext (LgX_post ha w)
  have eb : LgX B.post = LgT B := by funext w; exact propext (LgX_post hb w)
  rw [ea, eb]
  have h45 : t.kd = 4 ∨ t.kd = 5 := by unfold opN at h2; split at h2; · assumption
                                       · split at h2 <;> omega
  rcases h45 with e | e <;> simp [LgT, e]
theorem lgX_alone1 {xs : List Tok} (h : alone xs 1 = true) (w : List Int) : ¬ LgX xs w := by
  match xs, h with
  | [t], h =>
    rw [alone_one] at h
    have e : t.kd = 1 := by simpa using h
    rintro ⟨T, ht, hw⟩
    obtain ⟨ho, hp⟩ := treeO_some ht
    cases T with
    | nil => exact ho
    | node s l r =>
      have : s = t := by simp [Tr.post] at hp; have := congrArg List.getLast? hp; simp at this; exact this.symm
      subst this
      simp [LgT, e] at hw
theorem lgX_alone2 {xs : List Tok} (hx : isP xs) (h : alone xs 2 = true) (w : List Int) : LgX xs w ↔ w = [] := by
  match xs, h with
  | [t], h =>
    rw [alone_one] at h
    have e : t.kd = 2 := by simpa using h
    obtain ⟨T, ho, hp⟩ := hx
    rw [hp, LgX_post ho]
    cases T with
    | nil => exact ho.elim
    | node s l r =>
      have : s = t := by simp [Tr.post] at hp; have := congrArg List.getLast? hp; simp at this; exact this.symm
      subst this
      simp [LgT, e]
theorem catP_left_nil {P Q : List Int → Prop} (h : ∀ u, P u ↔ u = []) (w : List Int) : CatP P Q w ↔ Q w := by
  constructor
  · rintro ⟨u, v, e, p, q⟩; rw [(h u).1 p, List.nil_append] at e; subst e; exact q
  · intro q; exact ⟨[], w, rfl, (h []).2 rfl, q⟩
theorem catP_right_nil {P Q : List Int → Prop} (h : ∀ u, Q u ↔ u = []) (w : List Int) : CatP P Q w ↔ P w := by
  constructor
  · rintro ⟨u, v, e, p, q⟩; rw [(h v).1 q, List.append_nil] at e; subst e; exact p
  · intro q; exact ⟨w, [], by simp, q, (h []).2 rfl⟩
/-- The constructors' languages. -/
theorem lg_cat {xs ys : List Tok} (hx : isP xs) (hy : isP ys) (w : List Int) : LgX (catX xs ys) w ↔ CatP (LgX xs) (LgX ys) w := by
  unfold catX
  cases h1 : alone xs 1 with
  | true =>
    refine ⟨fun h => absurd h (lgX_alone1 rfl w), ?_⟩
    rintro ⟨u, v, _, p, _⟩; exact absurd p (lgX_alone1 h1 u)
  | false =>
    cases h2 : alone ys 1 with
    | true =>
      refine ⟨fun h => absurd h (lgX_alone1 rfl w), ?_⟩
      rintro ⟨u, v, _, _, q⟩; exact absurd q (lgX_alone1 h2 v)
    | false =>
      cases h3 : alone xs 2 with
      | true => exact (catP_left_nil (fun u => lgX_alone2 hx h3 u) w).symm
      | false =>
        cases h4 : alone ys 2 with
        | true => exact (catP_right_nil (fun u => lgX_alone2 hy h4 u) w).symm
        | false =>
          have := lgX_two (t := leafK 4) hx hy (by decide) (by decide) w
          simpa [leafK] using this
theorem lg_uni {xs ys : List Tok} (hx : isP xs) (hy : isP ys) (w : List Int) : LgX (uniX xs ys) w ↔ LgX xs w ∨ LgX ys w := by
  unfold uniX
  cases h1 : alone xs 1 with
  | true => exact ⟨fun h => .inr h, fun h => h.elim (fun h => absurd h (lgX_alone1 h1 w)) id⟩
  | false =>
    cases h2 : decide (xs = ys) with
    | true =>
      have e : xs = ys := of_decide_eq_true h2
      subst e
      exact ⟨fun h => .inr h, fun h => h.elim id id⟩
    | false =>
      cases h3 : alone ys 1 with
      | true => exact ⟨fun h => .inl h, fun h => h.elim id (fun h => absurd h (lgX_alone1 h3 w))⟩
      | false =>
        have := lgX_two (t := leafK 5) hx hy (by decide) (by decide) w
        simpa [leafK] using this
theorem lg_rep {xs : List Tok} {lo hi : Int} (hx : isP xs) (h0 : 0 ≤ lo) (h1 : lo ≤ hi) (h3 : hi ≤ 3) (w : List Int) : LgX (repX xs lo hi) w ↔ ∃ k : Nat, lo ≤ (k : Int) ∧ (k : Int) ≤ hi ∧ PowP (LgX xs) k w := by
  unfold repX
  cases ha : (lo == 0 && hi == 0) with
  | true =>
    have e1 : lo = 0 := by simp at ha; exact ha.1
    have e2 : hi = 0 := by simp at ha; exact ha.2
    refine (lgX_alone2 (isP_leaf (.inr rfl)) rfl w).trans ⟨fun h => ⟨0, by omega, by omega, h⟩, ?_⟩
    rintro ⟨k, k1, k2, k3⟩
    obtain rfl : k = 0 := by omega
    exact k3
  | false =>
    cases hb : (lo == 1 && hi == 1) with
    | true =>
      have e1 : lo = 1 := by simp at hb; exact hb.1
      have e2 : hi = 1 := by simp at hb; exact hb.2
      refine ⟨fun h => ⟨1, by omega, by omega, (powP_one w).2 h⟩, ?_⟩
      rintro ⟨k, k1, k2, k3⟩
      obtain rfl : k = 1 := by omega
      exact (powP_one w).1 k3
    | false =>
      have hp := isP_rep hx h0 h1 h3
      unfold repX at hp
      rw [ha, hb] at hp
      obtain ⟨A, hA, rfl⟩ := hx
      have hh : 1 ≤ hi := by
        rcases (by omega : hi = 0 ∨ 1 ≤ hi) with e | e
        · have e2 : lo = 0 := by omega
          subst e; subst e2; cases ha
        · exact e
      have hk : (Tr.node ⟨7, 0, lo, hi⟩ A .nil).ok := by
        refine ⟨?_, .inr (.inl ⟨by simp [opN], hA, rfl⟩)⟩
        unfold okT
        simp only [Bool.or_eq_true, Bool.and_eq_true, decide_eq_true_eq]
        exact .inr ⟨trivial, trivial, h0, h1, hh, h3⟩
      have ea : LgX A.post = LgT A := by funext w; exact propext (LgX_post hA w)
      have e : A.post ++ [(⟨7, 0, lo, hi⟩ : Tok)] = (Tr.node ⟨7, 0, lo, hi⟩ A .nil).post := by simp [Tr.post]
      simp only [cond_false]
      rw [e, LgX_post hk, ea]
      simp [LgT]
/-- The language of the derivative. -/
theorem lg_der (c : Int) {T : Tr} (h : T.ok) (w : List Int) : LgX (derT c T) w ↔ LgT T (c :: w) := by
  induction T generalizing w with
  | nil => exact h.elim
  | node t l r hl hr =>
    have h' := h
    obtain ⟨ht, hc⟩ := h
    obtain ⟨k1, k7⟩ := okT_kd ht
    have n1 : ∀ w, ¬ LgX [leafK 1] w := fun w => lgX_alone1 rfl w
    unfold derT LgT
    rcases (by omega : t.kd = 1 ∨ t.kd = 2 ∨ t.kd = 3 ∨ t.kd = 4 ∨ t.kd = 5 ∨ t.kd = 6 ∨ t.kd = 7) with e | e | e | e | e | e | e
    · simp [e, n1]
    · simp [e, n1]
    · simp only [e]
      by_cases hq : t.lr = c
      · have := lgX_alone2 (isP_leaf (k := 2) (.inr rfl)) rfl w
        simp [hq, this]
      · have hq2 : ¬ c = t.lr := fun h => hq h.symm
        simp [hq, hq2, n1]
    · have h2 : opN t = 2 := by unfold opN; rw [if_pos (.inl e)]
      rcases hc with ⟨h0, _⟩ | ⟨h1, _⟩ | ⟨_, hlo, hro⟩
      · omega
      · omega
      · have ec := lg_cat (isP_der c hlo) ⟨r, hro, rfl⟩ w
        have ea : LgX (derT c l) = fun u => LgT l (c :: u) := by funext u; exact propext (hl hlo u)
        have eb : LgX r.post = LgT r := by funext u; exact propext (LgX_post hro u)
        rw [ea, eb] at ec
        simp [e]
        rw [catP_cons, lg_nil hlo]
        cases hn : nulT l with
        | true =>
          simp
          rw [lg_uni (isP_cat (isP_der c hlo) ⟨r, hro, rfl⟩) (isP_der c hro), ec, hr hro]
          exact Or.comm
        | false => simp [ec]
    · have h2 : opN t = 2 := by unfold opN; rw [if_pos (.inr e)]
      rcases hc with ⟨h0, _⟩ | ⟨h1, _⟩ | ⟨_, hlo, hro⟩
      · omega
      · omega
      · simp [e]
        rw [lg_uni (isP_der c hlo) (isP_der c hro), hl hlo, hr hro]
    · have h1' : opN t = 1 := by unfold opN; rw [if_neg (by omega), if_pos (.inl e)]
      rcases hc with ⟨h0, _⟩ | ⟨h1, hlo, rfl⟩ | ⟨h2, _⟩
      · omega
      · have ec := lg_cat (isP_der c hlo) ⟨_, h', rfl⟩ w
        have ea : LgX (derT c l) = fun u => LgT l (c :: u) := by funext u; exact propext (hl hlo u)
        have eb : LgX (Tr.node t l .nil).post = fun u => ∃ k, PowP (LgT l) k u := by funext u; exact propext ((LgX_post h' u).trans (by simp [LgT, e]))
        rw [ea, eb] at ec
        simp [e]
        rw [ec]
        constructor
        · rintro ⟨u, v, e1, p, k, q⟩
          exact ⟨k + 1, (powP_cons k w).2 ⟨u, v, e1, p, q⟩⟩
        · rintro ⟨k, hk⟩
          cases k with
          | zero => cases hk
          | succ k =>
            obtain ⟨u, v, e1, p, q⟩ := (powP_cons k w).1 hk
            exact ⟨u, v, e1, p, k, q⟩
      · omega
    · have h1' : opN t = 1 := by unfold opN; rw [if_neg (by omega), if_pos (.inr e)]
      rcases hc with ⟨h0, _⟩ | ⟨h1, hlo, rfl⟩ | ⟨h2, _⟩
      · omega
      · obtain ⟨a, b, d, f⟩ := okT_repD ht e
        have hp : isP (repX l.post (max 0 (t.lo - 1)) (t.hi - 1)) := isP_rep ⟨l, hlo, rfl⟩ (by omega) (by omega) (by omega)
        have ec := lg_cat (isP_der c hlo) hp w
        have ea : LgX (derT c l) = fun u => LgT l (c :: u) := by funext u; exact propext (hl hlo u)
        have el : LgX l.post = LgT l := by funext u; exact propext (LgX_post hlo u)
        have eb : LgX (repX l.post (max 0 (t.lo - 1)) (t.hi - 1)) = fun u => ∃ k : Nat, max 0 (t.lo - 1) ≤ (k : Int) ∧ (k : Int) ≤ t.hi - 1 ∧ PowP (LgT l) k u := by
          funext u
          refine propext ((lg_rep ⟨l, hlo, rfl⟩ (by omega) (by omega) (by omega) u).trans ?_)
          rw [el]
        rw [ea, eb] at ec
        simp [e]
        rw [ec]
        constructor
        · rintro ⟨u, v, e1, p, k, q1, q2, q⟩
          exact ⟨k + 1, by omega, by omega, (powP_cons k w).2 ⟨u, v, e1, p, q⟩⟩
        · rintro ⟨k, q1, q2, hk⟩
          cases k with
          | zero => cases hk
          | succ k =>
            obtain ⟨u, v, e1, p, q⟩ := (powP_cons k w).1 hk
            exact ⟨u, v, e1, p, k, by omega, by omega, q⟩
      · omega
end Go.Proofs.YtblmiocjhbpklaaDoor

/- Matching by tables, as the model does it, against the language of an expression. No program in it. -/
namespace Go.Proofs.YtblmiocjhbpklaaDoor
set_option maxRecDepth 100000
open Go.ChangeShapes Go.WideShapes Go.ChangeAt Go.RowKit
set_option linter.unusedVariables false
set_option linter.unusedSimpArgs false

def subL (w : List Int) (i j : Nat) : List Int := (w.drop i).take (j - i)
def sameG (i j : Nat) : Bool := i == j
def joinG (a b : Nat → Nat → Bool) (i j : Nat) : Bool := (List.range (j + 1)).any fun k => decide (i ≤ k) && a i k && b k j
def powG (a : Nat → Nat → Bool) : Nat → Nat → Nat → Bool
  | 0 => sameG
  | k + 1 => joinG (powG a k) a
def repG (a : Nat → Nat → Bool) (lo hi i j : Nat) : Bool := (List.range (hi + 1)).any fun k => decide (lo ≤ k) && powG a k i j
/-- The table of a tree over a word: does the tree take the letters from i on up to j. -/
def gT (w : List Int) : Tr → Nat → Nat → Bool
  | .nil, _, _ => false
  | .node t l r, i, j => if t.kd = 2 then sameG i j else if t.kd = 3 then (j == i + 1) && (w[i]? == some t.lr) else if t.kd = 4 then joinG (gT w l) (gT w r) i j else if t.kd = 5 then gT w l i j || gT w r i j
    else if t.kd = 6 then repG (gT w l) 0 w.length i j else if t.kd = 7 then repG (gT w l) t.lo.toNat t.hi.toNat i j else false
theorem subL_len (w : List Int) {i j : Nat} (h : i ≤ j) (hj : j ≤ w.length) : (subL w i j).length = j - i := by
  unfold subL; rw [List.length_take, List.length_drop]; omega
theorem subL_self (w : List Int) (i : Nat) : subL w i i = [] := by unfold subL; simp
theorem subL_app (w : List Int) {i k j : Nat} (h1 : i ≤ k) (h2 : k ≤ j) : subL w i k ++ subL w k j = subL w i j := by
  unfold subL
  have e : w.drop k = (w.drop i).drop (k - i) := by rw [List.drop_drop]; congr 1; omega
  have e2 : j - i = (k - i) + (j - k) := by omega
  rw [e, e2, List.take_add]
theorem joinG_iff {a b : Nat → Nat → Bool} {i j : Nat} : joinG a b i j = true ↔ ∃ k, i ≤ k ∧ k ≤ j ∧ a i k = true ∧ b k j = true := by
  unfold joinG
  simp only [List.any_eq_true, List.mem_range, Bool.and_eq_true, decide_eq_true_eq]
  constructor
  · rintro ⟨k, h, ⟨h1, h2⟩, h3⟩; exact ⟨k, h1, by omega, h2, h3⟩
  · rintro ⟨k, h1, h2, h3, h4⟩; exact ⟨k, by omega, ⟨h1, h3⟩, h4⟩
theorem catP_sub {P Q : List Int → Prop} (w : List Int) {i j : Nat} (h : i ≤ j) (hj : j ≤ w.length) : CatP P Q (subL w i j) ↔ ∃ k, i ≤ k ∧ k ≤ j ∧ P (subL w i k) ∧ Q (subL w k j) := by
  constructor
  · rintro ⟨u, v, e, p, q⟩
    have hl : u.length + v.length = j - i := by rw [← List.length_append, ← e, subL_len w h hj]
    have hk := subL_app w (i := i) (k := i + u.length) (j := j) (by omega) (by omega)
    rw [e] at hk
    have l1 : (subL w i (i + u.length)).length = u.length := by rw [subL_len w (by omega) (by omega)]; omega
    obtain ⟨e1, e2⟩ := List.append_inj hk l1
    exact ⟨i + u.length, by omega, by omega, by rw [e1]; exact p, by rw [e2]; exact q⟩
  · rintro ⟨k, h1, h2, p, q⟩
    exact ⟨_, _, (subL_app w h1 h2).symm, p, q⟩
theorem powP_comm {P : List Int → Prop} (k : Nat) (w : List Int) : PowP P (k + 1) w ↔ CatP (PowP P k) P w := by
  induction k generalizing w with
  | zero =>
    constructor
    · intro h; exact ⟨[], w, rfl, rfl, (powP_one w).1 h⟩
    · rintro ⟨u, v, e, p, q⟩
      cases p
      rw [List.nil_append] at e; subst e; exact (powP_one w).2 q
  | succ k ih =>
    constructor
    · rintro ⟨u, v, e, p, q⟩
      obtain ⟨u2, v2, e2, p2, q2⟩ := (ih v).1 q
      exact ⟨u ++ u2, v2, by rw [e, e2, List.append_assoc], ⟨u, u2, rfl, p, p2⟩, q2⟩
    · rintro ⟨u, v, e, ⟨u1, u2, e1, p1, q1⟩, q⟩
      exact ⟨u1, u2 ++ v, by rw [e, e1, List.append_assoc], p1, (ih _).2 ⟨u2, v, rfl, q1, q⟩⟩
theorem powG_iff {a : Nat → Nat → Bool} {P : List Int → Prop} (w : List Int) (h : ∀ i j, i ≤ j → j ≤ w.length → (a i j = true ↔ P (subL w i j))) (k : Nat) :
    ∀ i j, i ≤ j → j ≤ w.length → (powG a k i j = true ↔ PowP P k (subL w i j)) := by
  induction k with
  | zero =>
    intro i j hi hj
    unfold powG sameG PowP
    rw [beq_iff_eq]
    constructor
    · rintro rfl; exact subL_self w i
    · intro e
      have := subL_len w hi hj
      rw [e] at this
      simp at this
      omega
  | succ k ih =>
    intro i j hi hj
    rw [powP_comm, catP_sub w hi hj]
    show joinG (powG a k) a i j = true ↔ _
    rw [joinG_iff]
    constructor
    · rintro ⟨m, h1, h2, h3, h4⟩; exact ⟨m, h1, h2, (ih i m h1 (by omega)).1 h3, (h m j h2 hj).1 h4⟩
    · rintro ⟨m, h1, h2, h3, h4⟩; exact ⟨m, h1, h2, (ih i m h1 (by omega)).2 h3, (h m j h2 hj).2 h4⟩
/-- No more parts than letters are wanted. -/
theorem powP_short {P : List Int → Prop} (k : Nat) (w : List Int) (h : PowP P k w) : ∃ m, m ≤ w.length ∧ m ≤ k ∧ PowP P m w := by
  induction k generalizing w with
  | zero => exact ⟨0, Nat.zero_le _, Nat.le_refl _, h⟩
  | succ k ih =>
    obtain ⟨u, v, e, p, q⟩ := h
    obtain ⟨m, m1, m2, m3⟩ := ih v q
    cases u with
    | nil =>
      rw [List.nil_append] at e; subst e
      exact ⟨m, m1, by omega, m3⟩
    | cons c u =>
      refine ⟨m + 1, ?_, by omega, ⟨c :: u, v, e, p, m3⟩⟩
      rw [e]; simp; omega
theorem repG_iff {a : Nat → Nat → Bool} {lo hi i j : Nat} : repG a lo hi i j = true ↔ ∃ k, lo ≤ k ∧ k ≤ hi ∧ powG a k i j = true := by
  unfold repG
  simp only [List.any_eq_true, List.mem_range, Bool.and_eq_true, decide_eq_true_eq]
  constructor
  · rintro ⟨k, h, h1, h2⟩; exact ⟨k, h1, by omega, h2⟩
  · rintro ⟨k, h1, h2, h3⟩; exact ⟨k, by omega, h1, h3⟩
/-- The tables tell the language. -/
theorem gT_iff (w : List Int) {T : Tr} (h : T.ok) : ∀ i j, i ≤ j → j ≤ w.length → (gT w T i j = true ↔ LgT T (subL w i j)) := by
  induction T with
  | nil => exact h.elim
  | node t l r hl hr =>
    obtain ⟨ht, hc⟩ := h
    obtain ⟨k1, k7⟩ := okT_kd ht
    intro i j hi hj
    have hlen := subL_len w hi hj
    unfold gT LgT
    rcases (by omega : t.kd = 1 ∨ t.kd = 2 ∨ t.kd = 3 ∨ t.kd = 4 ∨ t.kd = 5 ∨ t.kd = 6 ∨ t.kd = 7) with e | e | e | e | e | e | e
    · simp [e]
    · simp only [e]
      simp [sameG]
      constructor
      · rintro rfl; exact subL_self w i
      · intro h0; rw [h0] at hlen; simp at hlen; omega
    · simp only [e]
      simp
      constructor
      · rintro ⟨rfl, hw⟩
        unfold subL
        have hi2 : i < w.length := by omega
        rw [List.getElem?_eq_getElem hi2] at hw
        injection hw with hw
        rw [List.drop_eq_getElem_cons hi2, show i + 1 - i = 1 from by omega, hw]
        rfl
      · intro h0
        rw [h0] at hlen
        have hj2 : j = i + 1 := by simp at hlen; omega
        subst hj2
        refine ⟨rfl, ?_⟩
        have hi2 : i < w.length := by omega
        unfold subL at h0
        rw [List.drop_eq_getElem_cons hi2, show i + 1 - i = 1 from by omega] at h0
        injection h0 with h0
        rw [List.getElem?_eq_getElem hi2, h0]
    · have h2 : opN t = 2 := by unfold opN; rw [if_pos (.inl e)]
      rcases hc with ⟨h0, _⟩ | ⟨h1, _⟩ | ⟨_, hlo, hro⟩
      · omega
      · omega
      · simp [e]
        rw [joinG_iff, catP_sub w hi hj]
        constructor
        · rintro ⟨k, q1, q2, q3, q4⟩; exact ⟨k, q1, q2, (hl hlo i k q1 (by omega)).1 q3, (hr hro k j q2 hj).1 q4⟩
        · rintro ⟨k, q1, q2, q3, q4⟩; exact ⟨k, q1, q2, (hl hlo i k q1 (by omega)).2 q3, (hr hro k j q2 hj).2 q4⟩
    · have h2 : opN t = 2 := by unfold opN; rw [if_pos (.inr e)]
      rcases hc with ⟨h0, _⟩ | ⟨h1, _⟩ | ⟨_, hlo, hro⟩
      · omega
      · omega
      · simp [e]
        rw [hl hlo i j hi hj, hr hro i j hi hj]
    · have h1' : opN t = 1 := by unfold opN; rw [if_neg (by omega), if_pos (.inl e)]
      rcases hc with ⟨h0, _⟩ | ⟨h1, hlo, rfl⟩ | ⟨h2, _⟩
      · omega
      · simp [e]
        rw [repG_iff]
        have pw := fun k => powG_iff w (hl hlo) k i j hi hj
        constructor
        · rintro ⟨k, _, _, q⟩; exact ⟨k, (pw k).1 q⟩
        · rintro ⟨k, q⟩
          obtain ⟨m, m1, _, m3⟩ := powP_short k _ q
          exact ⟨m, Nat.zero_le _, by omega, (pw m).2 m3⟩
      · omega
    · have h1' : opN t = 1 := by unfold opN; rw [if_neg (by omega), if_pos (.inr e)]
      rcases hc with ⟨h0, _⟩ | ⟨h1, hlo, rfl⟩ | ⟨h2, _⟩
      · omega
      · obtain ⟨a, b, d, f⟩ := okT_repD ht e
        simp [e]
        rw [repG_iff]
        have pw := fun k => powG_iff w (hl hlo) k i j hi hj
        constructor
        · rintro ⟨k, q1, q2, q⟩; exact ⟨k, by omega, by omega, (pw k).1 q⟩
        · rintro ⟨k, q1, q2, q⟩; exact ⟨k, by omega, by omega, (pw k).2 q⟩
      · omega
theorem subL_all (w : List Int) : subL w 0 w.length = w := by unfold subL; simp
/-- A word is taken if and only if the table says so. -/
theorem gT_word (w : List Int) {T : Tr} (h : T.ok) : gT w T 0 w.length = true ↔ LgT T w := by
  rw [gT_iff w h 0 w.length (Nat.zero_le _) (Nat.le_refl _), subL_all]
end Go.Proofs.YtblmiocjhbpklaaDoor

/- Matching by sets of places, as the program does it: sets as numbers, bit by bit; they say what the tables say. No program in it. -/
namespace Go.Proofs.YtblmiocjhbpklaaDoor
set_option maxRecDepth 100000
open Go.ChangeShapes Go.WideShapes Go.ChangeAt Go.RowKit
set_option linter.unusedVariables false
set_option linter.unusedSimpArgs false

/-- The places behind all words that begin in a place of the set, the first k places alone. -/
def allE (f : Nat → Nat) (S : Nat) : Nat → Nat
  | 0 => 0
  | k + 1 => if S.testBit k = true then allE f S k ||| f k else allE f S k
/-- The places behind k words. -/
def rchE (f : Nat → Nat) (n i : Nat) : Nat → Nat
  | 0 => 2 ^ i
  | k + 1 => allE f (rchE f n i k) (n + 1)
/-- The places behind lo to k - 1 words. -/
def setE (f : Nat → Nat) (n lo i : Nat) : Nat → Nat
  | 0 => 0
  | k + 1 => if lo ≤ k then setE f n lo i k ||| rchE f n i k else setE f n lo i k
/-- The places at which the words of a tree end that begin at a place of the word. -/
def endT (w : List Int) : Tr → Nat → Nat
  | .nil, _ => 0
  | .node t l r, i => if t.kd = 2 then 2 ^ i else if t.kd = 3 then (if w[i]? = some t.lr then 2 ^ (i + 1) else 0) else if t.kd = 4 then allE (endT w r) (endT w l i) (w.length + 1) else if t.kd = 5 then endT w l i ||| endT w r i
    else if t.kd = 6 then setE (endT w l) w.length 0 i (w.length + 1) else if t.kd = 7 then setE (endT w l) w.length t.lo.toNat i (t.hi.toNat + 1) else 0
theorem allE_succ (f : Nat → Nat) (S k : Nat) : allE f S (k + 1) = if S.testBit k = true then allE f S k ||| f k else allE f S k := rfl
theorem setE_succ (f : Nat → Nat) (n lo i k : Nat) : setE f n lo i (k + 1) = if lo ≤ k then setE f n lo i k ||| rchE f n i k else setE f n lo i k := rfl
theorem allE_bits (f : Nat → Nat) (S k j : Nat) : (allE f S k).testBit j = (List.range k).any fun s => S.testBit s && (f s).testBit j := by
  induction k with
  | zero => simp [allE]
  | succ k ih =>
    rw [List.range_succ, List.any_append, ← ih, allE_succ]
    split
    · rename_i h; simp [h, Nat.testBit_or]
    · rename_i h; simp [h]
theorem allE_congr {f g : Nat → Nat} (S k : Nat) (h : ∀ s, s < k → f s = g s) : allE f S k = allE g S k := by
  induction k with
  | zero => rfl
  | succ k ih =>
    rw [allE_succ, allE_succ, ih (fun s hs => h s (by omega)), h k (by omega)]
theorem allE_join {f : Nat → Nat} {a b : Nat → Nat → Bool} {n i S : Nat} (hf : ∀ s, s ≤ n → ∀ j, (f s).testBit j = (decide (s ≤ j ∧ j ≤ n) && a s j)) (hS : ∀ s, S.testBit s = (decide (i ≤ s ∧ s ≤ n) && b i s)) (j : Nat) :
    (allE f S (n + 1)).testBit j = (decide (i ≤ j ∧ j ≤ n) && joinG b a i j) := by
  rw [allE_bits, Bool.eq_iff_iff]
  simp only [List.any_eq_true, List.mem_range, Bool.and_eq_true, decide_eq_true_eq, joinG_iff]
  constructor
  · rintro ⟨s, hs, h1, h2⟩
    rw [hS] at h1
    rw [hf s (by omega)] at h2
    simp only [Bool.and_eq_true, decide_eq_true_eq] at h1 h2
    exact ⟨by omega, s, h1.1.1, h2.1.1, h1.2, h2.2⟩
  · rintro ⟨hj, s, h1, h2, h3, h4⟩
    refine ⟨s, by omega, ?_, ?_⟩
    · rw [hS]; simp only [Bool.and_eq_true, decide_eq_true_eq]; exact ⟨by omega, h3⟩
    · rw [hf s (by omega)]; simp only [Bool.and_eq_true, decide_eq_true_eq]; exact ⟨by omega, h4⟩
theorem rchE_bits {f : Nat → Nat} {a : Nat → Nat → Bool} {n i : Nat} (hi : i ≤ n) (hf : ∀ s, s ≤ n → ∀ j, (f s).testBit j = (decide (s ≤ j ∧ j ≤ n) && a s j)) (k j : Nat) :
    (rchE f n i k).testBit j = (decide (i ≤ j ∧ j ≤ n) && powG a k i j) := by
  induction k generalizing j with
  | zero =>
    unfold rchE powG sameG
    rw [Nat.testBit_two_pow, Bool.eq_iff_iff]
    simp only [decide_eq_true_eq, Bool.and_eq_true, beq_iff_eq]
    omega
  | succ k ih => exact allE_join hf ih j
theorem setE_bits {f : Nat → Nat} {a : Nat → Nat → Bool} {n i lo : Nat} (hi : i ≤ n) (hf : ∀ s, s ≤ n → ∀ j, (f s).testBit j = (decide (s ≤ j ∧ j ≤ n) && a s j)) (k j : Nat) :
    (setE f n lo i k).testBit j = (decide (i ≤ j ∧ j ≤ n) && (List.range k).any fun k => decide (lo ≤ k) && powG a k i j) := by
  induction k with
  | zero => simp [setE]
  | succ k ih =>
    rw [List.range_succ, List.any_append, setE_succ]
    split
    · rename_i h
      rw [Nat.testBit_or, ih, rchE_bits hi hf]
      simp [h, Bool.and_or_distrib_left]
    · rename_i h
      rw [ih]; simp [h]
theorem endT_bits (w : List Int) {T : Tr} (h : T.ok) : ∀ i, i ≤ w.length → ∀ j, (endT w T i).testBit j = (decide (i ≤ j ∧ j ≤ w.length) && gT w T i j) := by
  induction T with
  | nil => exact h.elim
  | node t l r hl hr =>
    intro i hi j
    obtain ⟨ht, hc⟩ := h
    have hk := okT_kd ht
    unfold endT gT
    by_cases h2 : t.kd = 2
    · rw [if_pos h2, if_pos h2, Nat.testBit_two_pow, Bool.eq_iff_iff]
      unfold sameG
      simp only [decide_eq_true_eq, Bool.and_eq_true, beq_iff_eq]
      omega
    rw [if_neg h2, if_neg h2]
    by_cases h3 : t.kd = 3
    · rw [if_pos h3, if_pos h3]
      by_cases hw : w[i]? = some t.lr
      · have hlt : i < w.length := by
          rcases Nat.lt_or_ge i w.length with h | h
          · exact h
          · rw [List.getElem?_eq_none h] at hw; cases hw
        rw [if_pos hw, Nat.testBit_two_pow, Bool.eq_iff_iff]
        simp only [decide_eq_true_eq, Bool.and_eq_true, beq_iff_eq]
        constructor
        · intro e; exact ⟨by omega, by omega, hw⟩
        · rintro ⟨_, e, _⟩; omega
      · rw [if_neg hw]
        simp [hw]
    rw [if_neg h3, if_neg h3]
    by_cases h4 : t.kd = 4
    · rw [if_pos h4, if_pos h4]
      have e : opN t = 2 := by unfold opN; rw [if_pos (.inl h4)]
      rcases hc with ⟨h0, _⟩ | ⟨h1, _⟩ | ⟨_, hlo, hro⟩
      · omega
      · omega
      exact allE_join (hr hro) (hl hlo i hi) j
    rw [if_neg h4, if_neg h4]
    by_cases h5 : t.kd = 5
    · rw [if_pos h5, if_pos h5]
      have e : opN t = 2 := by unfold opN; rw [if_pos (.inr h5)]
      rcases hc with ⟨h0, _⟩ | ⟨h1, _⟩ | ⟨_, hlo, hro⟩
      · omega
      · omega
      rw [Nat.testBit_or, hl hlo i hi, hr hro i hi, Bool.and_or_distrib_left]
    rw [if_neg h5, if_neg h5]
    by_cases h6 : t.kd = 6
    · rw [if_pos h6, if_pos h6]
      have e : opN t = 1 := by unfold opN; rw [if_neg (by omega), if_pos (.inl h6)]
      rcases hc with ⟨h0, _⟩ | ⟨_, hlo, _⟩ | ⟨h2, _⟩
      · omega
      · exact setE_bits hi (hl hlo) (w.length + 1) j
      · omega
    rw [if_neg h6, if_neg h6]
    by_cases h7 : t.kd = 7
    · rw [if_pos h7, if_pos h7]
      have e : opN t = 1 := by unfold opN; rw [if_neg (by omega), if_pos (.inr h7)]
      rcases hc with ⟨h0, _⟩ | ⟨_, hlo, _⟩ | ⟨h2, _⟩
      · omega
      · exact setE_bits hi (hl hlo) (t.hi.toNat + 1) j
      · omega
    rw [if_neg h7, if_neg h7]
    simp
theorem lt_of_bits {x n : Nat} {a : Nat → Bool} {i : Nat} (h : ∀ j, x.testBit j = (decide (i ≤ j ∧ j ≤ n) && a j)) : x < 2 ^ (n + 1) := by
  refine Nat.lt_pow_two_of_testBit _ fun j hj => ?_
  rw [h]
  have : ¬ (i ≤ j ∧ j ≤ n) := by omega
  simp [this]
theorem endT_lt (w : List Int) {T : Tr} (h : T.ok) {i : Nat} (hi : i ≤ w.length) : endT w T i < 2 ^ (w.length + 1) := lt_of_bits (endT_bits w h i hi)
theorem allE_lt {f : Nat → Nat} {S N k : Nat} (h : ∀ s, s < k → f s < 2 ^ N) : allE f S k < 2 ^ N := by
  induction k with
  | zero => exact Nat.two_pow_pos _
  | succ k ih =>
    rw [allE_succ]
    split
    · exact Nat.or_lt_two_pow (ih fun s hs => h s (by omega)) (h k (by omega))
    · exact ih fun s hs => h s (by omega)
theorem rchE_lt {f : Nat → Nat} {n i : Nat} (hi : i ≤ n) (h : ∀ s, s ≤ n → f s < 2 ^ (n + 1)) (k : Nat) : rchE f n i k < 2 ^ (n + 1) := by
  cases k with
  | zero => exact Nat.pow_lt_pow_right (by decide) (by omega)
  | succ k => exact allE_lt fun s hs => h s (by omega)
theorem setE_lt {f : Nat → Nat} {n i lo : Nat} (hi : i ≤ n) (h : ∀ s, s ≤ n → f s < 2 ^ (n + 1)) (k : Nat) : setE f n lo i k < 2 ^ (n + 1) := by
  induction k with
  | zero => exact Nat.two_pow_pos _
  | succ k ih =>
    rw [setE_succ]
    split
    · exact Nat.or_lt_two_pow ih (rchE_lt hi h k)
    · exact ih
/-- What MatchesWord answers about a tree. -/
theorem endT_all (w : List Int) {T : Tr} (h : T.ok) : (endT w T 0).testBit w.length = gT w T 0 w.length := by
  rw [endT_bits w h 0 (Nat.zero_le _)]; simp
end Go.Proofs.YtblmiocjhbpklaaDoor

/- Derivatives by words, letters that do not occur, stars: what the great laws of chapter 9 ask. No program in it. -/
namespace Go.Proofs.YtblmiocjhbpklaaDoor
set_option maxRecDepth 100000
open Go.ChangeShapes Go.WideShapes Go.ChangeAt Go.RowKit
set_option linter.unusedVariables false
set_option linter.unusedSimpArgs false

theorem derX_lg {xs : List Tok} {c : Int} (h : (derX xs c).2 = true) (w : List Int) : LgX (derX xs c).1 w ↔ LgX xs (c :: w) := by
  unfold derX at h ⊢
  cases ht : treeO xs with
  | none => rw [ht] at h; cases h
  | some T =>
    rw [ht] at h
    simp only at h ⊢
    split at h
    · rename_i hc
      rw [if_pos hc]
      simp only
      rw [lg_der c (treeO_some ht).1 w]
      unfold LgX
      rw [ht]
      exact ⟨fun k => ⟨T, rfl, k⟩, fun ⟨S, e, k⟩ => by injection e with e; subst e; exact k⟩
    · cases h
theorem nulX_lg {xs : List Tok} (h : isXB xs = true) : nulX xs = true ↔ LgX xs [] := by
  unfold isXB at h
  cases ht : treeO xs with
  | none => rw [ht] at h; cases h
  | some T =>
    unfold nulX LgX
    rw [ht]
    simp only
    rw [← lg_nil (treeO_some ht).1]
    exact ⟨fun k => ⟨T, rfl, k⟩, fun ⟨S, e, k⟩ => by injection e with e; subst e; exact k⟩
theorem derWL_lg (w : List Int) : ∀ {xs : List Tok}, isXB xs = true → (derWL xs w).2 = true → isXB (derWL xs w).1 = true ∧ ∀ u, LgX (derWL xs w).1 u ↔ LgX xs (w ++ u) := by
  induction w with
  | nil => intro xs hx _; exact ⟨hx, fun u => Iff.rfl⟩
  | cons c w ih =>
    intro xs hx h
    unfold derWL at h ⊢
    split at h
    · rename_i hd
      rw [if_pos hd]
      obtain ⟨k1, k2⟩ := ih (derX_ok hd).1 h
      exact ⟨k1, fun u => (k2 u).trans (derX_lg hd (w ++ u))⟩
    · cases h
/-- A word is taken if and only if the derivative by it takes the empty word. -/
theorem derW_nul {xs : List Tok} {w : List Int} (h : (derW xs w).2 = true) : nulX (derW xs w).1 = true ↔ LgX xs w := by
  unfold derW at h ⊢
  split at h
  · rename_i hc
    rw [if_pos hc]
    obtain ⟨k1, k2⟩ := derWL_lg w hc.1 h
    rw [nulX_lg k1, k2 [], List.append_nil]
  · cases h
/-- The derivative by a letter that does not occur. -/
theorem derT_none (c : Int) {T : Tr} (h : T.ok) (hn : ∀ t ∈ T.post, t.kd = 3 → t.lr ≠ c) : derT c T = [leafK 1] := by
  have cat1 : ∀ ys, catX [leafK 1] ys = [leafK 1] := fun ys => by unfold catX; rw [show alone [leafK 1] 1 = true from rfl]; rfl
  have uni1 : uniX [leafK 1] [leafK 1] = [leafK 1] := by unfold uniX; rw [show alone [leafK 1] 1 = true from rfl]; rfl
  induction T with
  | nil => exact h.elim
  | node t l r hl hr =>
    obtain ⟨ht, hc⟩ := h
    have ml : ∀ x ∈ l.post, x ∈ (Tr.node t l r).post := fun x hx => by simp [Tr.post, hx]
    have mr : ∀ x ∈ r.post, x ∈ (Tr.node t l r).post := fun x hx => by simp [Tr.post, hx]
    have mt : t ∈ (Tr.node t l r).post := by simp [Tr.post]
    have nl : ∀ x ∈ l.post, x.kd = 3 → x.lr ≠ c := fun x hx => hn x (ml x hx)
    have nr : ∀ x ∈ r.post, x.kd = 3 → x.lr ≠ c := fun x hx => hn x (mr x hx)
    have h0 : opN t = if t.kd = 4 ∨ t.kd = 5 then 2 else if t.kd = 6 ∨ t.kd = 7 then 1 else 0 := rfl
    unfold derT
    by_cases e3 : t.kd = 3
    · rw [if_pos e3, if_neg (hn t mt e3)]
    rw [if_neg e3]
    by_cases e4 : t.kd = 4
    · have h2 : opN t = 2 := by rw [h0, if_pos (.inl e4)]
      rw [if_pos e4]
      rcases hc with ⟨g0, _⟩ | ⟨g1, _⟩ | ⟨_, hlo, hro⟩
      · omega
      · omega
      · rw [hl hlo nl, hr hro nr, cat1, uni1, ite_self]
    rw [if_neg e4]
    by_cases e5 : t.kd = 5
    · have h2 : opN t = 2 := by rw [h0, if_pos (.inr e5)]
      rw [if_pos e5]
      rcases hc with ⟨g0, _⟩ | ⟨g1, _⟩ | ⟨_, hlo, hro⟩
      · omega
      · omega
      · rw [hl hlo nl, hr hro nr, uni1]
    rw [if_neg e5]
    by_cases e6 : t.kd = 6
    · have h2 : opN t = 1 := by rw [h0, if_neg (by omega), if_pos (.inl e6)]
      rw [if_pos e6]
      rcases hc with ⟨g0, _⟩ | ⟨_, hlo, _⟩ | ⟨g2, _⟩
      · omega
      · rw [hl hlo nl, cat1]
      · omega
    rw [if_neg e6]
    by_cases e7 : t.kd = 7
    · have h2 : opN t = 1 := by rw [h0, if_neg (by omega), if_pos (.inr e7)]
      rw [if_pos e7]
      rcases hc with ⟨g0, _⟩ | ⟨_, hlo, _⟩ | ⟨g2, _⟩
      · omega
      · rw [hl hlo nl, cat1]
      · omega
    rw [if_neg e7]
/-- The language of a star. -/
theorem powP_all {P : List Int → Prop} {k : Nat} (Q : List Int → Prop) (h0 : Q []) (h1 : ∀ u v, P u → Q v → Q (u ++ v)) : ∀ w, PowP P k w → Q w := by
  induction k with
  | zero => intro w h; cases h; exact h0
  | succ k ih => rintro w ⟨u, v, e, p, q⟩; rw [e]; exact h1 u v p (ih v q)
theorem powP_add {P : List Int → Prop} (k m : Nat) (u v : List Int) (h : PowP P k u) (g : PowP P m v) : PowP P (k + m) (u ++ v) := by
  induction k generalizing u with
  | zero => cases h; simpa using g
  | succ k ih =>
    obtain ⟨a, b, e, p, q⟩ := h
    rw [show k + 1 + m = (k + m) + 1 from by omega]
    exact ⟨a, b ++ v, by rw [e, List.append_assoc], p, ih b q⟩
theorem lg_star {xs : List Tok} (hx : isP xs) (w : List Int) : LgX (starX xs) w ↔ ∃ k, PowP (LgX xs) k w := by
  have two : ∀ w, LgX [leafK 2] w ↔ w = [] := fun w => lgX_alone2 (isP_leaf (.inr rfl)) rfl w
  unfold starX
  cases h1 : alone xs 1 with
  | true =>
    refine (two w).trans ⟨fun e => ⟨0, e⟩, ?_⟩
    rintro ⟨k, hk⟩
    cases k with
    | zero => exact hk
    | succ k => obtain ⟨u, v, _, p, _⟩ := hk; exact absurd p (lgX_alone1 h1 u)
  | false =>
    cases h2 : alone xs 2 with
    | true =>
      refine (two w).trans ⟨fun e => ⟨0, e⟩, ?_⟩
      rintro ⟨k, hk⟩
      exact powP_all (fun w => w = []) rfl (fun u v p q => by rw [(lgX_alone2 hx h2 u).1 p, q]; rfl) w hk
    | false =>
      obtain ⟨A, hA, rfl⟩ := hx
      have ea : LgX A.post = LgT A := by funext u; exact propext (LgX_post hA u)
      cases h3 : lastB A.post 6 with
      | true =>
        show LgX A.post w ↔ _
        rw [ea]
        cases A with
        | nil => exact hA.elim
        | node t l r =>
          have e6 : t.kd = 6 := by simpa [lastB, Tr.post] using h3
          have el : ∀ u, LgT (.node t l r) u ↔ ∃ k, PowP (LgT l) k u := fun u => by simp [LgT, e6]
          constructor
          · intro h; exact ⟨1, (powP_one w).2 h⟩
          · rintro ⟨k, hk⟩
            refine powP_all (fun w => LgT (.node t l r) w) ((el []).2 ⟨0, rfl⟩) (fun u v p q => ?_) w hk
            obtain ⟨a, ha⟩ := (el u).1 p
            obtain ⟨b, hb⟩ := (el v).1 q
            exact (el _).2 ⟨a + b, powP_add a b u v ha hb⟩
      | false =>
        have hk : (Tr.node (leafK 6) A .nil).ok := ⟨by decide, .inr (.inl ⟨by decide, hA, rfl⟩)⟩
        have e : A.post ++ [leafK 6] = (Tr.node (leafK 6) A .nil).post := by simp [Tr.post]
        simp only [cond_false]
        rw [e, LgX_post hk, ea]
        simp [LgT, leafK]
end Go.Proofs.YtblmiocjhbpklaaDoor

/- WordsUpTo as plain data: the words over an alphabet in their order, and that the taken ones are all listed. No program in it. -/
namespace Go.Proofs.YtblmiocjhbpklaaDoor
set_option maxRecDepth 100000
open Go.ChangeShapes Go.WideShapes Go.ChangeAt Go.RowKit
set_option linter.unusedVariables false
set_option linter.unusedSimpArgs false

/-- All words of k letters, in the order in which the model lays them out. -/
def wordsK (l : List Int) : Nat → List (List Int)
  | 0 => [[]]
  | k + 1 => (wordsK l k).flatMap fun u => l.map fun c => u ++ [c]
theorem snoc_of_len {w : List Int} {k : Nat} (h : w.length = k + 1) : ∃ u c, w = u ++ [c] ∧ u.length = k := by
  have hne : w ≠ [] := by intro e; rw [e] at h; simp at h
  exact ⟨w.dropLast, w.getLast hne, (List.dropLast_concat_getLast hne).symm, by rw [List.length_dropLast]; omega⟩
theorem mem_wordsK {l : List Int} (k : Nat) (w : List Int) : w ∈ wordsK l k ↔ w.length = k ∧ ∀ c ∈ w, c ∈ l := by
  induction k generalizing w with
  | zero =>
    simp only [wordsK, List.mem_singleton]
    constructor
    · rintro rfl; simp
    · rintro ⟨h, _⟩; exact List.length_eq_zero_iff.1 h
  | succ k ih =>
    simp only [wordsK, List.mem_flatMap, List.mem_map]
    constructor
    · rintro ⟨u, hu, c, hc, rfl⟩
      obtain ⟨h1, h2⟩ := (ih u).1 hu
      refine ⟨by rw [List.length_append, h1]; rfl, fun d hd => ?_⟩
      rcases List.mem_append.1 hd with hd | hd
      · exact h2 d hd
      · rw [List.mem_singleton.1 hd]; exact hc
    · rintro ⟨h, hm⟩
      obtain ⟨u, c, rfl, hu⟩ := snoc_of_len h
      exact ⟨u, (ih u).2 ⟨hu, fun d hd => hm d (List.mem_append.2 (.inl hd))⟩, c, hm c (by simp), rfl⟩
theorem lexC_snoc (u v : List Int) (c d : Int) (h : u.length = v.length) : lexC (u ++ [c]) (v ++ [d]) = if lexC u v = 0 then lexC [c] [d] else lexC u v := by
  induction u generalizing v with
  | nil =>
    cases v with
    | nil => simp [lexC]
    | cons y ys => simp at h
  | cons x xs ih =>
    cases v with
    | nil => simp at h
    | cons y ys =>
      have ec : lexC ((x :: xs) ++ [c]) ((y :: ys) ++ [d]) = if x < y then -1 else if y < x then 1 else lexC (xs ++ [c]) (ys ++ [d]) := rfl
      have eu : lexC (x :: xs) (y :: ys) = if x < y then -1 else if y < x then 1 else lexC xs ys := rfl
      by_cases h1 : x < y
      · rw [if_pos h1] at ec eu
        rw [ec, eu, if_neg (by decide)]
      · rw [if_neg h1] at ec eu
        by_cases h2 : y < x
        · rw [if_pos h2] at ec eu
          rw [ec, eu, if_neg (by decide)]
        · rw [if_neg h2] at ec eu
          rw [ec, eu]
          exact ih ys (by simpa using h)
theorem lexC_self0 (u : List Int) : lexC u u = 0 := by
  induction u with
  | nil => rfl
  | cons x xs ih => simp only [lexC]; rw [if_neg (by omega), if_neg (by omega)]; exact ih
/-- The words of one length ascend. -/
theorem wordsK_asc {l : List Int} (hl : l.Pairwise (· < ·)) (k : Nat) : (wordsK l k).Pairwise fun u v => lexC u v = -1 := by
  induction k with
  | zero => simp [wordsK]
  | succ k ih =>
    simp only [wordsK]
    rw [List.pairwise_flatMap]
    refine ⟨fun u hu => ?_, ?_⟩
    · rw [List.pairwise_map]
      refine hl.imp fun {c d} hcd => ?_
      rw [lexC_snoc u u c d rfl, if_pos (lexC_self0 u)]
      simp [lexC, hcd]
    · refine ih.imp_of_mem fun {u v} hu hv huv => ?_
      intro x hx y hy
      obtain ⟨c, hc, rfl⟩ := List.mem_map.1 hx
      obtain ⟨d, hd, rfl⟩ := List.mem_map.1 hy
      have e1 := ((mem_wordsK k u).1 hu).1
      have e2 := ((mem_wordsK k v).1 hv).1
      rw [lexC_snoc u v c d (by omega), huv, if_neg (by decide)]
/-- What a power takes is made of letters that its part takes. -/
theorem powP_mem {P : List Int → Prop} {L : Int → Prop} (h : ∀ u, P u → ∀ c ∈ u, L c) (k : Nat) : ∀ w, PowP P k w → ∀ c ∈ w, L c := by
  induction k with
  | zero => intro w hw c hc; cases hw; simp at hc
  | succ k ih =>
    rintro w ⟨u, v, e, p, q⟩ c hc
    rw [e] at hc
    rcases List.mem_append.1 hc with hc | hc
    · exact h u p c hc
    · exact ih v q c hc
theorem lg_letters {T : Tr} : ∀ w, LgT T w → ∀ c ∈ w, ∃ t ∈ T.post, t.kd = 3 ∧ t.lr = c := by
  induction T with
  | nil => intro w h; exact h.elim
  | node t l r hl hr =>
    have ml : ∀ c, (∃ x ∈ l.post, x.kd = 3 ∧ x.lr = c) → ∃ x ∈ (Tr.node t l r).post, x.kd = 3 ∧ x.lr = c := fun c ⟨x, hx, h⟩ => ⟨x, by simp [Tr.post, hx], h⟩
    have mr : ∀ c, (∃ x ∈ r.post, x.kd = 3 ∧ x.lr = c) → ∃ x ∈ (Tr.node t l r).post, x.kd = 3 ∧ x.lr = c := fun c ⟨x, hx, h⟩ => ⟨x, by simp [Tr.post, hx], h⟩
    intro w h c hc
    unfold LgT at h
    split at h
    · rw [h] at hc; simp at hc
    split at h
    · rename_i e
      rw [h] at hc
      have := List.mem_singleton.1 hc
      exact ⟨t, by simp [Tr.post], e, this.symm⟩
    split at h
    · obtain ⟨u, v, e, p, q⟩ := h
      rw [e] at hc
      rcases List.mem_append.1 hc with hc | hc
      · exact ml c (hl u p c hc)
      · exact mr c (hr v q c hc)
    split at h
    · rcases h with h | h
      · exact ml c (hl w h c hc)
      · exact mr c (hr w h c hc)
    split at h
    · obtain ⟨k, hk⟩ := h
      exact ml c (powP_mem (L := fun c => ∃ x ∈ l.post, x.kd = 3 ∧ x.lr = c) (fun u hu d hd => hl u hu d hd) k w hk c hc)
    split at h
    · obtain ⟨k, _, _, hk⟩ := h
      exact ml c (powP_mem (L := fun c => ∃ x ∈ l.post, x.kd = 3 ∧ x.lr = c) (fun u hu d hd => hl u hu d hd) k w hk c hc)
    · exact h.elim
end Go.Proofs.YtblmiocjhbpklaaDoor

/- What the great law of the constructors asks. No program in it. -/
namespace Go.Proofs.YtblmiocjhbpklaaDoor
set_option maxRecDepth 100000
open Go.ChangeShapes Go.WideShapes Go.ChangeAt Go.RowKit
set_option linter.unusedVariables false
set_option linter.unusedSimpArgs false

theorem nul_of {xs : List Tok} (h : isP xs) : nulX xs = true ↔ LgX xs [] := nulX_lg (isP_iff.2 h)
theorem nul_cat {xs ys : List Tok} (hx : isP xs) (hy : isP ys) : nulX (catX xs ys) = (nulX xs && nulX ys) := by
  rw [Bool.eq_iff_iff, Bool.and_eq_true, nul_of (isP_cat hx hy), nul_of hx, nul_of hy, lg_cat hx hy, catP_nil]
theorem nul_uni {xs ys : List Tok} (hx : isP xs) (hy : isP ys) : nulX (uniX xs ys) = (nulX xs || nulX ys) := by
  rw [Bool.eq_iff_iff, Bool.or_eq_true, nul_of (isP_uni hx hy), nul_of hx, nul_of hy, lg_uni hx hy]
theorem nul_star {xs : List Tok} (hx : isP xs) : nulX (starX xs) = true := by
  rw [nul_of (isP_star hx), lg_star hx]
  exact ⟨0, rfl⟩
/-- Whether an expression takes a word, by the table. -/
def matX (xs : List Tok) (w : List Int) : Bool := match treeO xs with
  | some T => gT w T 0 w.length
  | none => false
theorem mat_lg {xs : List Tok} (h : isP xs) (w : List Int) : matX xs w = true ↔ LgX xs w := by
  obtain ⟨T, hT, rfl⟩ := h
  unfold matX
  rw [treeO_post hT, LgX_post hT]
  exact gT_word w hT
theorem mat_uni {xs ys : List Tok} (hx : isP xs) (hy : isP ys) (w : List Int) : matX (uniX xs ys) w = (matX xs w || matX ys w) := by
  rw [Bool.eq_iff_iff, Bool.or_eq_true, mat_lg (isP_uni hx hy), mat_lg hx, mat_lg hy, lg_uni hx hy]
theorem mat_der {xs : List Tok} {w : List Int} (hx : isP xs) (h : (derW xs w).2 = true) : nulX (derW xs w).1 = matX xs w := by
  rw [Bool.eq_iff_iff, derW_nul h, mat_lg hx]
end Go.Proofs.YtblmiocjhbpklaaDoor

/- The letters of an expression, ascending, as plain data: by bits of a number, as the model does it, and by marks, as the program does it. -/
namespace Go.Proofs.YtblmiocjhbpklaaDoor
set_option maxRecDepth 100000
open Go.ChangeShapes Go.WideShapes Go.ChangeAt Go.RowKit
set_option linter.unusedVariables false
set_option linter.unusedSimpArgs false

/-- The letters in the order in which they stand. -/
def ltrs (xs : List Tok) : List Int := (xs.filter fun t => t.kd == 3).map Tok.lr
/-- Which of 0, .., k - 1 are among them. -/
def alT (zs : List Int) (k : Nat) : List Int := ((List.range k).filter fun (i : Nat) => decide ((i : Int) ∈ zs)).map fun (i : Nat) => (i : Int)
def alX (xs : List Tok) : List Int := if isXB xs = true then alT (ltrs xs) 9 else []
theorem alT_succ (zs : List Int) (k : Nat) : alT zs (k + 1) = alT zs k ++ (if (k : Int) ∈ zs then [(k : Int)] else []) := by
  unfold alT
  rw [List.range_succ, List.filter_append, List.map_append]
  congr 1
  by_cases h : (k : Int) ∈ zs <;> simp [h]
theorem alT_len (zs : List Int) (k : Nat) : (alT zs k).length ≤ k := by
  unfold alT; rw [List.length_map]
  exact Nat.le_trans (List.length_filter_le _ _) (by simp)
theorem alT_stop {zs : List Int} {n : Nat} (h : ∀ z ∈ zs, z < (n : Int)) : ∀ k, n ≤ k → alT zs k = alT zs n := by
  intro k hk
  induction k with
  | zero => obtain rfl : n = 0 := by omega
            rfl
  | succ k ih =>
    by_cases e : n = k + 1
    · subst e; rfl
    · rw [alT_succ, ih (by omega), if_neg (fun hm => by have := h _ hm; omega), List.append_nil]
theorem alT_mem {zs : List Int} {k : Nat} {x : Int} : x ∈ alT zs k ↔ x ∈ zs ∧ 0 ≤ x ∧ x < (k : Int) := by
  unfold alT
  simp only [List.mem_map, List.mem_filter, List.mem_range, decide_eq_true_eq]
  constructor
  · rintro ⟨i, ⟨h1, h2⟩, rfl⟩; exact ⟨h2, by omega, by omega⟩
  · rintro ⟨h1, h2, h3⟩
    exact ⟨x.toNat, ⟨by omega, by rw [Int.toNat_of_nonneg h2]; exact h1⟩, Int.toNat_of_nonneg h2⟩
theorem alT_asc (zs : List Int) (k : Nat) : (alT zs k).Pairwise (· < ·) := by
  unfold alT
  refine List.Pairwise.map _ (R := (· < ·)) (fun a b h => by omega) ?_
  exact List.Pairwise.filter _ (List.pairwise_lt_range)
theorem alT_in (zs : List Int) {k : Nat} (hk : k ≤ 1000) : ∀ x ∈ alT zs k, InI x := fun x hx => by
  have := alT_mem.1 hx; unfold InI; omega
/-- All tokens of an expression are tokens. -/
theorem isXB_okT {xs : List Tok} (h : isXB xs = true) : ∀ t ∈ xs, okT t = true := by
  have key : ∀ {T : Tr}, T.ok → ∀ t ∈ T.post, okT t = true := by
    intro T
    induction T with
    | nil => intro h; exact h.elim
    | node t l r hl hr =>
      rintro ⟨ht, hc⟩ x hx
      simp only [Tr.post, List.mem_append, List.mem_singleton] at hx
      rcases hc with ⟨_, rfl, rfl⟩ | ⟨_, hlo, rfl⟩ | ⟨_, hlo, hro⟩
      · simp [Tr.post] at hx; subst hx; exact ht
      · simp [Tr.post] at hx
        rcases hx with hx | rfl
        · exact hl hlo x hx
        · exact ht
      · rcases hx with (hx | hx) | rfl
        · exact hl hlo x hx
        · exact hr hro x hx
        · exact ht
  obtain ⟨T, hT, rfl⟩ := isP_iff.1 h
  exact key hT
theorem okT_lr {t : Tok} (h : okT t = true) (h3 : t.kd = 3) : 0 ≤ t.lr ∧ t.lr < 9 := by
  unfold okT inB at h
  simp only [Bool.or_eq_true, Bool.and_eq_true, decide_eq_true_eq] at h
  omega
theorem ltrs_small {xs : List Tok} (h : ∀ t ∈ xs, okT t = true) : ∀ z ∈ ltrs xs, 0 ≤ z ∧ z < 9 := by
  intro z hz
  unfold ltrs at hz
  obtain ⟨t, ht, rfl⟩ := List.mem_map.1 hz
  obtain ⟨h1, h2⟩ := List.mem_filter.1 ht
  exact okT_lr (h t h1) (by simpa using h2)
theorem ltrs_snoc (xs : List Tok) (t : Tok) : ltrs (xs ++ [t]) = ltrs xs ++ (if t.kd = 3 then [t.lr] else []) := by
  unfold ltrs
  rw [List.filter_append, List.map_append]
  congr 1
  by_cases h : t.kd = 3 <;> simp [h]
/-- The model's number: a bit for each letter. -/
def mskX (xs : List Tok) : Nat := xs.foldl (fun m t => if t.kd = 3 then m ||| 2 ^ t.lr.toNat else m) 0
theorem mskX_snoc (xs : List Tok) (t : Tok) : mskX (xs ++ [t]) = if t.kd = 3 then mskX xs ||| 2 ^ t.lr.toNat else mskX xs := by
  unfold mskX; rw [List.foldl_append]; rfl
theorem snoc_ind {P : List Tok → Prop} (h0 : P []) (h1 : ∀ xs t, P xs → P (xs ++ [t])) : ∀ xs, P xs := by
  intro xs
  have : ∀ n, ∀ xs : List Tok, xs.length = n → P xs := by
    intro n
    induction n with
    | zero => intro xs h; rw [List.eq_nil_of_length_eq_zero h]; exact h0
    | succ n ih =>
      intro xs h
      have e : xs = xs.take n ++ [xs[n]'(by omega)] := by
        rw [← List.take_succ_eq_append_getElem (by omega), List.take_of_length_le (by omega)]
      rw [e]; exact h1 _ _ (ih _ (by rw [List.length_take]; omega))
  exact this _ xs rfl
theorem mskX_bit (xs : List Tok) : (∀ t ∈ xs, okT t = true) → ∀ i : Nat, (mskX xs).testBit i = decide ((i : Int) ∈ ltrs xs) := by
  refine snoc_ind (P := fun xs => (∀ t ∈ xs, okT t = true) → ∀ i : Nat, (mskX xs).testBit i = decide ((i : Int) ∈ ltrs xs)) ?_ ?_ xs
  · intro _ i; simp [mskX, ltrs]
  · intro xs t ih h i
    have hi := ih (fun x hx => h x (by simp [hx])) i
    rw [mskX_snoc, ltrs_snoc]
    by_cases h3 : t.kd = 3
    · have hl := okT_lr (h t (by simp)) h3
      rw [if_pos h3, if_pos h3, Nat.testBit_or, hi, Nat.testBit_two_pow, Bool.eq_iff_iff]
      simp only [Bool.or_eq_true, decide_eq_true_eq, List.mem_append, List.mem_singleton]
      have : (t.lr.toNat = i) ↔ ((i : Int) = t.lr) := by omega
      rw [this]
    · rw [if_neg h3, if_neg h3, hi, List.append_nil]
theorem mskX_lt (xs : List Tok) : (∀ t ∈ xs, okT t = true) → mskX xs < 512 := by
  refine snoc_ind (P := fun xs => (∀ t ∈ xs, okT t = true) → mskX xs < 512) ?_ ?_ xs
  · intro _; decide
  · intro xs t ih h
    have hi := ih (fun x hx => h x (by simp [hx]))
    rw [mskX_snoc]
    by_cases h3 : t.kd = 3
    · have hl := okT_lr (h t (by simp)) h3
      rw [if_pos h3]
      refine Nat.or_lt_two_pow (n := 9) hi ?_
      exact Nat.pow_lt_pow_right (by decide) (by omega)
    · rw [if_neg h3]; exact hi
/-- The program's marks. -/
def occL (xs : List Tok) : List Value := (List.range 9).map fun (i : Nat) => .bool (decide ((i : Int) ∈ ltrs xs))
theorem occL_len (xs : List Tok) : (occL xs).length = 9 := by simp [occL]
theorem occL_at (xs : List Tok) (i : Nat) (h : i < 9) : (occL xs)[i]? = some (.bool (decide ((i : Int) ∈ ltrs xs))) := by
  unfold occL; simp [h]
theorem occL_nil : occL [] = List.replicate 9 (.bool false) := by rfl
theorem occL_set (xs : List Tok) (t : Tok) (k : Nat) (h3 : t.kd = 3) (hk : t.lr = (k : Int)) : (occL xs).set k (.bool true) = occL (xs ++ [t]) := by
  apply List.ext_getElem?
  intro j
  by_cases hj : j < 9
  · rw [occL_at _ _ hj, ltrs_snoc, if_pos h3, hk]
    by_cases e : k = j
    · subst e
      rw [List.getElem?_set_self (by rw [occL_len]; exact hj)]
      simp
    · rw [List.getElem?_set_ne e, occL_at _ _ hj]
      have : ¬ ((j : Int) = (k : Int)) := by omega
      simp [this]
  · rw [List.getElem?_eq_none (by rw [List.length_set, occL_len]; omega), List.getElem?_eq_none (by rw [occL_len]; omega)]
theorem occL_skip (xs : List Tok) (t : Tok) (h3 : t.kd ≠ 3) : occL (xs ++ [t]) = occL xs := by
  unfold occL; rw [ltrs_snoc, if_neg h3, List.append_nil]
theorem alX_len (xs : List Tok) : (alX xs).length ≤ 9 := by
  unfold alX
  split
  · exact alT_len _ _
  · simp
end Go.Proofs.YtblmiocjhbpklaaDoor

/- A map from (node, place) to a set of places, as the call itself has made it: how its block reads, looking a start up, writing under a start. -/
namespace Go.Proofs.YtblmiocjhbpklaaDoor
set_option maxRecDepth 100000
open Go.ChangeShapes Go.WideShapes Go.ChangeAt Go.RowKit
set_option linter.unusedVariables false
set_option linter.unusedSimpArgs false

structure Msk where
  g : Nat
  i : Int
deriving DecidableEq
abbrev mskv (k : Msk) : Value := .agg #[.pointer (some ⟨k.g, 0, none⟩), .int .i64 k.i]
theorem Msk.eq_iff (a b : Msk) : a = b ↔ (a.g = b.g ∧ a.i = b.i) := ⟨fun h => by subst h; exact ⟨rfl, rfl⟩, fun h => by cases a; cases b; simp_all⟩
def NodeAt (w : World) (g : Nat) : Prop := ∃ cs, Blk w g 131 cs
theorem info_node : (Tryd.prog.info? 131).map (fun i => i.size) = some 6 := by kernel_rfl
theorem equal_node (d : Nat) (a b : Nat) (w : World) (ha : NodeAt w a) (hb : NodeAt w b) : (Op.equalIn (d + 1) 76 (.pointer (some ⟨a, 0, none⟩)) (.pointer (some ⟨b, 0, none⟩))).run Tryd.prog w = .ok (decide (a = b)) w := by
  have hp : Tryd.prog.underlying 76 = some (.pointer 131) := by kernel_rfl
  obtain ⟨j, hj, hs⟩ : ∃ j, Tryd.prog.info? 131 = some j ∧ j.size = 6 := by
    have h := info_node
    cases hq : Tryd.prog.info? 131 with
    | none => rw [hq] at h; cases h
    | some j => rw [hq] at h; exact ⟨j, rfl, by simpa using h⟩
  obtain ⟨ca, ha⟩ := ha
  obtain ⟨cb, hb⟩ := hb
  by_cases h : a = b
  · subst h
    simp [Op.equalIn, run_underlying hp, sizeOf, typeInfo, hj, hs, run_sameAddr_same]
  · have hne : (⟨a, 0, none⟩ : Addr) ≠ ⟨b, 0, none⟩ := by intro e; injection e; exact h ‹_›
    simp [Op.equalIn, run_underlying hp, sizeOf, typeInfo, hj, hs, run_sameAddr_other w hne ha hb, h]
set_option maxRecDepth 100000 in
theorem opEqual_msk (a b : Msk) (w : World) (ha : NodeAt w a.g) (hb : NodeAt w b.g) : (Op.equal 169 (mskv a) (mskv b)).run Tryd.prog w = .ok (decide (a = b)) w := by
  have hS : Tryd.prog.underlying 169 = some (.struct (Tryd.prog.fieldsOf 169)) := by kernel_rfl
  have hp : Tryd.prog.stoodInHeld 169 = false := by kernel_rfl
  have a3 := Tryd.isAgg3
  have z3 := Tryd.sizeOf3
  have hd : decide (a = b) = (decide (a.g = b.g) && (a.i == b.i)) := by
    rw [Bool.eq_iff_iff]; simp only [decide_eq_true_eq, Msk.eq_iff, Bool.and_eq_true, beq_iff_eq]
  rw [hd]
  unfold mskv
  have hpa : ∀ (c : Msk) (W : World), (part 76 #[.pointer (some ⟨c.g, 0, none⟩), .int .i64 c.i] 0).run Tryd.prog W = .ok (.pointer (some ⟨c.g, 0, none⟩)) W := fun c W => by kernel_rfl
  have hpb : ∀ (c : Msk) (W : World), (part 3 #[.pointer (some ⟨c.g, 0, none⟩), .int .i64 c.i] 1).run Tryd.prog W = .ok (.int .i64 c.i) W := fun c W => by kernel_rfl
  obtain ⟨d, hd⟩ : ∃ d : Nat, 10000 = d + 1 + 1 := ⟨9998, rfl⟩
  rw [show Op.equal 169 (.agg #[.pointer (some ⟨a.g, 0, none⟩), .int .i64 a.i]) (.agg #[.pointer (some ⟨b.g, 0, none⟩), .int .i64 b.i]) = Op.equalIn 10000 169 _ _ from rfl]
  rw [hd, run_equalIn_agg w (d + 1) 169 _ _ hS hp]
  clear hd
  simp only [Program.fieldsOf, Tryd.underlying169]
  have he := equal_node d a.g b.g w ha hb
  have hi : (Op.equalIn (d + 1) 3 (.int .i64 a.i) (.int .i64 b.i)).run Tryd.prog w = .ok (a.i == b.i) w := run_equalIn_int w d 3 .i64 .i64 a.i b.i Tryd.underlying3
  go_simp
  by_cases h1 : a.g = b.g <;> by_cases h2 : a.i = b.i <;> simp [h1, h2, hpa, hpb, he, hi]

/-- What the list M holds under c, from the front; and where. -/
def lookQ : List (Msk × Value) → Msk → Nat → Option (Nat × Value)
  | [], _, _ => none
  | p :: r, c, i => if c = p.1 then some (i, p.2) else lookQ r c (i + 1)
def atQ (M : List (Msk × Value)) (c : Msk) : Option Value := (lookQ M c 0).map (·.2)
def putQ (M : List (Msk × Value)) (c : Msk) (v : Value) : List (Msk × Value) :=
  match lookQ M c 0 with
  | some (i, _) => M.modify i fun p => (c, v)
  | none => M ++ [(c, v)]
/-- The entries es read as M. -/
def EntQ (es : List MapEntry) (M : List (Msk × Value)) : Prop := es.map (fun e => (e.key, e.val)) = M.map (fun p => (mskv p.1, p.2))
theorem EntQ.cons_inv {e : MapEntry} {es : List MapEntry} {M : List (Msk × Value)} (h : EntQ (e :: es) M) : ∃ p r, M = p :: r ∧ e.key = mskv p.1 ∧ e.val = p.2 ∧ EntQ es r := by
  cases M with
  | nil => simp [EntQ] at h
  | cons p r =>
    unfold EntQ at h
    simp only [List.map_cons, List.cons.injEq, Prod.mk.injEq] at h
    exact ⟨p, r, rfl, h.1.1, h.1.2, h.2⟩
theorem EntQ.len {es : List MapEntry} {M : List (Msk × Value)} (h : EntQ es M) : es.length = M.length := by
  have := congrArg List.length h; simpa using this
theorem run_findAsking_msk (c : Msk) (w : World) (hc : NodeAt w c.g) : ∀ (es : List MapEntry) (M : List (Msk × Value)) (i : Nat), (∀ p ∈ M, NodeAt w p.1.g) → EntQ es M →
    (Instr.findAsking 169 (mskv c) es i).run Tryd.prog w = .ok (lookQ M c i) w
  | [], M, i, hm, h => by
    have hl : M.length = 0 := h.len.symm
    obtain rfl : M = [] := List.length_eq_zero_iff.1 hl
    rfl
  | e :: es, M, i, hm, h => by
    obtain ⟨p, r, rfl, hk, hv, hr⟩ := h.cons_inv
    unfold Instr.findAsking
    rw [hk, hv]
    have heq := opEqual_msk c p.1 w hc (hm p (by simp))
    simp only [Sem.run_bind, heq, Result.andThen_ok]
    unfold lookQ
    by_cases hc2 : c = p.1
    · simp [hc2]
    · simp [hc2, run_findAsking_msk c w hc es r (i + 1) (fun q hq => hm q (by simp [hq])) hr]
theorem run_findKey_msk (c : Msk) (w : World) (hc : NodeAt w c.g) (es : List MapEntry) (M : List (Msk × Value)) (hm : ∀ p ∈ M, NodeAt w p.1.g) (h : EntQ es M) :
    (Instr.findKey 169 (mskv c) es).run Tryd.prog w = .ok (lookQ M c 0) w := by
  have hw : (match Tryd.prog.underlying 169 with | some (.array _ _) | some (.struct _) => true | _ => false) = true := by kernel_rfl
  rw [run_findKey_eq (P := Tryd.prog) (w := w) hw]
  exact run_findAsking_msk c w hc es M 0 hm h
set_option maxRecDepth 100000 in
theorem run_checkKey_msk (b : Bool) (c : Msk) (w : World) : (Instr.checkKey b 10000 169 (mskv c)).run Tryd.prog w = .ok () w := by
  have hS : Tryd.prog.underlying 169 = some (.struct (Tryd.prog.fieldsOf 169)) := by kernel_rfl
  obtain ⟨d, hd⟩ : ∃ d : Nat, 10000 = d + 1 + 1 + 1 := ⟨9997, rfl⟩
  rw [hd]; clear hd
  unfold mskv
  have hpa : ∀ (c : Msk) (W : World), (part 76 #[.pointer (some ⟨c.g, 0, none⟩), .int .i64 c.i] 0).run Tryd.prog W = .ok (.pointer (some ⟨c.g, 0, none⟩)) W := fun c W => by kernel_rfl
  have hpb : ∀ (c : Msk) (W : World), (part 3 #[.pointer (some ⟨c.g, 0, none⟩), .int .i64 c.i] 1).run Tryd.prog W = .ok (.int .i64 c.i) W := fun c W => by kernel_rfl
  have u1 := Tryd.underlying76
  have u2 := Tryd.underlying3
  simp only [Instr.checkKey, Sem.run_bind, run_underlying hS, Result.andThen_ok]
  simp only [Program.fieldsOf, Tryd.underlying169]
  go_simp
theorem sameBits_msk (c : Msk) (n : Nat) : Instr.sameBits (n + 2) (mskv c) (mskv c) = true := by
  simp [Instr.sameBits]
theorem getQ {es : List MapEntry} {M : List (Msk × Value)} (h : EntQ es M) (i : Nat) (hi : i < M.length) : ∃ e, es[i]? = some e ∧ e.key = mskv M[i].1 ∧ e.val = M[i].2 := by
  have hl := h.len
  have hi2 : i < es.length := by omega
  refine ⟨es[i], List.getElem?_eq_getElem hi2, ?_⟩
  have := congrArg (·[i]?) h
  simp only [List.getElem?_map, List.getElem?_eq_getElem hi2, List.getElem?_eq_getElem hi, Option.map_some, Option.some.injEq, Prod.mk.injEq] at this
  exact this
theorem lookQ_at : ∀ (M : List (Msk × Value)) (c : Msk) (k i : Nat) (v : Value), lookQ M c k = some (i, v) → k ≤ i ∧ ∃ (h : i - k < M.length), M[i - k].1 = c ∧ M[i - k].2 = v
  | [], _, _, _, _, h => by simp [lookQ] at h
  | p :: r, c, k, i, v, h => by
    unfold lookQ at h
    split at h
    · rename_i hc
      simp only [Option.some.injEq, Prod.mk.injEq] at h
      obtain ⟨rfl, rfl⟩ := h
      refine ⟨Nat.le_refl _, by simp, ?_⟩
      simp [hc]
    · obtain ⟨h1, h2, h3, h4⟩ := lookQ_at r c (k + 1) i v h
      have e : i - k = (i - (k + 1)) + 1 := by omega
      refine ⟨by omega, by simp only [List.length_cons]; omega, ?_⟩
      simp only [e, List.getElem_cons_succ]
      exact ⟨h3, h4⟩
theorem lookQ_mono : ∀ (M : List (Msk × Value)) (c : Msk) (k : Nat), (lookQ M c k).map (·.2) = (lookQ M c 0).map (·.2)
  | [], _, _ => rfl
  | p :: r, c, k => by
    unfold lookQ
    by_cases h : c = p.1
    · simp [h]
    · simp only [h, if_false]; rw [lookQ_mono r c (k + 1), lookQ_mono r c (0 + 1)]
theorem atQ_cons (p : Msk × Value) (r : List (Msk × Value)) (d : Msk) : atQ (p :: r) d = if d = p.1 then some p.2 else atQ r d := by
  unfold atQ
  by_cases h : d = p.1
  · simp [lookQ, h]
  · simp only [lookQ, h, if_false]; rw [lookQ_mono]
theorem atQ_append (r : List (Msk × Value)) (c : Msk) (v : Value) (d : Msk) (h : lookQ r c 0 = none) : atQ (r ++ [(c, v)]) d = if d = c then some v else atQ r d := by
  have hne : ∀ (r : List (Msk × Value)) (k : Nat), lookQ r c k = none → ∀ p ∈ r, c ≠ p.1 := by
    intro r
    induction r with
    | nil => intro k _ p hp; simp at hp
    | cons q r ih =>
      intro k hk p hp
      unfold lookQ at hk
      split at hk
      · cases hk
      · rename_i hq
        rcases List.mem_cons.1 hp with rfl | hp
        · exact hq
        · exact ih _ hk p hp
  have hr := hne r 0 h
  clear h hne
  induction r with
  | nil => simp [atQ_cons]
  | cons q r ih =>
    rw [List.cons_append, atQ_cons, atQ_cons, ih (fun p hp => hr p (by simp [hp]))]
    by_cases e1 : d = q.1
    · have : ¬ d = c := fun e => hr q (by simp) (e.symm.trans e1)
      simp [e1, show ¬ q.1 = c from fun e => this (e1.trans e)]
    · simp [e1]
theorem atQ_modify : ∀ (r : List (Msk × Value)) (c : Msk) (v : Value) (d : Msk) (k i : Nat) (u : Value), lookQ r c k = some (i, u) → atQ (r.modify (i - k) fun _ => (c, v)) d = if d = c then some v else atQ r d
  | [], _, _, _, _, _, _, h => by simp [lookQ] at h
  | q :: r, c, v, d, k, i, u, h => by
    unfold lookQ at h
    split at h
    · rename_i hq
      simp only [Option.some.injEq, Prod.mk.injEq] at h
      obtain ⟨rfl, rfl⟩ := h
      simp only [Nat.sub_self, List.modify_zero_cons, atQ_cons]
      by_cases e : d = c <;> simp [e, ← hq]
    · rename_i hq
      obtain ⟨h1, _⟩ := lookQ_at r c (k + 1) i u h
      have e : i - k = (i - (k + 1)) + 1 := by omega
      rw [e, List.modify_succ_cons, atQ_cons, atQ_cons, atQ_modify r c v d (k + 1) i u h]
      by_cases e1 : d = q.1
      · have : ¬ q.1 = c := fun e => hq e.symm
        simp [e1, this]
      · simp [e1]
theorem atQ_put (M : List (Msk × Value)) (c : Msk) (v : Value) (d : Msk) : atQ (putQ M c v) d = if d = c then some v else atQ M d := by
  unfold putQ
  cases h : lookQ M c 0 with
  | none => exact atQ_append M c v d h
  | some p => obtain ⟨i, u⟩ := p; exact atQ_modify M c v d 0 i u h
theorem putQ_mem {M : List (Msk × Value)} {c : Msk} {v : Value} {p : Msk × Value} (h : p ∈ putQ M c v) : p ∈ M ∨ p.1 = c := by
  unfold putQ at h
  split at h
  · obtain ⟨i, hi, rfl⟩ := List.getElem_of_mem h
    rw [List.getElem_modify]
    split
    · exact .inr rfl
    · exact .inl (List.getElem_mem _)
  · rcases List.mem_append.1 h with h | h
    · exact .inl h
    · simp at h; subst h; exact .inr rfl

/-- The entries' stamps: no two alike, all below the clock. -/
def BornQ (es : Array MapEntry) (cl : Nat) : Prop := (es.toList.map (·.born)).Nodup ∧ ∀ n ∈ es.toList.map (·.born), n < cl
theorem BornQ.push {es : Array MapEntry} {cl : Nat} (h : BornQ es cl) (k v : Value) : BornQ (es.push { key := k, val := v, born := cl }) (cl + 1) := by
  obtain ⟨h1, h2⟩ := h
  unfold BornQ
  simp only [Array.toList_push, List.map_append, List.map_cons, List.map_nil]
  refine ⟨List.nodup_append.2 ⟨h1, by simp, fun a ha b hb => ?_⟩, fun n hn => ?_⟩
  · simp at hb; subst hb; have := h2 a ha; omega
  · rcases List.mem_append.1 hn with hn | hn
    · have := h2 n hn; omega
    · simp at hn; omega
theorem BornQ.modify {es : Array MapEntry} {cl : Nat} (h : BornQ es cl) (i : Nat) (f : MapEntry → MapEntry) (hf : ∀ e, (f e).born = e.born) : BornQ (es.modify i f) cl := by
  have e : (es.modify i f).toList.map (·.born) = es.toList.map (·.born) := by
    rw [Array.toList_modify]
    apply List.ext_getElem?
    intro j
    simp only [List.getElem?_map, List.getElem?_modify]
    by_cases h : i = j
    · subst h; cases es.toList[i]? <;> simp [hf]
    · simp [h]
  unfold BornQ; rw [e]; exact h
/-- Block b is a map of the call's own that holds f. -/
def MemoF (w : World) (b : Nat) (f : Msk → Option Int) : Prop := ∃ es cl M, w.heap[b]? = some (.map es cl) ∧ BornQ es cl ∧ EntQ es.toList M ∧ (∀ p ∈ M, NodeAt w p.1.g) ∧ ∀ d, atQ M d = (f d).map (Value.int .i64)
theorem MemoF.lt {w : World} {b : Nat} {f : Msk → Option Int} (h : MemoF w b f) : b < w.heap.size := by
  obtain ⟨es, cl, M, hb, _⟩ := h; exact heap_lt hb
theorem MemoF.made (w : World) : MemoF (w.alloc (.map #[] 0)) w.heap.size (fun _ => none) := ⟨#[], 0, [], (MapKept.heap_alloc w _).1, ⟨by simp, by simp⟩, rfl, fun p hp => by simp at hp, fun _ => rfl⟩
theorem MemoF.keep {w w' : World} {b : Nat} {f : Msk → Option Int} (h : MemoF w b f) (k : w'.heap[b]? = w.heap[b]?) (hn : ∀ g, NodeAt w g → NodeAt w' g) : MemoF w' b f := by
  obtain ⟨es, cl, M, hb, h1, h2, h3, h4⟩ := h; exact ⟨es, cl, M, k.trans hb, h1, h2, fun p hp => hn _ (h3 p hp), h4⟩
theorem NodeAt.since {w w' : World} {g : Nat} (h : NodeAt w g) (k : Since w w') : NodeAt w' g := by obtain ⟨cs, h⟩ := h; exact ⟨cs, h.since k⟩
theorem MemoF.since {w w' : World} {b : Nat} {f : Msk → Option Int} (h : MemoF w b f) (k : Since w w') : MemoF w' b f := h.keep (k.block b h.lt) (fun g hg => hg.since k)
def updQ (f : Msk → Option Int) (c : Msk) (v : Int) : Msk → Option Int := fun d => if d = c then some v else f d
theorem run_getObj_mapQ {w : World} {r : Nat} {es : Array MapEntry} {clock : Nat} (hb : w.heap[r]? = some (.map es clock)) : (getObj r).run Tryd.prog w = .ok (.map es clock) w := by simp [getObj, Sem.run, hb]
theorem run_lookup_msk (w : World) (b : Nat) (f : Msk → Option Int) (c : Msk) (hc : NodeAt w c.g) (h : MemoF w b f) :
    (Instr.lookup 135 (.map (some b)) (mskv c) true).run Tryd.prog w = .ok (.tuple #[.int .i64 ((f c).getD 0), .bool (f c).isSome]) w := by
  obtain ⟨es, cl, M, hb, _, he, hm, hf⟩ := h
  have hu : Tryd.prog.underlying 135 = some (.map 169 3) := by kernel_rfl
  have hz : (zeroValue 3).run Tryd.prog w = .ok (.int .i64 0) w := by kernel_rfl
  have hfc := hf c
  simp only [Instr.lookup, Sem.run_bind, run_underlying hu, Result.andThen_ok, run_getObj_mapQ hb, Sem.run_pure, run_checkKey_msk, run_findKey_msk c w hc es.toList M hm he]
  unfold atQ at hfc
  cases hl : lookQ M c 0 with
  | none =>
    rw [hl] at hfc
    cases hq : f c with
    | none => simp [hz]
    | some z => rw [hq] at hfc; cases hfc
  | some p =>
    rw [hl] at hfc
    cases hq : f c with
    | none => rw [hq] at hfc; cases hfc
    | some z => rw [hq] at hfc; simp at hfc; simp [hfc]
theorem EntQ.push {es : Array MapEntry} {M : List (Msk × Value)} (he : EntQ es.toList M) (c : Msk) (v : Value) (n : Nat) : EntQ (es.push { key := mskv c, val := v, born := n }).toList (M ++ [(c, v)]) := by
  unfold EntQ at he ⊢; simp [he]
theorem EntQ.modify {es : Array MapEntry} {M : List (Msk × Value)} (he : EntQ es.toList M) (c : Msk) (v : Value) (i : Nat) (g : MapEntry → MapEntry) (hi : i < M.length) (hg : ∀ e : MapEntry, e.key = mskv M[i].1 → (g e).key = mskv c ∧ (g e).val = v) :
    EntQ (es.modify i g).toList (M.modify i fun _ => (c, v)) := by
  obtain ⟨e, g1, g2, g3⟩ := getQ he i hi
  unfold EntQ at he ⊢
  simp only [Array.toList_modify]
  apply List.ext_getElem?
  intro j
  have hj := congrArg (·[j]?) he
  simp only [List.getElem?_map, List.getElem?_modify] at hj ⊢
  by_cases hij : i = j
  · subst hij
    obtain ⟨q1, q2⟩ := hg e g2
    rw [g1, List.getElem?_eq_getElem hi]
    simp [q1, q2]
  · simp [hij]; simpa using hj
theorem NodeAt.mapset {w : World} {b g : Nat} {es : Array MapEntry} {cl : Nat} (hb : w.heap[b]? = some (.map es cl)) (o : Obj) (h : NodeAt w g) : NodeAt { w with heap := w.heap.setIfInBounds b o } g := by
  obtain ⟨cs, h⟩ := h
  have hne : b ≠ g := by
    intro e; subst e
    have h2 : w.heap[b]? = some (.cells cs 131 (0, 0)) := h
    rw [hb] at h2; cases h2
  refine ⟨cs, ?_⟩
  show (w.heap.setIfInBounds b o)[g]? = _
  rw [Array.getElem?_setIfInBounds_ne hne]
  exact h
theorem run_mapUpdate_msk (w : World) (b : Nat) (f : Msk → Option Int) (c : Msk) (z : Int) (hc : NodeAt w c.g) (h : MemoF w b f) :
    ∃ o, (Instr.mapUpdate 135 (.map (some b)) (mskv c) (.int .i64 z)).run Tryd.prog w = .ok () { w with heap := w.heap.setIfInBounds b o } ∧
      MemoF { w with heap := w.heap.setIfInBounds b o } b (updQ f c z) := by
  obtain ⟨es, cl, M, hb, hB, he, hm, hf⟩ := h
  have hu : Tryd.prog.underlying 135 = some (.map 169 3) := by kernel_rfl
  have hfin : ∀ d, atQ (putQ M c (.int .i64 z)) d = (updQ f c z d).map (Value.int .i64) := fun d => by
    rw [atQ_put, hf]; unfold updQ
    by_cases e : d = c <;> simp [e]
  have hmn : ∀ o, ∀ p ∈ putQ M c (.int .i64 z), NodeAt { w with heap := w.heap.setIfInBounds b o } p.1.g := fun o p hp => by
    rcases putQ_mem hp with h | h
    · exact (hm p h).mapset hb o
    · rw [h]; exact hc.mapset hb o
  cases hl : lookQ M c 0 with
  | none =>
    have e : putQ M c (.int .i64 z) = M ++ [(c, .int .i64 z)] := by unfold putQ; rw [hl]
    refine ⟨_, ?_, (es.push { key := mskv c, val := .int .i64 z, born := cl }), cl + 1, putQ M c (.int .i64 z), (MapKept.heap_set hb).1, hB.push _ _, by rw [e]; exact he.push _ _ _, hmn _, hfin⟩
    simp only [Instr.mapUpdate, Sem.run_bind, run_underlying hu, Result.andThen_ok, run_getObj_mapQ hb, Sem.run_pure, run_checkKey_msk, run_findKey_msk c w hc es.toList M hm he, hl]
    rw [MapKept.run_setObj_map _ hb]
  | some p =>
    obtain ⟨i, u⟩ := p
    obtain ⟨_, hi, h1, h2⟩ := lookQ_at M c 0 i u hl
    simp only [Nat.sub_zero] at hi h1 h2
    obtain ⟨e, g1, g2, g3⟩ := getQ he i hi
    have g4 : es[i]? = some e := by rw [← Array.getElem?_toList]; exact g1
    have hst : (Instr.keyThatStays (((es[i]?).map (·.key)).getD (mskv c)) (mskv c)).run Tryd.prog w = .ok (mskv c) w := by
      simp only [g4, Option.map_some, Option.getD_some, g2, h1, Instr.keyThatStays]
      rw [if_pos (sameBits_msk c 9998)]
      rfl
    have e' : putQ M c (.int .i64 z) = M.modify i fun _ => (c, .int .i64 z) := by unfold putQ; rw [hl]
    refine ⟨_, ?_, (es.modify i fun e => { e with key := mskv c, val := .int .i64 z }), cl, putQ M c (.int .i64 z), (MapKept.heap_set hb).1, hB.modify i _ (fun _ => rfl), by rw [e']; exact he.modify c _ i _ hi (fun _ _ => ⟨rfl, rfl⟩), hmn _, hfin⟩
    simp only [Instr.mapUpdate, Sem.run_bind, run_underlying hu, Result.andThen_ok, run_getObj_mapQ hb, Sem.run_pure, run_checkKey_msk, run_findKey_msk c w hc es.toList M hm he, hl, hst]
    rw [MapKept.run_setObj_map _ hb]
end Go.Proofs.YtblmiocjhbpklaaDoor

/- The model's tables, step by step, as plain data. No program in it. -/
namespace Go.Proofs.YtblmiocjhbpklaaDoor
set_option maxRecDepth 100000
open Go.ChangeShapes Go.WideShapes Go.ChangeAt Go.RowKit
set_option linter.unusedVariables false
set_option linter.unusedSimpArgs false

abbrev Tb := Nat → Nat → Bool
def setT (f : Tb) (i0 j0 : Nat) (x : Bool) : Tb := fun i j => if i = i0 ∧ j = j0 then x else f i j
def gridF (same : Bool) : Tb := fun i j => same && (i == j)
/-- Nothing below the diagonal. -/
def LowT (N : Nat) (f : Tb) : Prop := ∀ i j, i < N → j < N → f i j = true → i ≤ j
theorem low_grid (N : Nat) (b : Bool) : LowT N (gridF b) := by
  intro i j _ _ h
  unfold gridF at h
  simp only [Bool.and_eq_true, beq_iff_eq] at h
  omega
theorem low_join {N : Nat} {a b : Tb} : LowT N (joinG a b) := by
  intro i j _ _ h
  obtain ⟨k, h1, h2, _⟩ := joinG_iff.1 h
  omega
theorem low_pow {N : Nat} {a : Tb} (k : Nat) : LowT N (powG a k) := by
  cases k with
  | zero =>
    intro i j _ _ h
    unfold powG sameG at h
    simp only [beq_iff_eq] at h
    omega
  | succ k => exact low_join
def repK (a : Tb) (lo k : Nat) : Tb := fun i j => (List.range k).any fun s => decide (lo ≤ s) && powG a s i j
theorem repK_succ (a : Tb) (lo k i j : Nat) : repK a lo (k + 1) i j = if lo ≤ k then (repK a lo k i j || powG a k i j) else repK a lo k i j := by
  unfold repK
  rw [List.range_succ, List.any_append]
  by_cases h : lo ≤ k <;> simp [h]
theorem low_rep {N : Nat} {a : Tb} (lo k : Nat) : LowT N (repK a lo k) := by
  intro i j hi hj h
  unfold repK at h
  simp only [List.any_eq_true, Bool.and_eq_true] at h
  obtain ⟨s, _, _, h⟩ := h
  exact low_pow s i j hi hj h
theorem low_gT (w : List Int) (T : Tr) (N : Nat) : LowT N (gT w T) := by
  induction T with
  | nil => intro i j _ _ h; cases h
  | node t l r hl hr =>
    intro i j hi hj h
    unfold gT at h
    by_cases h2 : t.kd = 2
    · rw [if_pos h2] at h; unfold sameG at h; simp only [beq_iff_eq] at h; omega
    rw [if_neg h2] at h
    by_cases h3 : t.kd = 3
    · rw [if_pos h3] at h; simp only [Bool.and_eq_true, beq_iff_eq] at h; omega
    rw [if_neg h3] at h
    by_cases h4 : t.kd = 4
    · rw [if_pos h4] at h; exact low_join (N := N) i j hi hj h
    rw [if_neg h4] at h
    by_cases h5 : t.kd = 5
    · rw [if_pos h5] at h
      simp only [Bool.or_eq_true] at h
      rcases h with h | h
      · exact hl i j hi hj h
      · exact hr i j hi hj h
    rw [if_neg h5] at h
    by_cases h6 : t.kd = 6
    · rw [if_pos h6] at h; exact low_rep (N := N) 0 (w.length + 1) i j hi hj h
    rw [if_neg h6] at h
    by_cases h7 : t.kd = 7
    · rw [if_pos h7] at h; exact low_rep (N := N) _ _ i j hi hj h
    rw [if_neg h7] at h; cases h
/-- Either of two tables, up to a place. -/
def eitF (a b : Tb) (i0 j0 : Nat) : Tb := fun i j => decide (i ≤ j) && (decide (i < i0) || (decide (i = i0) && decide (j < j0))) && (a i j || b i j)
theorem eitF_zero (a b : Tb) (i j : Nat) : eitF a b 0 0 i j = gridF false i j := by unfold eitF gridF; simp
theorem eitF_step (a b : Tb) {i0 j0 : Nat} (h : i0 ≤ j0) (i j : Nat) : setT (eitF a b i0 j0) i0 j0 (a i0 j0 || b i0 j0) i j = eitF a b i0 (j0 + 1) i j := by
  unfold setT eitF
  by_cases e : i = i0 ∧ j = j0
  · obtain ⟨rfl, rfl⟩ := e
    simp [h]
  · rw [if_neg e, Bool.eq_iff_iff]
    simp only [Bool.and_eq_true, Bool.or_eq_true, decide_eq_true_eq]
    constructor
    · rintro ⟨⟨h1, h2⟩, h3⟩; exact ⟨⟨h1, by omega⟩, h3⟩
    · rintro ⟨⟨h1, h2⟩, h3⟩; exact ⟨⟨h1, by omega⟩, h3⟩
theorem eitF_row (a b : Tb) {i0 N : Nat} (i j : Nat) (hj : j < N) : eitF a b i0 N i j = eitF a b (i0 + 1) (i0 + 1) i j := by
  unfold eitF
  rw [Bool.eq_iff_iff]
  simp only [Bool.and_eq_true, Bool.or_eq_true, decide_eq_true_eq]
  constructor
  · rintro ⟨⟨h1, h2⟩, h3⟩; exact ⟨⟨h1, by omega⟩, h3⟩
  · rintro ⟨⟨h1, h2⟩, h3⟩; exact ⟨⟨h1, by omega⟩, h3⟩
theorem eitF_all {a b : Tb} {N : Nat} (ha : LowT N a) (hb : LowT N b) (i j : Nat) (hi : i < N) (hj : j < N) : eitF a b N N i j = (a i j || b i j) := by
  unfold eitF
  rw [Bool.eq_iff_iff]
  simp only [Bool.and_eq_true, Bool.or_eq_true, decide_eq_true_eq]
  constructor
  · rintro ⟨_, h⟩; exact h
  · intro h
    refine ⟨⟨?_, by omega⟩, h⟩
    rcases h with h | h
    · exact ha i j hi hj h
    · exact hb i j hi hj h
/-- Two tables joined, up to a place. -/
def anyK (a b : Tb) (i k0 j : Nat) : Bool := (List.range k0).any fun s => decide (i ≤ s) && decide (s ≤ j) && a i s && b s j
theorem anyK_iff {a b : Tb} {i k0 j : Nat} : anyK a b i k0 j = true ↔ ∃ s, s < k0 ∧ i ≤ s ∧ s ≤ j ∧ a i s = true ∧ b s j = true := by
  unfold anyK
  simp only [List.any_eq_true, List.mem_range, Bool.and_eq_true, decide_eq_true_eq]
  constructor
  · rintro ⟨s, h1, ⟨⟨⟨h2, h3⟩, h4⟩, h5⟩⟩; exact ⟨s, h1, h2, h3, h4, h5⟩
  · rintro ⟨s, h1, h2, h3, h4, h5⟩; exact ⟨s, h1, ⟨⟨⟨h2, h3⟩, h4⟩, h5⟩⟩
def joiF (a b : Tb) (i0 k0 j0 : Nat) : Tb := fun i j => (decide (i < i0) && joinG a b i j) || (decide (i = i0) && (anyK a b i k0 j || (decide (j < j0) && decide (k0 ≤ j) && a i k0 && b k0 j)))
theorem joiF_iff {a b : Tb} {i0 k0 j0 i j : Nat} : joiF a b i0 k0 j0 i j = true ↔ (i < i0 ∧ joinG a b i j = true) ∨ (i = i0 ∧ (anyK a b i k0 j = true ∨ (j < j0 ∧ k0 ≤ j ∧ a i k0 = true ∧ b k0 j = true))) := by
  unfold joiF
  simp only [Bool.or_eq_true, Bool.and_eq_true, decide_eq_true_eq, and_assoc]
theorem joiF_zero (a b : Tb) (i j : Nat) : joiF a b 0 0 0 i j = gridF false i j := by unfold joiF gridF anyK; simp
theorem joiF_step (a b : Tb) {i0 k0 j0 : Nat} (hk : k0 ≤ j0) (ha : a i0 k0 = true) (i j : Nat) : setT (joiF a b i0 k0 j0) i0 j0 (joiF a b i0 k0 j0 i0 j0 || b k0 j0) i j = joiF a b i0 k0 (j0 + 1) i j := by
  unfold setT
  by_cases e : i = i0 ∧ j = j0
  · obtain ⟨rfl, rfl⟩ := e
    rw [if_pos ⟨rfl, rfl⟩, Bool.eq_iff_iff]
    simp only [Bool.or_eq_true, joiF_iff]
    constructor
    · rintro ((⟨h, _⟩ | ⟨_, h | ⟨h, _⟩⟩) | h)
      · omega
      · exact .inr ⟨trivial, .inl h⟩
      · omega
      · exact .inr ⟨trivial, .inr ⟨by omega, hk, ha, h⟩⟩
    · rintro (⟨h, _⟩ | ⟨_, h | ⟨_, _, _, h⟩⟩)
      · omega
      · exact .inl (.inr ⟨trivial, .inl h⟩)
      · exact .inr h
  · rw [if_neg e, Bool.eq_iff_iff]
    simp only [joiF_iff]
    constructor
    · rintro (h | ⟨h1, h | ⟨h2, h3⟩⟩)
      · exact .inl h
      · exact .inr ⟨h1, .inl h⟩
      · exact .inr ⟨h1, .inr ⟨by omega, h3⟩⟩
    · rintro (h | ⟨h1, h | ⟨h2, h3⟩⟩)
      · exact .inl h
      · exact .inr ⟨h1, .inl h⟩
      · exact .inr ⟨h1, .inr ⟨by omega, h3⟩⟩
theorem anyK_succ {a b : Tb} {i k0 j : Nat} (h : i ≤ k0) : anyK a b i (k0 + 1) j = true ↔ anyK a b i k0 j = true ∨ (k0 ≤ j ∧ a i k0 = true ∧ b k0 j = true) := by
  simp only [anyK_iff]
  constructor
  · rintro ⟨s, h1, h2, h3, h4, h5⟩
    by_cases e : s = k0
    · subst e; exact .inr ⟨h3, h4, h5⟩
    · exact .inl ⟨s, by omega, h2, h3, h4, h5⟩
  · rintro (⟨s, h1, h2, h3, h4, h5⟩ | ⟨h3, h4, h5⟩)
    · exact ⟨s, by omega, h2, h3, h4, h5⟩
    · exact ⟨k0, by omega, h, h3, h4, h5⟩
theorem joiF_mid {a b : Tb} {i0 k0 N : Nat} (hi : i0 ≤ k0) (i j : Nat) (hj : j < N) : joiF a b i0 k0 N i j = joiF a b i0 (k0 + 1) (k0 + 1) i j := by
  rw [Bool.eq_iff_iff]
  simp only [joiF_iff]
  constructor
  · rintro (h | ⟨rfl, h | ⟨_, h⟩⟩)
    · exact .inl h
    · exact .inr ⟨rfl, .inl ((anyK_succ hi).2 (.inl h))⟩
    · exact .inr ⟨rfl, .inl ((anyK_succ hi).2 (.inr h))⟩
  · rintro (h | ⟨rfl, h | ⟨h1, h2, _⟩⟩)
    · exact .inl h
    · rcases (anyK_succ hi).1 h with h | h
      · exact .inr ⟨rfl, .inl h⟩
      · exact .inr ⟨rfl, .inr ⟨hj, h⟩⟩
    · omega
theorem joiF_skip {a b : Tb} {i0 k0 : Nat} (hi : i0 ≤ k0) (ha : a i0 k0 = false) (i j : Nat) : joiF a b i0 k0 k0 i j = joiF a b i0 (k0 + 1) (k0 + 1) i j := by
  rw [Bool.eq_iff_iff]
  simp only [joiF_iff]
  constructor
  · rintro (h | ⟨rfl, h | ⟨h1, h2, _⟩⟩)
    · exact .inl h
    · exact .inr ⟨rfl, .inl ((anyK_succ hi).2 (.inl h))⟩
    · omega
  · rintro (h | ⟨rfl, h | ⟨h1, h2, _⟩⟩)
    · exact .inl h
    · rcases (anyK_succ hi).1 h with h | ⟨_, h, _⟩
      · exact .inr ⟨rfl, .inl h⟩
      · rw [ha] at h; cases h
    · omega
theorem joiF_row {a b : Tb} {i0 N : Nat} (i j : Nat) (hi : i < N) (hj : j < N) : joiF a b i0 N N i j = joiF a b (i0 + 1) (i0 + 1) (i0 + 1) i j := by
  rw [Bool.eq_iff_iff]
  simp only [joiF_iff, anyK_iff]
  constructor
  · rintro (⟨h1, h2⟩ | ⟨rfl, ⟨s, h1, h2, h3, h4, h5⟩ | ⟨h1, h2, _⟩⟩)
    · exact .inl ⟨by omega, h2⟩
    · exact .inl ⟨by omega, joinG_iff.2 ⟨s, h2, h3, h4, h5⟩⟩
    · omega
  · rintro (⟨h1, h2⟩ | ⟨rfl, ⟨s, h1, h2, h3, h4, h5⟩ | ⟨h1, h2, _⟩⟩)
    · by_cases e : i = i0
      · subst e
        obtain ⟨s, h3, h4, h5, h6⟩ := joinG_iff.1 h2
        exact .inr ⟨rfl, .inl ⟨s, by omega, h3, h4, h5, h6⟩⟩
      · exact .inl ⟨by omega, h2⟩
    · omega
    · omega
theorem joiF_all {a b : Tb} {N : Nat} (i j : Nat) (hi : i < N) (hj : j < N) (k j0 : Nat) : joiF a b N k j0 i j = joinG a b i j := by
  rw [Bool.eq_iff_iff]
  simp only [joiF_iff]
  constructor
  · rintro (⟨_, h⟩ | ⟨h, _⟩)
    · exact h
    · omega
  · intro h; exact .inl ⟨hi, h⟩
/-- The table of a letter, up to a place. -/
def letF (w : List Int) (c : Int) (k0 : Nat) : Tb := fun i j => decide (i < k0) && (j == i + 1) && (w[i]? == some c)
theorem letF_zero (w : List Int) (c : Int) (i j : Nat) : letF w c 0 i j = gridF false i j := by unfold letF gridF; simp
theorem letF_step {w : List Int} {c : Int} {k : Nat} (hk : k < w.length) (i j : Nat) : setT (letF w c k) k (k + 1) (w[k] == c) i j = letF w c (k + 1) i j := by
  unfold setT letF
  by_cases e : i = k ∧ j = k + 1
  · obtain ⟨rfl, rfl⟩ := e
    simp [List.getElem?_eq_getElem hk]
  · rw [if_neg e, Bool.eq_iff_iff]
    simp only [Bool.and_eq_true, decide_eq_true_eq, beq_iff_eq]
    constructor
    · rintro ⟨⟨h1, h2⟩, h3⟩; exact ⟨⟨by omega, h2⟩, h3⟩
    · rintro ⟨⟨h1, h2⟩, h3⟩; exact ⟨⟨by omega, h2⟩, h3⟩
theorem letF_all (w : List Int) (c : Int) (i j : Nat) : letF w c w.length i j = ((j == i + 1) && (w[i]? == some c)) := by
  unfold letF
  by_cases h : i < w.length
  · simp [h]
  · simp [h, List.getElem?_eq_none (show w.length ≤ i by omega)]
end Go.Proofs.YtblmiocjhbpklaaDoor
