/- The language of an expression, as plain data: what the constructors' and the derivatives' languages are. No program in it. -/
import Derived.Test.YtiojgahjfndmdaaDoorDvM
namespace Go.Proofs.YtiojgahjfndmdaaDoor
set_option maxRecDepth 100000
open Go.ChangeShapes Go.WideShapes Go.ChangeAt Go.RowKit
set_option linter.unusedVariables false
set_option linter.unusedSimpArgs false

def CatP (P Q : List Int → Prop) (w : List Int) : Prop := ∃ u v, w = u ++ v ∧ P u ∧ Q v
def PowP (P : List Int → Prop) : Nat → List Int → Prop
  | 0, w => w = []
  | k + 1, w => CatP P (PowP P k) w
/-- The words that a tree takes. -/
def LgT : Tr → List Int → Prop
  | .nil, _ => False
  | .node t l r, w => if t.kd = 2 then w = [] else if t.kd = 3 then w = [t.lr] else if t.kd = 4 then CatP (LgT l) (LgT r) w else if t.kd = 5 then LgT l w ∨ LgT r w
    else if t.kd = 6 then ∃ k, PowP (LgT l) k w else if t.kd = 7 then ∃ k : Nat, t.lo ≤ (k : Int) ∧ (k : Int) ≤ t.hi ∧ PowP (LgT l) k w else False
def LgX (xs : List Tok) (w : List Int) : Prop := ∃ T, treeO xs = some T ∧ LgT T w
theorem LgX_post {T : Tr} (h : T.ok) (w : List Int) : LgX T.post w ↔ LgT T w := by
  unfold LgX
  rw [treeO_post h]
  exact ⟨fun ⟨S, e, k⟩ => by injection e with e; subst e; exact k, fun k => ⟨T, rfl, k⟩⟩
theorem catP_nil {P Q : List Int → Prop} : CatP P Q [] ↔ P [] ∧ Q [] := by
  constructor
  · rintro ⟨u, v, e, p, q⟩
    have := List.append_eq_nil_iff.1 e.symm
    rw [this.1] at p; rw [this.2] at q; exact ⟨p, q⟩
  · rintro ⟨p, q⟩; exact ⟨[], [], rfl, p, q⟩
theorem powP_nil {P : List Int → Prop} (k : Nat) : PowP P k [] ↔ k = 0 ∨ P [] := by
  induction k with
  | zero => simp [PowP]
  | succ k ih =>
    rw [PowP, catP_nil, ih]
    constructor
    · rintro ⟨p, _⟩; exact .inr p
    · rintro (h | h)
      · omega
      · exact ⟨h, .inr h⟩
/-- The empty word. -/
theorem lg_nil {T : Tr} (h : T.ok) : LgT T [] ↔ nulT T = true := by
  induction T with
  | nil => exact h.elim
  | node t l r hl hr =>
    obtain ⟨ht, hc⟩ := h
    obtain ⟨k1, k7⟩ := okT_kd ht
    unfold LgT nulT
    rcases (by omega : t.kd = 1 ∨ t.kd = 2 ∨ t.kd = 3 ∨ t.kd = 4 ∨ t.kd = 5 ∨ t.kd = 6 ∨ t.kd = 7) with e | e | e | e | e | e | e
    · simp [e]
    · simp [e]
    · simp [e]
    · have h2 : opN t = 2 := by unfold opN; rw [if_pos (.inl e)]
      rcases hc with ⟨h0, _⟩ | ⟨h1, _⟩ | ⟨_, hlo, hro⟩
      · omega
      · omega
      · simp [e, catP_nil, hl hlo, hr hro]
    · have h2 : opN t = 2 := by unfold opN; rw [if_pos (.inr e)]
      rcases hc with ⟨h0, _⟩ | ⟨h1, _⟩ | ⟨_, hlo, hro⟩
      · omega
      · omega
      · simp [e, hl hlo, hr hro]
    · simp only [e]
      simp
      exact ⟨0, rfl⟩
    · have h1' : opN t = 1 := by unfold opN; rw [if_neg (by omega), if_pos (.inr e)]
      rcases hc with ⟨h0, _⟩ | ⟨h1, hlo, rfl⟩ | ⟨h2, _⟩
      · omega
      · obtain ⟨a, b, c, d⟩ := okT_repD ht e
        simp only [e]
        simp
        rw [← hl hlo]
        constructor
        · rintro ⟨k, k1, k2, k3⟩
          rcases (powP_nil k).1 k3 with rfl | h
          · exact .inl (by omega)
          · exact .inr h
        · rintro (h | h)
          · exact ⟨0, by omega, by omega, rfl⟩
          · exact ⟨t.hi.toNat, by omega, by omega, (powP_nil _).2 (.inr h)⟩
      · omega
theorem catP_cons {P Q : List Int → Prop} {c : Int} {w : List Int} : CatP P Q (c :: w) ↔ (P [] ∧ Q (c :: w)) ∨ CatP (fun u => P (c :: u)) Q w := by
  constructor
  · rintro ⟨u, v, e, p, q⟩
    cases u with
    | nil => rw [List.nil_append] at e; subst e; exact .inl ⟨p, q⟩
    | cons d u =>
      rw [List.cons_append] at e
      injection e with e1 e2
      subst e1
      exact .inr ⟨u, v, e2, p, q⟩
  · rintro (⟨p, q⟩ | ⟨u, v, e, p, q⟩)
    · exact ⟨[], _, rfl, p, q⟩
    · exact ⟨c :: u, v, by rw [e]; rfl, p, q⟩
theorem powP_more {P : List Int → Prop} (h0 : P []) (k : Nat) (w : List Int) (h : PowP P k w) : PowP P (k + 1) w := ⟨[], w, rfl, h0, h⟩
/-- A power behind its first letter: an operand that takes the empty word makes no difference. -/
theorem powP_cons {P : List Int → Prop} {c : Int} (k : Nat) (w : List Int) : PowP P (k + 1) (c :: w) ↔ CatP (fun u => P (c :: u)) (PowP P k) w := by
  constructor
  · intro h
    induction k with
    | zero =>
      rw [PowP, catP_cons] at h
      rcases h with ⟨_, h⟩ | h
      · cases h
      · exact h
    | succ k ih =>
      rw [PowP, catP_cons] at h
      rcases h with ⟨h0, h⟩ | h
      · obtain ⟨u, v, e, p, q⟩ := ih h
        exact ⟨u, v, e, p, powP_more h0 k v q⟩
      · exact h
  · intro h
    rw [PowP, catP_cons]
    exact .inr h
theorem powP_one {P : List Int → Prop} (w : List Int) : PowP P 1 w ↔ P w := by
  constructor
  · rintro ⟨u, v, e, p, q⟩
    cases q
    rw [List.append_nil] at e; subst e; exact p
  · intro h; exact ⟨w, [], by simp, h, rfl⟩
theorem lgX_two {xs ys : List Tok} {t : Tok} (hx : isP xs) (hy : isP ys) (ht : okT t = true) (h2 : opN t = 2) (w : List Int) :
    LgX (xs ++ ys ++ [t]) w ↔ (t.kd = 4 ∧ CatP (LgX xs) (LgX ys) w) ∨ (t.kd = 5 ∧ (LgX xs w ∨ LgX ys w)) := by
  obtain ⟨A, ha, rfl⟩ := hx
  obtain ⟨B, hb, rfl⟩ := hy
  have hk : (Tr.node t A B).ok := ⟨ht, .inr (.inr ⟨h2, ha, hb⟩)⟩
  rw [show A.post ++ B.post ++ [t] = (Tr.node t A B).post from rfl, LgX_post hk]
  have ea : LgX A.post = LgT A := by funext w; exact propext (LgX_post ha w)
  have eb : LgX B.post = LgT B := by funext w; exact propext (LgX_post hb w)
  rw [ea, eb]
  have h45 : t.kd = 4 ∨ t.kd = 5 := by unfold opN at h2; split at h2; · assumption
                                       · split at h2 <;> omega
  rcases h45 with e | e <;> simp [LgT, e]
theorem lgX_alone1 {xs : List Tok} (h : alone xs 1 = true) (w : List Int) : ¬ LgX xs w := by
  match xs, h with
  | [t], h =>
    rw [alone_one] at h
    have e : t.kd = 1 := by simpa using h
    rintro ⟨T, ht, hw⟩
    obtain ⟨ho, hp⟩ := treeO_some ht
    cases T with
    | nil => exact ho
    | node s l r =>
      have : s = t := by simp [Tr.post] at hp; have := congrArg List.getLast? hp; simp at this; exact this.symm
      subst this
      simp [LgT, e] at hw
theorem lgX_alone2 {xs : List Tok} (hx : isP xs) (h : alone xs 2 = true) (w : List Int) : LgX xs w ↔ w = [] := by
  match xs, h with
  | [t], h =>
    rw [alone_one] at h
    have e : t.kd = 2 := by simpa using h
    obtain ⟨T, ho, hp⟩ := hx
    rw [hp, LgX_post ho]
    cases T with
    | nil => exact ho.elim
    | node s l r =>
      have : s = t := by simp [Tr.post] at hp; have := congrArg List.getLast? hp; simp at this; exact this.symm
      subst this
      simp [LgT, e]
theorem catP_left_nil {P Q : List Int → Prop} (h : ∀ u, P u ↔ u = []) (w : List Int) : CatP P Q w ↔ Q w := by
  constructor
  · rintro ⟨u, v, e, p, q⟩; rw [(h u).1 p, List.nil_append] at e; subst e; exact q
  · intro q; exact ⟨[], w, rfl, (h []).2 rfl, q⟩
theorem catP_right_nil {P Q : List Int → Prop} (h : ∀ u, Q u ↔ u = []) (w : List Int) : CatP P Q w ↔ P w := by
  constructor
  · rintro ⟨u, v, e, p, q⟩; rw [(h v).1 q, List.append_nil] at e; subst e; exact p
  · intro q; exact ⟨w, [], by simp, q, (h []).2 rfl⟩
/-- The constructors' languages. -/
theorem lg_cat {xs ys : List Tok} (hx : isP xs) (hy : isP ys) (w : List Int) : LgX (catX xs ys) w ↔ CatP (LgX xs) (LgX ys) w := by
  unfold catX
  cases h1 : alone xs 1 with
  | true =>
    refine ⟨fun h => absurd h (lgX_alone1 rfl w), ?_⟩
    rintro ⟨u, v, _, p, _⟩; exact absurd p (lgX_alone1 h1 u)
  | false =>
    cases h2 : alone ys 1 with
    | true =>
      refine ⟨fun h => absurd h (lgX_alone1 rfl w), ?_⟩
      rintro ⟨u, v, _, _, q⟩; exact absurd q (lgX_alone1 h2 v)
    | false =>
      cases h3 : alone xs 2 with
      | true => exact (catP_left_nil (fun u => lgX_alone2 hx h3 u) w).symm
      | false =>
        cases h4 : alone ys 2 with
        | true => exact (catP_right_nil (fun u => lgX_alone2 hy h4 u) w).symm
        | false =>
          have := lgX_two (t := leafK 4) hx hy (by decide) (by decide) w
          simpa [leafK] using this
theorem lg_uni {xs ys : List Tok} (hx : isP xs) (hy : isP ys) (w : List Int) : LgX (uniX xs ys) w ↔ LgX xs w ∨ LgX ys w := by
  unfold uniX
  cases h1 : alone xs 1 with
  | true => exact ⟨fun h => .inr h, fun h => h.elim (fun h => absurd h (lgX_alone1 h1 w)) id⟩
  | false =>
    cases h2 : decide (xs = ys) with
    | true =>
      have e : xs = ys := of_decide_eq_true h2
      subst e
      exact ⟨fun h => .inr h, fun h => h.elim id id⟩
    | false =>
      cases h3 : alone ys 1 with
      | true => exact ⟨fun h => .inl h, fun h => h.elim id (fun h => absurd h (lgX_alone1 h3 w))⟩
      | false =>
        have := lgX_two (t := leafK 5) hx hy (by decide) (by decide) w
        simpa [leafK] using this
theorem lg_rep {xs : List Tok} {lo hi : Int} (hx : isP xs) (h0 : 0 ≤ lo) (h1 : lo ≤ hi) (h3 : hi ≤ 3) (w : List Int) : LgX (repX xs lo hi) w ↔ ∃ k : Nat, lo ≤ (k : Int) ∧ (k : Int) ≤ hi ∧ PowP (LgX xs) k w := by
  unfold repX
  cases ha : (lo == 0 && hi == 0) with
  | true =>
    have e1 : lo = 0 := by simp at ha; exact ha.1
    have e2 : hi = 0 := by simp at ha; exact ha.2
    refine (lgX_alone2 (isP_leaf (.inr rfl)) rfl w).trans ⟨fun h => ⟨0, by omega, by omega, h⟩, ?_⟩
    rintro ⟨k, k1, k2, k3⟩
    obtain rfl : k = 0 := by omega
    exact k3
  | false =>
    cases hb : (lo == 1 && hi == 1) with
    | true =>
      have e1 : lo = 1 := by simp at hb; exact hb.1
      have e2 : hi = 1 := by simp at hb; exact hb.2
      refine ⟨fun h => ⟨1, by omega, by omega, (powP_one w).2 h⟩, ?_⟩
      rintro ⟨k, k1, k2, k3⟩
      obtain rfl : k = 1 := by omega
      exact (powP_one w).1 k3
    | false =>
      have hp := isP_rep hx h0 h1 h3
      unfold repX at hp
      rw [ha, hb] at hp
      obtain ⟨A, hA, rfl⟩ := hx
      have hh : 1 ≤ hi := by
        rcases (by omega : hi = 0 ∨ 1 ≤ hi) with e | e
        · have e2 : lo = 0 := by omega
          subst e; subst e2; cases ha
        · exact e
      have hk : (Tr.node ⟨7, 0, lo, hi⟩ A .nil).ok := by
        refine ⟨?_, .inr (.inl ⟨by simp [opN], hA, rfl⟩)⟩
        unfold okT
        simp only [Bool.or_eq_true, Bool.and_eq_true, decide_eq_true_eq]
        exact .inr ⟨trivial, trivial, h0, h1, hh, h3⟩
      have ea : LgX A.post = LgT A := by funext w; exact propext (LgX_post hA w)
      have e : A.post ++ [(⟨7, 0, lo, hi⟩ : Tok)] = (Tr.node ⟨7, 0, lo, hi⟩ A .nil).post := by simp [Tr.post]
      simp only [cond_false]
      rw [e, LgX_post hk, ea]
      simp [LgT]
/-- The language of the derivative. -/
theorem lg_der (c : Int) {T : Tr} (h : T.ok) (w : List Int) : LgX (derT c T) w ↔ LgT T (c :: w) := by
  induction T generalizing w with
  | nil => exact h.elim
  | node t l r hl hr =>
    have h' := h
    obtain ⟨ht, hc⟩ := h
    obtain ⟨k1, k7⟩ := okT_kd ht
    have n1 : ∀ w, ¬ LgX [leafK 1] w := fun w => lgX_alone1 rfl w
    unfold derT LgT
    rcases (by omega : t.kd = 1 ∨ t.kd = 2 ∨ t.kd = 3 ∨ t.kd = 4 ∨ t.kd = 5 ∨ t.kd = 6 ∨ t.kd = 7) with e | e | e | e | e | e | e
    · simp [e, n1]
    · simp [e, n1]
    · simp only [e]
      by_cases hq : t.lr = c
      · have := lgX_alone2 (isP_leaf (k := 2) (.inr rfl)) rfl w
        simp [hq, this]
      · have hq2 : ¬ c = t.lr := fun h => hq h.symm
        simp [hq, hq2, n1]
    · have h2 : opN t = 2 := by unfold opN; rw [if_pos (.inl e)]
      rcases hc with ⟨h0, _⟩ | ⟨h1, _⟩ | ⟨_, hlo, hro⟩
      · omega
      · omega
      · have ec := lg_cat (isP_der c hlo) ⟨r, hro, rfl⟩ w
        have ea : LgX (derT c l) = fun u => LgT l (c :: u) := by funext u; exact propext (hl hlo u)
        have eb : LgX r.post = LgT r := by funext u; exact propext (LgX_post hro u)
        rw [ea, eb] at ec
        simp [e]
        rw [catP_cons, lg_nil hlo]
        cases hn : nulT l with
        | true =>
          simp
          rw [lg_uni (isP_cat (isP_der c hlo) ⟨r, hro, rfl⟩) (isP_der c hro), ec, hr hro]
          exact Or.comm
        | false => simp [ec]
    · have h2 : opN t = 2 := by unfold opN; rw [if_pos (.inr e)]
      rcases hc with ⟨h0, _⟩ | ⟨h1, _⟩ | ⟨_, hlo, hro⟩
      · omega
      · omega
      · simp [e]
        rw [lg_uni (isP_der c hlo) (isP_der c hro), hl hlo, hr hro]
    · have h1' : opN t = 1 := by unfold opN; rw [if_neg (by omega), if_pos (.inl e)]
      rcases hc with ⟨h0, _⟩ | ⟨h1, hlo, rfl⟩ | ⟨h2, _⟩
      · omega
      · have ec := lg_cat (isP_der c hlo) ⟨_, h', rfl⟩ w
        have ea : LgX (derT c l) = fun u => LgT l (c :: u) := by funext u; exact propext (hl hlo u)
        have eb : LgX (Tr.node t l .nil).post = fun u => ∃ k, PowP (LgT l) k u := by funext u; exact propext ((LgX_post h' u).trans (by simp [LgT, e]))
        rw [ea, eb] at ec
        simp [e]
        rw [ec]
        constructor
        · rintro ⟨u, v, e1, p, k, q⟩
          exact ⟨k + 1, (powP_cons k w).2 ⟨u, v, e1, p, q⟩⟩
        · rintro ⟨k, hk⟩
          cases k with
          | zero => cases hk
          | succ k =>
            obtain ⟨u, v, e1, p, q⟩ := (powP_cons k w).1 hk
            exact ⟨u, v, e1, p, k, q⟩
      · omega
    · have h1' : opN t = 1 := by unfold opN; rw [if_neg (by omega), if_pos (.inr e)]
      rcases hc with ⟨h0, _⟩ | ⟨h1, hlo, rfl⟩ | ⟨h2, _⟩
      · omega
      · obtain ⟨a, b, d, f⟩ := okT_repD ht e
        have hp : isP (repX l.post (max 0 (t.lo - 1)) (t.hi - 1)) := isP_rep ⟨l, hlo, rfl⟩ (by omega) (by omega) (by omega)
        have ec := lg_cat (isP_der c hlo) hp w
        have ea : LgX (derT c l) = fun u => LgT l (c :: u) := by funext u; exact propext (hl hlo u)
        have el : LgX l.post = LgT l := by funext u; exact propext (LgX_post hlo u)
        have eb : LgX (repX l.post (max 0 (t.lo - 1)) (t.hi - 1)) = fun u => ∃ k : Nat, max 0 (t.lo - 1) ≤ (k : Int) ∧ (k : Int) ≤ t.hi - 1 ∧ PowP (LgT l) k u := by
          funext u
          refine propext ((lg_rep ⟨l, hlo, rfl⟩ (by omega) (by omega) (by omega) u).trans ?_)
          rw [el]
        rw [ea, eb] at ec
        simp [e]
        rw [ec]
        constructor
        · rintro ⟨u, v, e1, p, k, q1, q2, q⟩
          exact ⟨k + 1, by omega, by omega, (powP_cons k w).2 ⟨u, v, e1, p, q⟩⟩
        · rintro ⟨k, q1, q2, hk⟩
          cases k with
          | zero => cases hk
          | succ k =>
            obtain ⟨u, v, e1, p, q⟩ := (powP_cons k w).1 hk
            exact ⟨u, v, e1, p, k, by omega, by omega, q⟩
      · omega
end Go.Proofs.YtiojgahjfndmdaaDoor
