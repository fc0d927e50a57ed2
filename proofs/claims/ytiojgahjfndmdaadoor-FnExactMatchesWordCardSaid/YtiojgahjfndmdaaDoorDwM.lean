/- Derivatives by words, letters that do not occur, stars: what the great laws of chapter 9 ask. No program in it. -/
import Derived.Test.YtiojgahjfndmdaaDoorMtM
namespace Go.Proofs.YtiojgahjfndmdaaDoor
set_option maxRecDepth 100000
open Go.ChangeShapes Go.WideShapes Go.ChangeAt Go.RowKit
set_option linter.unusedVariables false
set_option linter.unusedSimpArgs false

theorem derX_lg {xs : List Tok} {c : Int} (h : (derX xs c).2 = true) (w : List Int) : LgX (derX xs c).1 w ↔ LgX xs (c :: w) := by
  unfold derX at h ⊢
  cases ht : treeO xs with
  | none => rw [ht] at h; cases h
  | some T =>
    rw [ht] at h
    simp only at h ⊢
    split at h
    · rename_i hc
      rw [if_pos hc]
      simp only
      rw [lg_der c (treeO_some ht).1 w]
      unfold LgX
      rw [ht]
      exact ⟨fun k => ⟨T, rfl, k⟩, fun ⟨S, e, k⟩ => by injection e with e; subst e; exact k⟩
    · cases h
theorem nulX_lg {xs : List Tok} (h : isXB xs = true) : nulX xs = true ↔ LgX xs [] := by
  unfold isXB at h
  cases ht : treeO xs with
  | none => rw [ht] at h; cases h
  | some T =>
    unfold nulX LgX
    rw [ht]
    simp only
    rw [← lg_nil (treeO_some ht).1]
    exact ⟨fun k => ⟨T, rfl, k⟩, fun ⟨S, e, k⟩ => by injection e with e; subst e; exact k⟩
theorem derWL_lg (w : List Int) : ∀ {xs : List Tok}, isXB xs = true → (derWL xs w).2 = true → isXB (derWL xs w).1 = true ∧ ∀ u, LgX (derWL xs w).1 u ↔ LgX xs (w ++ u) := by
  induction w with
  | nil => intro xs hx _; exact ⟨hx, fun u => Iff.rfl⟩
  | cons c w ih =>
    intro xs hx h
    unfold derWL at h ⊢
    split at h
    · rename_i hd
      rw [if_pos hd]
      obtain ⟨k1, k2⟩ := ih (derX_ok hd).1 h
      exact ⟨k1, fun u => (k2 u).trans (derX_lg hd (w ++ u))⟩
    · cases h
/-- A word is taken if and only if the derivative by it takes the empty word. -/
theorem derW_nul {xs : List Tok} {w : List Int} (h : (derW xs w).2 = true) : nulX (derW xs w).1 = true ↔ LgX xs w := by
  unfold derW at h ⊢
  split at h
  · rename_i hc
    rw [if_pos hc]
    obtain ⟨k1, k2⟩ := derWL_lg w hc.1 h
    rw [nulX_lg k1, k2 [], List.append_nil]
  · cases h
/-- The derivative by a letter that does not occur. -/
theorem derT_none (c : Int) {T : Tr} (h : T.ok) (hn : ∀ t ∈ T.post, t.kd = 3 → t.lr ≠ c) : derT c T = [leafK 1] := by
  have cat1 : ∀ ys, catX [leafK 1] ys = [leafK 1] := fun ys => by unfold catX; rw [show alone [leafK 1] 1 = true from rfl]; rfl
  have uni1 : uniX [leafK 1] [leafK 1] = [leafK 1] := by unfold uniX; rw [show alone [leafK 1] 1 = true from rfl]; rfl
  induction T with
  | nil => exact h.elim
  | node t l r hl hr =>
    obtain ⟨ht, hc⟩ := h
    have ml : ∀ x ∈ l.post, x ∈ (Tr.node t l r).post := fun x hx => by simp [Tr.post, hx]
    have mr : ∀ x ∈ r.post, x ∈ (Tr.node t l r).post := fun x hx => by simp [Tr.post, hx]
    have mt : t ∈ (Tr.node t l r).post := by simp [Tr.post]
    have nl : ∀ x ∈ l.post, x.kd = 3 → x.lr ≠ c := fun x hx => hn x (ml x hx)
    have nr : ∀ x ∈ r.post, x.kd = 3 → x.lr ≠ c := fun x hx => hn x (mr x hx)
    have h0 : opN t = if t.kd = 4 ∨ t.kd = 5 then 2 else if t.kd = 6 ∨ t.kd = 7 then 1 else 0 := rfl
    unfold derT
    by_cases e3 : t.kd = 3
    · rw [if_pos e3, if_neg (hn t mt e3)]
    rw [if_neg e3]
    by_cases e4 : t.kd = 4
    · have h2 : opN t = 2 := by rw [h0, if_pos (.inl e4)]
      rw [if_pos e4]
      rcases hc with ⟨g0, _⟩ | ⟨g1, _⟩ | ⟨_, hlo, hro⟩
      · omega
      · omega
      · rw [hl hlo nl, hr hro nr, cat1, uni1, ite_self]
    rw [if_neg e4]
    by_cases e5 : t.kd = 5
    · have h2 : opN t = 2 := by rw [h0, if_pos (.inr e5)]
      rw [if_pos e5]
      rcases hc with ⟨g0, _⟩ | ⟨g1, _⟩ | ⟨_, hlo, hro⟩
      · omega
      · omega
      · rw [hl hlo nl, hr hro nr, uni1]
    rw [if_neg e5]
    by_cases e6 : t.kd = 6
    · have h2 : opN t = 1 := by rw [h0, if_neg (by omega), if_pos (.inl e6)]
      rw [if_pos e6]
      rcases hc with ⟨g0, _⟩ | ⟨_, hlo, _⟩ | ⟨g2, _⟩
      · omega
      · rw [hl hlo nl, cat1]
      · omega
    rw [if_neg e6]
    by_cases e7 : t.kd = 7
    · have h2 : opN t = 1 := by rw [h0, if_neg (by omega), if_pos (.inr e7)]
      rw [if_pos e7]
      rcases hc with ⟨g0, _⟩ | ⟨_, hlo, _⟩ | ⟨g2, _⟩
      · omega
      · rw [hl hlo nl, cat1]
      · omega
    rw [if_neg e7]
/-- The language of a star. -/
theorem powP_all {P : List Int → Prop} {k : Nat} (Q : List Int → Prop) (h0 : Q []) (h1 : ∀ u v, P u → Q v → Q (u ++ v)) : ∀ w, PowP P k w → Q w := by
  induction k with
  | zero => intro w h; cases h; exact h0
  | succ k ih => rintro w ⟨u, v, e, p, q⟩; rw [e]; exact h1 u v p (ih v q)
theorem powP_add {P : List Int → Prop} (k m : Nat) (u v : List Int) (h : PowP P k u) (g : PowP P m v) : PowP P (k + m) (u ++ v) := by
  induction k generalizing u with
  | zero => cases h; simpa using g
  | succ k ih =>
    obtain ⟨a, b, e, p, q⟩ := h
    rw [show k + 1 + m = (k + m) + 1 from by omega]
    exact ⟨a, b ++ v, by rw [e, List.append_assoc], p, ih b q⟩
theorem lg_star {xs : List Tok} (hx : isP xs) (w : List Int) : LgX (starX xs) w ↔ ∃ k, PowP (LgX xs) k w := by
  have two : ∀ w, LgX [leafK 2] w ↔ w = [] := fun w => lgX_alone2 (isP_leaf (.inr rfl)) rfl w
  unfold starX
  cases h1 : alone xs 1 with
  | true =>
    refine (two w).trans ⟨fun e => ⟨0, e⟩, ?_⟩
    rintro ⟨k, hk⟩
    cases k with
    | zero => exact hk
    | succ k => obtain ⟨u, v, _, p, _⟩ := hk; exact absurd p (lgX_alone1 h1 u)
  | false =>
    cases h2 : alone xs 2 with
    | true =>
      refine (two w).trans ⟨fun e => ⟨0, e⟩, ?_⟩
      rintro ⟨k, hk⟩
      exact powP_all (fun w => w = []) rfl (fun u v p q => by rw [(lgX_alone2 hx h2 u).1 p, q]; rfl) w hk
    | false =>
      obtain ⟨A, hA, rfl⟩ := hx
      have ea : LgX A.post = LgT A := by funext u; exact propext (LgX_post hA u)
      cases h3 : lastB A.post 6 with
      | true =>
        show LgX A.post w ↔ _
        rw [ea]
        cases A with
        | nil => exact hA.elim
        | node t l r =>
          have e6 : t.kd = 6 := by simpa [lastB, Tr.post] using h3
          have el : ∀ u, LgT (.node t l r) u ↔ ∃ k, PowP (LgT l) k u := fun u => by simp [LgT, e6]
          constructor
          · intro h; exact ⟨1, (powP_one w).2 h⟩
          · rintro ⟨k, hk⟩
            refine powP_all (fun w => LgT (.node t l r) w) ((el []).2 ⟨0, rfl⟩) (fun u v p q => ?_) w hk
            obtain ⟨a, ha⟩ := (el u).1 p
            obtain ⟨b, hb⟩ := (el v).1 q
            exact (el _).2 ⟨a + b, powP_add a b u v ha hb⟩
      | false =>
        have hk : (Tr.node (leafK 6) A .nil).ok := ⟨by decide, .inr (.inl ⟨by decide, hA, rfl⟩)⟩
        have e : A.post ++ [leafK 6] = (Tr.node (leafK 6) A .nil).post := by simp [Tr.post]
        simp only [cond_false]
        rw [e, LgX_post hk, ea]
        simp [LgT, leafK]
end Go.Proofs.YtiojgahjfndmdaaDoor
