/- Numbering the states of a machine of any type, without a limit: what is found is closed. Plain data. -/
import Derived.Test.YtmaagihfjldgeaaGaM
namespace Go.Proofs.Ytmaagihfjldgeaa
set_option maxRecDepth 100000
set_option linter.unusedVariables false
set_option linter.unusedSimpArgs false
set_option linter.unusedSectionVars false

section
variable {α : Type} [DecidableEq α] {step : α → Nat → Option α} {N : Nat} {Q : α → Prop}
def addG (F : List α) (o : Option α) : List α := match o with
  | none => F
  | some x => if x ∈ F then F else F ++ [x]
/-- The letters from 9 - m on. -/
def rowG (step : α → Nat → Option α) (s : α) : Nat → List α → List α
  | 0, F => F
  | m + 1, F => rowG step s m (addG F (step s (8 - m)))
def runG (step : α → Nat → Option α) : Nat → Nat → List α → List α
  | 0, _, F => F
  | m + 1, p, F => match F[p]? with
    | none => F
    | some s => runG step m (p + 1) (rowG step s 9 F)
theorem rowG_at (step : α → Nat → Option α) (s : α) (k : Nat) (hk : k < 9) (F : List α) : rowG step s (9 - k) F = rowG step s (9 - (k + 1)) (addG F (step s k)) := by
  have e : 9 - k = (8 - k) + 1 := by omega
  rw [e]
  conv => lhs; unfold rowG
  rw [show 8 - (8 - k) = k from by omega, show 9 - (k + 1) = 8 - k from by omega]
theorem rowG_old (step : α → Nat → Option α) (s : α) (k : Nat) (hk : k < 9) (F : List α) (x : α) (h : step s k = some x) (hx : x ∈ F) : rowG step s (9 - k) F = rowG step s (9 - (k + 1)) F := by
  rw [rowG_at step s k hk F, h]; simp only [addG]; rw [if_pos hx]
theorem rowG_new (step : α → Nat → Option α) (s : α) (k : Nat) (hk : k < 9) (F : List α) (x : α) (h : step s k = some x) (hx : x ∉ F) : rowG step s (9 - k) F = rowG step s (9 - (k + 1)) (F ++ [x]) := by
  rw [rowG_at step s k hk F, h]; simp only [addG]; rw [if_neg hx]
theorem rowG_none (step : α → Nat → Option α) (s : α) (k : Nat) (hk : k < 9) (F : List α) (h : step s k = none) : rowG step s (9 - k) F = rowG step s (9 - (k + 1)) F := by
  rw [rowG_at step s k hk F, h]; rfl
theorem runG_at (step : α → Nat → Option α) (m p : Nat) (F : List α) (s : α) (h : F[p]? = some s) : runG step (m + 1) p F = runG step m (p + 1) (rowG step s 9 F) := by
  conv => lhs; unfold runG
  rw [h]
theorem runG_end (step : α → Nat → Option α) (m p : Nat) (F : List α) (h : F.length ≤ p) : runG step m p F = F := by
  cases m with
  | zero => rfl
  | succ m => unfold runG; rw [List.getElem?_eq_none h]
/-- What numbering keeps. -/
def FsQ (Q : α → Prop) (F : List α) : Prop := F.Nodup ∧ ∀ x ∈ F, Q x
theorem rowG_all (H : LwH step N Q) {s : α} (hs : Q s) : ∀ (m : Nat), m ≤ 9 → ∀ (F : List α), FsQ Q F → FsQ Q (rowG step s m F) ∧ (∃ t, rowG step s m F = F ++ t) ∧ ∀ k x, 9 - m ≤ k → k < 9 → step s k = some x → x ∈ rowG step s m F := by
  intro m
  induction m with
  | zero => intro _ F hF; exact ⟨hF, ⟨[], by simp [rowG]⟩, fun k x h1 h2 => by omega⟩
  | succ m ih =>
    intro hm F hF
    have key : FsQ Q (addG F (step s (8 - m))) ∧ (∃ t, addG F (step s (8 - m)) = F ++ t) ∧ ∀ x, step s (8 - m) = some x → x ∈ addG F (step s (8 - m)) := by
      cases e : step s (8 - m) with
      | none => exact ⟨hF, ⟨[], by simp [addG]⟩, fun x h => by cases h⟩
      | some x =>
        simp only [addG]
        by_cases hx : x ∈ F
        · rw [if_pos hx]; exact ⟨hF, ⟨[], by simp⟩, fun y h => by injection h with h; subst h; exact hx⟩
        · rw [if_neg hx]
          refine ⟨⟨nodup_snocG hF.1 hx, fun y hy => ?_⟩, ⟨[x], rfl⟩, fun y h => by injection h with h; subst h; simp⟩
          rcases List.mem_append.1 hy with hy | hy
          · exact hF.2 y hy
          · simp at hy; subst hy; exact H.step s (8 - m) y (by omega) hs e
    obtain ⟨k1, ⟨t1, k2⟩, k3⟩ := key
    obtain ⟨h1, ⟨t2, h2⟩, h3⟩ := ih (by omega) _ k1
    unfold rowG
    refine ⟨h1, ⟨t1 ++ t2, by rw [h2, k2, List.append_assoc]⟩, fun k x ha hb hx => ?_⟩
    by_cases e : k = 8 - m
    · subst e
      rw [h2]; exact List.mem_append_left _ (k3 x hx)
    · exact h3 k x (by omega) hb hx
theorem runG_all (H : LwH step N Q) : ∀ (m p : Nat) (F : List α), FsQ Q F → N + 1 ≤ m + p → p ≤ F.length → (∀ i (h : i < F.length), i < p → ∀ k x, k < 9 → step F[i] k = some x → x ∈ F) →
    FsQ Q (runG step m p F) ∧ (∃ t, runG step m p F = F ++ t) ∧ ClosG step (runG step m p F) := by
  intro m
  induction m with
  | zero =>
    intro p F hF hm hp hc
    have := H.room F hF.1 hF.2
    refine ⟨hF, ⟨[], by simp [runG]⟩, fun x hx k z hk hz => ?_⟩
    obtain ⟨i, hi, rfl⟩ := List.getElem_of_mem hx
    exact hc i hi (by omega) k z hk hz
  | succ m ih =>
    intro p F hF hm hp hc
    by_cases hlt : p < F.length
    · rw [runG_at step m p F F[p] (List.getElem?_eq_getElem hlt)]
      obtain ⟨h1, ⟨t1, h2⟩, h3⟩ := rowG_all H (hF.2 _ (List.getElem_mem hlt)) 9 (Nat.le_refl _) F hF
      obtain ⟨g1, ⟨t2, g2⟩, g3⟩ := ih (p + 1) _ h1 (by omega) (by rw [h2, List.length_append]; omega) (fun i hi hip k x hk hx => by
        have hil : i < F.length := by omega
        have ei : (rowG step F[p] 9 F)[i] = F[i] := by simp only [h2]; rw [List.getElem_append_left hil]
        rw [ei] at hx
        by_cases e : i = p
        · subst e; exact h3 k x (by omega) hk hx
        · rw [h2]; exact List.mem_append_left _ (hc i hil (by omega) k x hk hx))
      exact ⟨g1, ⟨t1 ++ t2, by rw [g2, h2, List.append_assoc]⟩, g3⟩
    · rw [runG_end step (m + 1) p F (by omega)]
      refine ⟨hF, ⟨[], by simp⟩, fun x hx k z hk hz => ?_⟩
      obtain ⟨i, hi, rfl⟩ := List.getElem_of_mem hx
      exact hc i hi (by omega) k z hk hz
/-- All that is found from one state: closed, of different states, the first of which it is. -/
theorem runG_one (H : LwH step N Q) {x0 : α} (h0 : Q x0) : FsQ Q (runG step (N + 1) 0 [x0]) ∧ (∃ t, runG step (N + 1) 0 [x0] = x0 :: t) ∧ ClosG step (runG step (N + 1) 0 [x0]) ∧ (runG step (N + 1) 0 [x0]).length ≤ N := by
  obtain ⟨h1, ⟨t, h2⟩, h3⟩ := runG_all H (N + 1) 0 [x0] ⟨by simp, fun x hx => by simp at hx; subst hx; exact h0⟩ (by omega) (by simp) (fun i h hi => by omega)
  exact ⟨h1, ⟨t, by rw [h2]; rfl⟩, h3, H.room _ h1.1 h1.2⟩
end
/-- The automaton of two side by side: of the pairs that are found. -/
def pairF (A B : Aut) : List (List Int) := runG (prS A B) (pairN A B + 1) 0 [[A.st, B.st]]
def pairA (op : Bool → Bool → Bool) (A B : Aut) : Aut := autG (prS A B) (accT op A B) (pairF A B)
theorem pairF_is {A B : Aut} (ha : ValidA A) (hb : ValidA B) : ClosG (prS A B) (pairF A B) ∧ (∃ t, pairF A B = [A.st, B.st] :: t) ∧ (pairF A B).length ≤ pairN A B ∧ ∀ x ∈ pairF A B, InP A B x := by
  have h1 := ha.2.2.1
  have h2 := hb.2.2.1
  obtain ⟨k1, k2, k3, k4⟩ := runG_one (prS_H ha hb) (x0 := [A.st, B.st]) ⟨A.st, B.st, rfl, ⟨by omega, h1.2⟩, by omega, h2.2⟩
  exact ⟨k3, k2, k4, k1.2⟩
theorem pairA_valid (op : Bool → Bool → Bool) {A B : Aut} (ha : ValidA A) (hb : ValidA B) (h12 : A.ac.length ≤ 12) (h12' : B.ac.length ≤ 12) : ValidA (pairA op A B) := by
  obtain ⟨h1, ⟨t, h2⟩, h3, _⟩ := pairF_is ha hb
  have hN : pairN A B ≤ 13 * 13 := Nat.mul_le_mul (by omega) (by omega)
  exact autG_valid h1 (by rw [h2]; simp) (by omega)
/-- It accepts by both automata's answers. -/
theorem pairA_acc (op : Bool → Bool → Bool) {A B : Aut} (ha : ValidA A) (hb : ValidA B) {w : List Int} (hw : LetW w) : acS (pairA op A B) (pairA op A B).st w = op (acS A A.st w) (acS B B.st w) := by
  obtain ⟨h1, ⟨t, h2⟩, h3, _⟩ := pairF_is ha hb
  have h0 : 0 < (pairF A B).length := by rw [h2]; simp
  unfold pairA
  rw [autG_start h1 h0 hw]
  have e : (pairF A B)[0] = [A.st, B.st] := by simp only [h2]; rfl
  rw [e]
  exact prS_acc op A B A.st B.st w
end Go.Proofs.Ytmaagihfjldgeaa
