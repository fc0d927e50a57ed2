/- What numbering found, where it was not refused: different states, closed, not too many. -/
import Derived.Test.YtcokggjekleabaaAuB
namespace Go.Proofs.Ytcokggjekleabaa
set_option maxRecDepth 100000
set_option linter.unusedVariables false
set_option linter.unusedSimpArgs false

theorem addN_some {Q : Int → Prop} {lim : Nat} {fs gs : List Int} {o : Option Int} (h : addN lim fs o = some gs) (hf : FsI Q fs) (ho : ∀ x, o = some x → Q x) :
    FsI Q gs ∧ (∃ t, gs = fs ++ t) ∧ (∀ x, o = some x → x ∈ gs) ∧ (fs.length ≤ lim → gs.length ≤ lim) := by
  cases o with
  | none =>
    simp [addN] at h
    subst h
    exact ⟨hf, ⟨[], by simp⟩, fun x e => (by cases e), id⟩
  | some x =>
    unfold addN at h
    simp only at h
    by_cases hx : x ∈ fs
    · rw [if_pos hx] at h
      injection h with h
      subst h
      exact ⟨hf, ⟨[], by simp⟩, fun y e => (by injection e with e; subst e; exact hx), id⟩
    · rw [if_neg hx] at h
      by_cases hl : fs.length = lim
      · rw [if_pos hl] at h; cases h
      · rw [if_neg hl] at h
        injection h with h
        subst h
        exact ⟨hf.snoc hx (ho x rfl), ⟨[x], rfl⟩, fun y e => (by injection e with e; subst e; simp), fun k => by simp; omega⟩
theorem rowN_some {step : Int → Nat → Option Int} {Q : Int → Prop} {lim : Nat} (hQ : ∀ s k x, k < 9 → Q s → step s k = some x → Q x) {s : Int} (hs : Q s) : ∀ m, m ≤ 9 → ∀ fs gs, FsI Q fs → rowN step lim s m fs = some gs →
    FsI Q gs ∧ (∃ t, gs = fs ++ t) ∧ (∀ k x, 9 - m ≤ k → k < 9 → step s k = some x → x ∈ gs) ∧ (fs.length ≤ lim → gs.length ≤ lim)
  | 0, _, fs, gs, hf, h => by
    simp [rowN] at h
    subst h
    exact ⟨hf, ⟨[], by simp⟩, fun k x h1 h2 => by omega, id⟩
  | m + 1, hm, fs, gs, hf, h => by
    unfold rowN at h
    cases e : addN lim fs (step s (8 - m)) with
    | none => rw [e] at h; cases h
    | some g1 =>
      rw [e] at h
      obtain ⟨f1, ⟨t1, ht1⟩, c1, l1⟩ := addN_some e hf (fun x hx => hQ s (8 - m) x (by omega) hs hx)
      obtain ⟨f2, ⟨t2, ht2⟩, c2, l2⟩ := rowN_some hQ hs m (by omega) g1 gs f1 h
      refine ⟨f2, ⟨t1 ++ t2, by rw [ht2, ht1, List.append_assoc]⟩, fun k x h1 h2 h3 => ?_, fun k => l2 (l1 k)⟩
      by_cases ek : k = 8 - m
      · subst ek
        have := c1 x h3
        rw [ht2]; exact List.mem_append_left _ this
      · exact c2 k x (by omega) h2 h3
theorem runN_some {step : Int → Nat → Option Int} {Q : Int → Prop} {lim : Nat} (hQ : ∀ s k x, k < 9 → Q s → step s k = some x → Q x) : ∀ m p fs gs, FsI Q fs → fs.length ≤ lim → lim + 1 ≤ m + p → p ≤ fs.length →
    (∀ i (h : i < fs.length), i < p → ∀ k x, k < 9 → step fs[i] k = some x → x ∈ fs) → runN step lim m p fs = some gs →
    FsI Q gs ∧ (∃ t, gs = fs ++ t) ∧ (∀ s ∈ gs, ∀ k x, k < 9 → step s k = some x → x ∈ gs) ∧ gs.length ≤ lim
  | 0, p, fs, gs, hf, hl, hm, hp, hc, h => by
    simp [runN] at h
    subst h
    exact ⟨hf, ⟨[], by simp⟩, fun s hs k x hk hx => by
      obtain ⟨i, hi, rfl⟩ := List.getElem_of_mem hs
      exact hc i hi (by omega) k x hk hx, hl⟩
  | m + 1, p, fs, gs, hf, hl, hm, hp, hc, h => by
    by_cases hlt : p < fs.length
    · rw [runN_at step lim m p fs hlt] at h
      cases e : rowN step lim fs[p] 9 fs with
      | none => rw [e] at h; cases h
      | some g1 =>
        rw [e] at h
        obtain ⟨f1, ⟨t1, ht1⟩, c1, l1⟩ := rowN_some hQ (hf.2 _ (List.getElem_mem hlt)) 9 (Nat.le_refl _) fs g1 hf e
        obtain ⟨f2, ⟨t2, ht2⟩, c2, l2⟩ := runN_some hQ m (p + 1) g1 gs f1 (l1 hl) (by omega) (by rw [ht1, List.length_append]; omega) (fun i hi hip k x hk hx => by
          subst ht1
          by_cases hif : i < fs.length
          · rw [List.getElem_append_left hif] at hx
            by_cases e : i = p
            · subst e; exact c1 k x (by omega) hk hx
            · exact List.mem_append_left _ (hc i hif (by omega) k x hk hx)
          · omega) h
        exact ⟨f2, ⟨t1 ++ t2, by rw [ht2, ht1, List.append_assoc]⟩, c2, l2⟩
    · rw [runN_end step lim (m + 1) p fs (by omega)] at h
      injection h with h
      subst h
      exact ⟨hf, ⟨[], by simp⟩, fun s hs k x hk hx => by
        obtain ⟨i, hi, rfl⟩ := List.getElem_of_mem hs
        exact hc i hi (by omega) k x hk hx, hl⟩
theorem numN_some {step : Int → Nat → Option Int} {Q : Int → Prop} {lim : Nat} (hQ : ∀ s k x, k < 9 → Q s → step s k = some x → Q x) (hl : 1 ≤ lim) {s0 : Int} (h0 : Q s0) {fs : List Int} (h : numN step lim s0 = some fs) :
    FsI Q fs ∧ s0 ∈ fs ∧ (∀ s ∈ fs, ∀ k x, k < 9 → step s k = some x → x ∈ fs) ∧ fs.length ≤ lim := by
  obtain ⟨f, ⟨t, ht⟩, c, l⟩ := runN_some hQ (lim + 1) 0 [s0] fs ⟨by simp, fun x hx => by simp at hx; subst hx; exact h0⟩ (by simpa using hl) (by omega) (by simp) (fun i hi h => by omega) h
  exact ⟨f, by rw [ht]; simp, c, l⟩
end Go.Proofs.Ytcokggjekleabaa
