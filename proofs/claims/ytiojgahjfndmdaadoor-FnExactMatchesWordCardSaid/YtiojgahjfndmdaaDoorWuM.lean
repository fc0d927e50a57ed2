/- WordsUpTo as plain data: the words over an alphabet in their order, and that the taken ones are all listed. No program in it. -/
import Derived.Test.YtiojgahjfndmdaaDoorDwM
import Derived.Test.YtiojgahjfndmdaaDoorK0
namespace Go.Proofs.YtiojgahjfndmdaaDoor
set_option maxRecDepth 100000
open Go.ChangeShapes Go.WideShapes Go.ChangeAt Go.RowKit
set_option linter.unusedVariables false
set_option linter.unusedSimpArgs false

/-- All words of k letters, in the order in which the model lays them out. -/
def wordsK (l : List Int) : Nat → List (List Int)
  | 0 => [[]]
  | k + 1 => (wordsK l k).flatMap fun u => l.map fun c => u ++ [c]
theorem snoc_of_len {w : List Int} {k : Nat} (h : w.length = k + 1) : ∃ u c, w = u ++ [c] ∧ u.length = k := by
  have hne : w ≠ [] := by intro e; rw [e] at h; simp at h
  exact ⟨w.dropLast, w.getLast hne, (List.dropLast_concat_getLast hne).symm, by rw [List.length_dropLast]; omega⟩
theorem mem_wordsK {l : List Int} (k : Nat) (w : List Int) : w ∈ wordsK l k ↔ w.length = k ∧ ∀ c ∈ w, c ∈ l := by
  induction k generalizing w with
  | zero =>
    simp only [wordsK, List.mem_singleton]
    constructor
    · rintro rfl; simp
    · rintro ⟨h, _⟩; exact List.length_eq_zero_iff.1 h
  | succ k ih =>
    simp only [wordsK, List.mem_flatMap, List.mem_map]
    constructor
    · rintro ⟨u, hu, c, hc, rfl⟩
      obtain ⟨h1, h2⟩ := (ih u).1 hu
      refine ⟨by rw [List.length_append, h1]; rfl, fun d hd => ?_⟩
      rcases List.mem_append.1 hd with hd | hd
      · exact h2 d hd
      · rw [List.mem_singleton.1 hd]; exact hc
    · rintro ⟨h, hm⟩
      obtain ⟨u, c, rfl, hu⟩ := snoc_of_len h
      exact ⟨u, (ih u).2 ⟨hu, fun d hd => hm d (List.mem_append.2 (.inl hd))⟩, c, hm c (by simp), rfl⟩
theorem lexC_snoc (u v : List Int) (c d : Int) (h : u.length = v.length) : lexC (u ++ [c]) (v ++ [d]) = if lexC u v = 0 then lexC [c] [d] else lexC u v := by
  induction u generalizing v with
  | nil =>
    cases v with
    | nil => simp [lexC]
    | cons y ys => simp at h
  | cons x xs ih =>
    cases v with
    | nil => simp at h
    | cons y ys =>
      have ec : lexC ((x :: xs) ++ [c]) ((y :: ys) ++ [d]) = if x < y then -1 else if y < x then 1 else lexC (xs ++ [c]) (ys ++ [d]) := rfl
      have eu : lexC (x :: xs) (y :: ys) = if x < y then -1 else if y < x then 1 else lexC xs ys := rfl
      by_cases h1 : x < y
      · rw [if_pos h1] at ec eu
        rw [ec, eu, if_neg (by decide)]
      · rw [if_neg h1] at ec eu
        by_cases h2 : y < x
        · rw [if_pos h2] at ec eu
          rw [ec, eu, if_neg (by decide)]
        · rw [if_neg h2] at ec eu
          rw [ec, eu]
          exact ih ys (by simpa using h)
theorem lexC_self0 (u : List Int) : lexC u u = 0 := by
  induction u with
  | nil => rfl
  | cons x xs ih => simp only [lexC]; rw [if_neg (by omega), if_neg (by omega)]; exact ih
/-- The words of one length ascend. -/
theorem wordsK_asc {l : List Int} (hl : l.Pairwise (· < ·)) (k : Nat) : (wordsK l k).Pairwise fun u v => lexC u v = -1 := by
  induction k with
  | zero => simp [wordsK]
  | succ k ih =>
    simp only [wordsK]
    rw [List.pairwise_flatMap]
    refine ⟨fun u hu => ?_, ?_⟩
    · rw [List.pairwise_map]
      refine hl.imp fun {c d} hcd => ?_
      rw [lexC_snoc u u c d rfl, if_pos (lexC_self0 u)]
      simp [lexC, hcd]
    · refine ih.imp_of_mem fun {u v} hu hv huv => ?_
      intro x hx y hy
      obtain ⟨c, hc, rfl⟩ := List.mem_map.1 hx
      obtain ⟨d, hd, rfl⟩ := List.mem_map.1 hy
      have e1 := ((mem_wordsK k u).1 hu).1
      have e2 := ((mem_wordsK k v).1 hv).1
      rw [lexC_snoc u v c d (by omega), huv, if_neg (by decide)]
/-- What a power takes is made of letters that its part takes. -/
theorem powP_mem {P : List Int → Prop} {L : Int → Prop} (h : ∀ u, P u → ∀ c ∈ u, L c) (k : Nat) : ∀ w, PowP P k w → ∀ c ∈ w, L c := by
  induction k with
  | zero => intro w hw c hc; cases hw; simp at hc
  | succ k ih =>
    rintro w ⟨u, v, e, p, q⟩ c hc
    rw [e] at hc
    rcases List.mem_append.1 hc with hc | hc
    · exact h u p c hc
    · exact ih v q c hc
theorem lg_letters {T : Tr} : ∀ w, LgT T w → ∀ c ∈ w, ∃ t ∈ T.post, t.kd = 3 ∧ t.lr = c := by
  induction T with
  | nil => intro w h; exact h.elim
  | node t l r hl hr =>
    have ml : ∀ c, (∃ x ∈ l.post, x.kd = 3 ∧ x.lr = c) → ∃ x ∈ (Tr.node t l r).post, x.kd = 3 ∧ x.lr = c := fun c ⟨x, hx, h⟩ => ⟨x, by simp [Tr.post, hx], h⟩
    have mr : ∀ c, (∃ x ∈ r.post, x.kd = 3 ∧ x.lr = c) → ∃ x ∈ (Tr.node t l r).post, x.kd = 3 ∧ x.lr = c := fun c ⟨x, hx, h⟩ => ⟨x, by simp [Tr.post, hx], h⟩
    intro w h c hc
    unfold LgT at h
    split at h
    · rw [h] at hc; simp at hc
    split at h
    · rename_i e
      rw [h] at hc
      have := List.mem_singleton.1 hc
      exact ⟨t, by simp [Tr.post], e, this.symm⟩
    split at h
    · obtain ⟨u, v, e, p, q⟩ := h
      rw [e] at hc
      rcases List.mem_append.1 hc with hc | hc
      · exact ml c (hl u p c hc)
      · exact mr c (hr v q c hc)
    split at h
    · rcases h with h | h
      · exact ml c (hl w h c hc)
      · exact mr c (hr w h c hc)
    split at h
    · obtain ⟨k, hk⟩ := h
      exact ml c (powP_mem (L := fun c => ∃ x ∈ l.post, x.kd = 3 ∧ x.lr = c) (fun u hu d hd => hl u hu d hd) k w hk c hc)
    split at h
    · obtain ⟨k, _, _, hk⟩ := h
      exact ml c (powP_mem (L := fun c => ∃ x ∈ l.post, x.kd = 3 ∧ x.lr = c) (fun u hu d hd => hl u hu d hd) k w hk c hc)
    · exact h.elim
end Go.Proofs.YtiojgahjfndmdaaDoor
