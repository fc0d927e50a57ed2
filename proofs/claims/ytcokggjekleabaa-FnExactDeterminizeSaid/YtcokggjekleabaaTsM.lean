/- Determinizing: the model looks at the limit behind each row, the machine at each state: they refuse alike; as plain data. -/
import Derived.Test.YtcokggjekleabaaA3
import Derived.Test.YtcokggjekleabaaA1
namespace Go.Proofs.Ytcokggjekleabaa
set_option maxRecDepth 100000
set_option linter.unusedVariables false
set_option linter.unusedSimpArgs false

theorem map_idK (l : List Int) : l.map (fun x : Int => x) = l := by
  induction l with
  | nil => rfl
  | cons x l ih => simp
theorem addK_id (fs : List Int) (o : Option Int) : addK (fun x => x) fs o = match o with
    | none => fs
    | some x => if x ∈ fs then fs else fs ++ [x] := by
  cases o with
  | none => rfl
  | some x => unfold addK; simp only; rw [map_idK]
theorem rowK_len (step : Int → Nat → Option Int) (key : Int → Int) (s : Int) : ∀ m rs, (rowK step key s m rs).length ≤ rs.length + m
  | 0, rs => by simp [rowK]
  | m + 1, rs => by
    unfold rowK
    have h1 := rowK_len step key s m (addK key rs (step s (8 - m)))
    have h2 : (addK key rs (step s (8 - m))).length ≤ rs.length + 1 := by
      unfold addK
      split
      · omega
      · split
        · omega
        · simp
    omega
theorem rowN_K (step : Int → Nat → Option Int) (lim : Nat) (s : Int) : ∀ m fs, fs.length ≤ lim → rowN step lim s m fs = if (rowK step (fun x => x) s m fs).length ≤ lim then some (rowK step (fun x => x) s m fs) else none
  | 0, fs, hl => by simp [rowN, rowK, hl]
  | m + 1, fs, hl => by
    unfold rowN rowK
    rw [addK_id]
    cases e : step s (8 - m) with
    | none =>
      simp only [addN, Option.bind_some]
      exact rowN_K step lim s m fs hl
    | some x =>
      simp only [addN]
      by_cases hx : x ∈ fs
      · rw [if_pos hx, if_pos hx, Option.bind_some]
        exact rowN_K step lim s m fs hl
      · rw [if_neg hx, if_neg hx]
        by_cases hf : fs.length = lim
        · rw [if_pos hf, Option.bind_none]
          obtain ⟨t, ht⟩ := rowK_pre step (fun x => x) s m (fs ++ [x])
          rw [if_neg (by rw [ht]; simp; omega)]
        · rw [if_neg hf, Option.bind_some]
          exact rowN_K step lim s m (fs ++ [x]) (by simp; omega)
/-- What the row of a state leads to is found. -/
theorem rowK_has (step : Int → Nat → Option Int) (s : Int) : ∀ m, m ≤ 9 → ∀ fs k x, 9 - m ≤ k → k < 9 → step s k = some x → x ∈ rowK step (fun x => x) s m fs
  | 0, _, fs, k, x, h1, h2, _ => by omega
  | m + 1, hm, fs, k, x, h1, h2, h3 => by
    unfold rowK
    by_cases e : k = 8 - m
    · subst e
      obtain ⟨t, ht⟩ := rowK_pre step (fun x => x) s m (addK (fun x => x) fs (step s (8 - m)))
      rw [ht]
      refine List.mem_append_left _ ?_
      rw [addK_id, h3]
      simp only
      split
      · assumption
      · simp
    · exact rowK_has step s m (by omega) _ k x (by omega) h2 h3
theorem rowK_FsI {step : Int → Nat → Option Int} {Q : Int → Prop} (hQ : ∀ s k x, k < 9 → Q s → step s k = some x → Q x) {s : Int} (hs : Q s) : ∀ m, m ≤ 9 → ∀ fs, FsI Q fs → FsI Q (rowK step (fun x => x) s m fs)
  | 0, _, fs, h => h
  | m + 1, hm, fs, h => by
    unfold rowK
    refine rowK_FsI hQ hs m (by omega) _ ?_
    rw [addK_id]
    cases e : step s (8 - m) with
    | none => exact h
    | some x =>
      simp only
      by_cases hx : x ∈ fs
      · rw [if_pos hx]; exact h
      · rw [if_neg hx]; exact h.snoc hx (hQ s (8 - m) x (by omega) hs e)
/-- Rows that are closed stay as they are while more states are found. -/
theorem rowsK_keep {step : Int → Nat → Option Int} {p : Nat} {rs t : List Int} (hp : p ≤ rs.length) (hc : ∀ i (h : i < rs.length), i < p → ∀ k x, k < 9 → step rs[i] k = some x → x ∈ rs) : (rs.take p).map (rowOfK step (fun x => x) rs) = ((rs ++ t).take p).map (rowOfK step (fun x => x) (rs ++ t)) := by
  rw [List.take_append_of_le_length hp]
  refine List.map_congr_left fun s hs => ?_
  obtain ⟨i, hi, rfl⟩ := List.getElem_of_mem hs
  rw [List.length_take] at hi
  have hi2 : i < rs.length := by omega
  rw [List.getElem_take]
  unfold rowOfK
  refine List.map_congr_left fun k hk => ?_
  have hk9 := List.mem_range.1 hk
  unfold rowAtK
  cases e : step rs[i] k with
  | none => rfl
  | some x =>
    have hx := hc i hi2 (by omega) k x hk9 e
    simp only
    rw [map_idK, map_idK, posN_app rs t x hx]
theorem take_snocG {α : Type} (l : List α) (p : Nat) (h : p < l.length) : l.take (p + 1) = l.take p ++ [l[p]] := by rw [List.take_add_one, List.getElem?_eq_getElem h]; rfl
end Go.Proofs.Ytcokggjekleabaa
