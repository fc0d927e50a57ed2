/- Plain facts on letters and words: inverses, comparison, formats read back. -/
import Derived.Test.YtfjlcmippnbhoaaDoorPwS
import Derived.Test.YtfjlcmippnbhoaaDoorCmp
namespace Go.Proofs.YtfjlcmippnbhoaaDoor
set_option linter.unusedVariables false
open Go.ChangeShapes Go.WideShapes Go.ChangeAt Go.RowKit

theorem xor_small {x : Int} (h : inB x 0 5 = true) : (bits .xor .i64 x 1 ≠ x) ∧ inB (bits .xor .i64 x 1) 0 5 = true ∧ bits .xor .i64 (bits .xor .i64 x 1) 1 = x := by
  have := of_decide_eq_true h
  have hx : x = 0 ∨ x = 1 ∨ x = 2 ∨ x = 3 ∨ x = 4 ∨ x = 5 := by omega
  rcases hx with rfl | rfl | rfl | rfl | rfl | rfl <;> decide +kernel
theorem invL_invL (x : Int) : invL (invL x) = x := by
  cases h : inB x 0 5 with
  | false =>
    have e : invL x = x := by unfold invL; rw [h]; rfl
    rw [e, e]
  | true =>
    have e : invL x = bits .xor .i64 x 1 := by unfold invL; rw [h]; rfl
    obtain ⟨_, h2, h3⟩ := xor_small h
    rw [e]; unfold invL; rw [h2]; exact h3
theorem move_ne (x : Int) : inB x 0 5 = (invL x != x) := by
  cases h : inB x 0 5 with
  | false =>
    have e : invL x = x := by unfold invL; rw [h]; rfl
    rw [e]; simp
  | true =>
    have e : invL x = bits .xor .i64 x 1 := by unfold invL; rw [h]; rfl
    rw [e]; simp [(xor_small h).1]
theorem fmtB_ne {k : Nat} (h : k ≤ 8) : fmtB k ≠ ⟨#[]⟩ := by
  rcases nine h with rfl | rfl | rfl | rfl | rfl | rfl | rfl | rfl | rfl <;> decide
theorem pl_empty : plB ⟨#[]⟩ = false ∧ plN ⟨#[]⟩ = 0 := by
  have := pl_none (s := ⟨#[]⟩) (fun j hj => fmtB_ne (by omega))
  exact ⟨this.2, this.1⟩
theorem pl_fmt_in {x : Int} (h : inB x 0 8 = true) : plB (fmtL x) = true ∧ plN (fmtL x) = x ∧ fmtL x ≠ ⟨#[]⟩ := by
  obtain ⟨k, hk, rfl⟩ := inB_nat h
  rw [fmtL_in hk]
  exact ⟨(pl_at hk rfl).2, (pl_at hk rfl).1, fmtB_ne hk⟩
theorem pl_fmt_out {x : Int} (h : inB x 0 8 = false) : plB (fmtL x) = false ∧ fmtL x = ⟨#[]⟩ := by
  rw [fmtL_out h]; exact ⟨pl_empty.1, rfl⟩
theorem lexC_neg (xs ys : List Int) : lexC ys xs = - lexC xs ys := by
  induction xs generalizing ys with
  | nil => cases ys <;> simp [lexC]
  | cons x xs ih =>
    cases ys with
    | nil => simp [lexC]
    | cons y ys =>
      simp only [lexC]
      by_cases h1 : x < y
      · rw [if_neg (by omega), if_pos h1, if_pos h1]; rfl
      · by_cases h2 : y < x
        · rw [if_pos h2, if_neg h1, if_pos h2]
        · rw [if_neg h2, if_neg h1, if_neg h1, if_neg h2]; exact ih ys
theorem lexC_zero (xs ys : List Int) (h : xs.length = ys.length) : lexC xs ys = 0 ↔ xs = ys := by
  induction xs generalizing ys with
  | nil => cases ys with
    | nil => simp [lexC]
    | cons => simp at h
  | cons x xs ih =>
    cases ys with
    | nil => simp at h
    | cons y ys =>
      simp only [lexC, List.cons.injEq]
      by_cases h1 : x < y
      · rw [if_pos h1]; constructor
        · intro e; cases e
        · intro e; omega
      · by_cases h2 : y < x
        · rw [if_neg h1, if_pos h2]; constructor
          · intro e; cases e
          · intro e; omega
        · rw [if_neg h1, if_neg h2, ih ys (by simpa using h)]
          constructor
          · intro e; exact ⟨by omega, e⟩
          · intro e; exact e.2
theorem cmpW_neg (xs ys : List Int) : cmpW ys xs = - cmpW xs ys := by
  unfold cmpW
  by_cases h1 : xs.length < ys.length
  · rw [if_neg (by omega), if_pos h1, if_pos h1]; rfl
  · by_cases h2 : ys.length < xs.length
    · rw [if_pos h2, if_neg h1, if_pos h2]
    · rw [if_neg h2, if_neg h1, if_neg h1, if_neg h2]; exact lexC_neg xs ys
theorem cmpW_zero (xs ys : List Int) : (cmpW xs ys == 0) = decide (xs = ys) := by
  have : cmpW xs ys = 0 ↔ xs = ys := by
    unfold cmpW
    by_cases h1 : xs.length < ys.length
    · rw [if_pos h1]; constructor
      · intro e; cases e
      · intro e; subst e; omega
    · by_cases h2 : ys.length < xs.length
      · rw [if_neg h1, if_pos h2]; constructor
        · intro e; cases e
        · intro e; subst e; omega
      · rw [if_neg h1, if_neg h2]; exact lexC_zero xs ys (by omega)
  rw [Bool.eq_iff_iff]; simpa using this
theorem cmpW_bd (xs ys : List Int) : -1 ≤ cmpW xs ys ∧ cmpW xs ys ≤ 1 := by
  have hl : ∀ (a b : List Int), -1 ≤ lexC a b ∧ lexC a b ≤ 1 := by
    intro a
    induction a with
    | nil => intro b; cases b <;> simp [lexC]
    | cons x a ih =>
      intro b
      cases b with
      | nil => simp [lexC]
      | cons y b =>
        simp only [lexC]
        split
        · omega
        · split
          · omega
          · exact ih b
  unfold cmpW
  split
  · omega
  · split
    · omega
    · exact hl _ _
theorem revW_revW (xs : List Int) : revW (revW xs) = xs := by
  unfold revW
  rw [List.map_reverse, List.reverse_reverse, List.map_map]
  conv => rhs; rw [← List.map_id xs]
  exact List.map_congr_left (fun x _ => invL_invL x)

theorem fmt_nosp (x : Int) : (32 : UInt8) ∉ (fmtL x).data.toList := by
  cases h : inB x 0 8 with
  | false => rw [fmtL_out h]; decide
  | true =>
    obtain ⟨k, hk, rfl⟩ := inB_nat h
    rw [fmtL_in hk]
    rcases nine hk with rfl | rfl | rfl | rfl | rfl | rfl | rfl | rfl | rfl <;> decide
theorem cut_join (x : Int) (xs : List Int) : cutL (fmtWL (x :: xs)) = (x :: xs).map fun y => (fmtL y).data.toList := by
  induction xs generalizing x with
  | nil => simp only [fmtWL, List.map_cons, List.map_nil, Lib.join_one]; exact cutL_none (fmt_nosp x)
  | cons y ys ih =>
    have e : fmtWL (x :: y :: ys) = (fmtL x).data.toList ++ 32 :: fmtWL (y :: ys) := by
      simp only [fmtWL, List.map_cons, Lib.join_cons, Lib.joinTail]
      simp
    rw [e, cutL_app _ (fmt_nosp x), ih y]; rfl
theorem cutB_fmt {xs : List Int} (h : isWordB xs = true) (h0 : xs ≠ []) : cutB (fmtW xs) = xs.map fmtL := by
  rw [fmtW_in h h0]
  cases xs with
  | nil => exact absurd rfl h0
  | cons x xs =>
    unfold cutB
    show (cutL (fmtWL (x :: xs))).map _ = _
    rw [cut_join, List.map_map]
    apply List.map_congr_left
    intro y _
    exact ba_back (fmtL y) _ rfl
theorem nilS_bad : plB nilS = false :=
  (pl_none (s := nilS) (fun j hj e => by
    rcases nine (k := j) (by omega) with rfl | rfl | rfl | rfl | rfl | rfl | rfl | rfl | rfl <;> exact absurd e (by decide))).2
theorem cutB_nilS : cutB nilS = [nilS] := by decide +kernel
theorem pw_fmt (xs : List Int) : pwB (fmtW xs) = isWordB xs ∧ (isWordB xs = true → pwL (fmtW xs) = xs) := by
  cases h : isWordB xs with
  | false =>
    rw [fmtW_out h]
    refine ⟨?_, fun e => by cases e⟩
    have hc : cutB ⟨#[]⟩ = [⟨#[]⟩] := rfl
    have hb : pwOk ⟨#[]⟩ = false := pwOk_bad 0 (by rw [hc]; decide) (by simp only [hc]; exact pl_empty.1)
    exact (pw_bad (by decide) hb).1
  | true =>
    by_cases h0 : xs = []
    · subst h0
      exact ⟨(pw_nil fmtW_nil).1, fun _ => (pw_nil fmtW_nil).2⟩
    · have hc := cutB_fmt h h0
      have hin : ∀ x ∈ xs, inB x 0 8 = true := by
        unfold isWordB at h; rw [Bool.and_eq_true] at h
        exact fun x hx => List.all_eq_true.1 h.2 x hx
      have hok : pwOk (fmtW xs) = true := pwOk_good (by rw [hc, List.length_map]; exact isWord_len h) (by
        rw [hc, List.all_eq_true]
        intro p hp
        obtain ⟨x, hx, rfl⟩ := List.mem_map.1 hp
        exact (pl_fmt_in (hin x hx)).1)
      have hne : fmtW xs ≠ nilS := by
        intro e
        rw [e, cutB_nilS] at hc
        have hm : nilS ∈ xs.map fmtL := by rw [← hc]; simp
        obtain ⟨x, hx, e2⟩ := List.mem_map.1 hm
        have := (pl_fmt_in (hin x hx)).1
        rw [e2, nilS_bad] at this; cases this
      refine ⟨(pw_good hne hok).1, fun _ => ?_⟩
      rw [(pw_good hne hok).2, hc, List.map_map]
      conv => rhs; rw [← List.map_id xs]
      exact List.map_congr_left (fun x hx => (pl_fmt_in (hin x hx)).2.1)
theorem fmtW_size (xs : List Int) : (fmtW xs).size ≤ 24 := by
  cases h : isWordB xs with
  | false => rw [fmtW_out h]; decide
  | true =>
    by_cases h0 : xs = []
    · subst h0; decide
    · rw [fmtW_in h h0]
      have h1 := fmtWL_len xs
      have h2 := isWord_len h
      show (fmtWL xs).length ≤ 24
      omega
end Go.Proofs.YtfjlcmippnbhoaaDoor
