/- TrimAutomaton, the model's. -/
import Derived.Test.YtmaagihfjldgeaaTrN
import Derived.Test.YtmaagihfjldgeaaAuX
namespace Go.Proofs.Ytmaagihfjldgeaa
set_option maxRecDepth 100000
open Go.ChangeShapes Go.WideShapes Go.ChangeAt Go.RowKit Go.Maps
set_option linter.unusedVariables false
set_option linter.unusedSimpArgs false

def idL (n : Nat) : List Int := (List.range n).map fun (i : Nat) => (i : Int)
theorem idL_length (n : Nat) : (idL n).length = n := by simp [idL]
theorem idL_at (n i : Nat) (h : i < (idL n).length) : (idL n)[i] = (i : Int) := by simp [idL]
theorem idL_step (n : Nat) : idL (n + 1) = idL n ++ [(n : Int)] := by unfold idL; rw [List.range_succ, List.map_append]; rfl
theorem clsK_id {A : Aut} (x : Int) (h : InA A x) : clsK (idL A.ac.length) x = x := by
  obtain ⟨t, rfl⟩ : ∃ t : Nat, x = t := ⟨x.toNat, by unfold InA at h; omega⟩
  have ht : t < (idL A.ac.length).length := by rw [idL_length]; unfold InA at h; omega
  rw [clsK_at _ t ht, idL_at]
/-- Where the machine's numbers are not refused, the key's numbers are these, whatever the rounds. -/
theorem runK_isF {step : Int → Nat → Option Int} {key : Int → Int} {Q : Int → Prop} (hk : ∀ x, Q x → key x = x) (hQ : ∀ s k x, k < 9 → Q s → step s k = some x → Q x) {lim : Nat} : ∀ m p fs gs, FsI Q fs → fs.length ≤ lim → lim + 1 ≤ m + p → runN step lim m p fs = some gs → ∀ m', lim + 1 ≤ m' + p → runK step key m' p fs = gs
  | 0, p, fs, gs, hf, hl, hm, h, m', hm' => by
    simp [runN] at h
    subst h
    exact runK_end step key m' p fs (by omega)
  | m + 1, p, fs, gs, hf, hl, hm, h, m', hm' => by
    by_cases hp : p < fs.length
    · obtain ⟨m'', rfl⟩ : ∃ m'', m' = m'' + 1 := ⟨m' - 1, by omega⟩
      rw [runN_at step lim m p fs hp] at h
      rw [runK_at step key m'' p fs hp]
      cases e : rowN step lim fs[p] 9 fs with
      | none => rw [e] at h; cases h
      | some g1 =>
        rw [e] at h
        have hq := hf.2 _ (List.getElem_mem hp)
        obtain ⟨f1, _, _, l1⟩ := rowN_some (Q := Q) hQ hq 9 (Nat.le_refl _) fs g1 hf e
        obtain ⟨h1, _⟩ := rowK_is hk hQ hq 9 (Nat.le_refl _) fs g1 hf.2 e
        rw [h1]
        exact runK_isF hk hQ m (p + 1) g1 gs f1 (l1 hl) (by omega) h m'' (by omega)
    · rw [runN_end step lim (m + 1) p fs (by omega)] at h
      injection h with h
      subst h
      exact runK_end step key m' p fs (by omega)
theorem numK_isF {step : Int → Nat → Option Int} {key : Int → Int} {Q : Int → Prop} (hk : ∀ x, Q x → key x = x) (hQ : ∀ s k x, k < 9 → Q s → step s k = some x → Q x) {s0 : Int} (h0 : Q s0) {F : List Int} (h : numN step 12 s0 = some F) : runK step key 1001 0 [s0] = F :=
  runK_isF hk hQ 13 0 [s0] F ⟨by simp, fun x hx => by simp at hx; subst hx; exact h0⟩ (by simp) (by omega) h 1001 (by omega)
theorem nmR_trim {A : Aut} (hv : ValidA A) {f : Nat → Bool} (hf : ∀ s, f s = true ↔ LiveP A s) (hc : trimC A f = true) : nmR A f (idL A.ac.length) = trimN A f := by
  have hQ : ∀ s k x, k < 9 → InA A s → stepF A f s k = some x → InA A x := fun s k x hk hs hx => stepF_in hv f s k x hk hs hx
  have hst := inA_st hv
  obtain ⟨fs, e⟩ : ∃ fs, numN (stepF A f) 12 A.st = some fs := by
    unfold trimC at hc
    exact Option.isSome_iff_exists.1 hc
  obtain ⟨⟨_, h1⟩, _, h2, h3⟩ := numN_some (Q := InA A) hQ (by decide) hst e
  unfold nmR trimN autR
  rw [e]
  simp only
  cases hs : f A.st.toNat with
  | true =>
    rw [if_pos rfl]
    unfold nmA nmF
    rw [numK_isF (key := clsK (idL A.ac.length)) (Q := InA A) (fun x hx => clsK_id x hx) hQ hst e]
    exact autK_is (key := clsK (idL A.ac.length)) (Q := InA A) (fun x hx => clsK_id x hx) hQ (accZ1 A) h1
  | false =>
    rw [if_neg (by decide)]
    have hdead : ∀ k, k < 9 → stepF A f A.st k = none := fun k hk => by
      cases e2 : stepF A f A.st k with
      | none => rfl
      | some x =>
        obtain ⟨h4, h5, h6⟩ := stepF_some e2
        have h7 := next_lt hv hst hk
        have hsn : A.st.toNat < A.ac.length := by unfold InA at hst; omega
        have hse : ((A.st.toNat : Nat) : Int) = A.st := by unfold InA at hst; omega
        have ht : tgt A A.st.toNat k = some x.toNat := tgt_some hsn (by rw [hse, h5]; omega) (by omega)
        have hx := (hf x.toNat).1 h6
        have hxn : x.toNat < A.ac.length := by omega
        have : LiveP A A.st.toNat := LeastP.step hsn hk (liveR_of ht) hx
        rw [(hf _).2 this] at hs; cases hs
    have hacc : accZ1 A A.st = false := by
      unfold accZ1
      cases e2 : at0 A.ac A.st.toNat with
      | false => rfl
      | true => rw [(hf _).2 (LeastP.base e2)] at hs; cases hs
    have hrow : ∀ m, m ≤ 9 → rowN (stepF A f) 12 A.st m [A.st] = some [A.st] := by
      intro m
      induction m with
      | zero => intro _; rfl
      | succ m ih =>
        intro hm
        unfold rowN
        rw [hdead (8 - m) (by omega)]
        exact ih (by omega)
    have hnum : numN (stepF A f) 12 A.st = some [A.st] := by
      unfold numN
      rw [runN_at (stepF A f) 12 12 0 [A.st] (by simp)]
      simp only [List.getElem_cons_zero]
      rw [hrow 9 (Nat.le_refl _)]
      exact runN_end (stepF A f) 12 12 1 [A.st] (by simp)
    rw [e] at hnum
    injection hnum with hnum
    subst hnum
    unfold nothingA autN
    congr 1
    · simp [hacc]
    · simp only [List.map_cons, List.map_nil]
      congr 1
      apply List.ext_getElem
      · simp [rowOf]
      · intro i hi hj
        have hi9 : i < 9 := by simpa using hi
        simp only [rowOf, List.getElem_map, List.getElem_range, List.getElem_replicate]
        exact (rowAt_none (hdead i hi9)).symm
theorem totS_rows (step : Int → Nat → Option Int) (F : List Int) : ∀ fs : List Int, totS (fs.map (rowOf step F)) = 9 * fs.length
  | [] => rfl
  | s :: fs => by
    rw [List.map_cons, totS_cons, rowOf_length, totS_rows step F fs, List.length_cons]; omega
theorem trimA_bg (A : Aut) (f : Nat → Bool) : BgA (trimA A f) := by
  unfold BgA
  cases h : validA A with
  | false => rw [trimA_no h]; simp [totS]
  | true =>
    rw [trimA_yes h]
    obtain ⟨fs, e, h1, h2, h3⟩ := numF ((validA_iff A).1 h) ((validA_iff A).2 h) f
    unfold trimN autR
    rw [e]
    simp only [autN, List.length_map, totS_rows]
    omega
end Go.Proofs.Ytmaagihfjldgeaa
