/- Numbering the states by a key (their classes), without a limit: as plain data, and against the machine's numbers. -/
import Derived.Test.YtcokggjekleabaaMdM
namespace Go.Proofs.Ytcokggjekleabaa
set_option maxRecDepth 100000
set_option linter.unusedVariables false
set_option linter.unusedSimpArgs false

def addK (key : Int → Int) (rs : List Int) (o : Option Int) : List Int := match o with
  | none => rs
  | some x => if key x ∈ rs.map key then rs else rs ++ [x]
def rowK (step : Int → Nat → Option Int) (key : Int → Int) (s : Int) : Nat → List Int → List Int
  | 0, rs => rs
  | m + 1, rs => rowK step key s m (addK key rs (step s (8 - m)))
def runK (step : Int → Nat → Option Int) (key : Int → Int) : Nat → Nat → List Int → List Int
  | 0, _, rs => rs
  | m + 1, p, rs => match rs[p]? with
    | none => rs
    | some s => runK step key m (p + 1) (rowK step key s 9 rs)
theorem addK_pre (key : Int → Int) (rs : List Int) (o : Option Int) : ∃ t, addK key rs o = rs ++ t := by
  cases o with
  | none => exact ⟨[], by simp [addK]⟩
  | some x =>
    by_cases h : key x ∈ rs.map key
    · exact ⟨[], by unfold addK; simp only; rw [if_pos h]; simp⟩
    · exact ⟨[x], by unfold addK; simp only; rw [if_neg h]⟩
theorem rowK_pre (step : Int → Nat → Option Int) (key : Int → Int) (s : Int) : ∀ m rs, ∃ t, rowK step key s m rs = rs ++ t
  | 0, rs => ⟨[], by simp [rowK]⟩
  | m + 1, rs => by
    obtain ⟨t, ht⟩ := addK_pre key rs (step s (8 - m))
    obtain ⟨t2, ht2⟩ := rowK_pre step key s m (addK key rs (step s (8 - m)))
    exact ⟨t ++ t2, by unfold rowK; rw [ht2, ht, List.append_assoc]⟩
theorem runK_pre (step : Int → Nat → Option Int) (key : Int → Int) : ∀ m p rs, ∃ t, runK step key m p rs = rs ++ t
  | 0, p, rs => ⟨[], by simp [runK]⟩
  | m + 1, p, rs => by
    unfold runK
    cases h : rs[p]? with
    | none => exact ⟨[], by simp⟩
    | some s =>
      obtain ⟨t, ht⟩ := rowK_pre step key s 9 rs
      obtain ⟨t2, ht2⟩ := runK_pre step key m (p + 1) (rowK step key s 9 rs)
      exact ⟨t ++ t2, by simp only; rw [ht2, ht, List.append_assoc]⟩
theorem runK_at (step : Int → Nat → Option Int) (key : Int → Int) (m p : Nat) (rs : List Int) (hp : p < rs.length) : runK step key (m + 1) p rs = runK step key m (p + 1) (rowK step key rs[p] 9 rs) := by
  conv => lhs; unfold runK
  rw [List.getElem?_eq_getElem hp]
theorem runK_end (step : Int → Nat → Option Int) (key : Int → Int) (m p : Nat) (rs : List Int) (hp : rs.length ≤ p) : runK step key m p rs = rs := by
  cases m with
  | zero => rfl
  | succ m => unfold runK; rw [List.getElem?_eq_none hp]
theorem rowK_at (step : Int → Nat → Option Int) (key : Int → Int) (s : Int) (k : Nat) (hk : k < 9) (rs : List Int) : rowK step key s (9 - k) rs = rowK step key s (9 - (k + 1)) (addK key rs (step s k)) := by
  have e : 9 - k = (8 - k) + 1 := by omega
  rw [e]
  conv => lhs; unfold rowK
  rw [show 8 - (8 - k) = k from by omega, show 9 - (k + 1) = 8 - k from by omega]
def rowAtK (step : Int → Nat → Option Int) (key : Int → Int) (F : List Int) (s : Int) (k : Nat) : Int := match step s k with
  | none => -1
  | some x => (posN (F.map key) (key x) : Int)
theorem rowAtK_none {step : Int → Nat → Option Int} {key : Int → Int} {F : List Int} {s : Int} {k : Nat} (h : step s k = none) : rowAtK step key F s k = -1 := by unfold rowAtK; rw [h]
theorem rowAtK_some {step : Int → Nat → Option Int} {key : Int → Int} {F : List Int} {s x : Int} {k : Nat} (h : step s k = some x) : rowAtK step key F s k = (posN (F.map key) (key x) : Int) := by unfold rowAtK; rw [h]
def rowOfK (step : Int → Nat → Option Int) (key : Int → Int) (F : List Int) (s : Int) : List Int := (List.range 9).map (rowAtK step key F s)
def preK (step : Int → Nat → Option Int) (key : Int → Int) (F : List Int) (s : Int) (k : Nat) : List Int := (List.range k).map (rowAtK step key F s)
theorem preK_step (step : Int → Nat → Option Int) (key : Int → Int) (F : List Int) (s : Int) (k : Nat) : preK step key F s (k + 1) = preK step key F s k ++ [rowAtK step key F s k] := by
  unfold preK; rw [List.range_succ, List.map_append]; rfl
theorem preK_length (step : Int → Nat → Option Int) (key : Int → Int) (F : List Int) (s : Int) (k : Nat) : (preK step key F s k).length = k := by simp [preK]
def autK (step : Int → Nat → Option Int) (key : Int → Int) (acc : Int → Bool) (F : List Int) : Aut := ⟨0, F.map acc, F.map (rowOfK step key F)⟩
/-- A state that is known keeps its number; a new one has the next. -/
theorem rowAtK_old {step : Int → Nat → Option Int} {key : Int → Int} {F gs t : List Int} {s x : Int} {k : Nat} (hF : F = gs ++ t) (h : step s k = some x) (hx : key x ∈ gs.map key) : rowAtK step key F s k = (posN (gs.map key) (key x) : Int) := by
  rw [rowAtK_some h, hF, List.map_append, posN_app _ _ _ hx]
theorem rowAtK_new {step : Int → Nat → Option Int} {key : Int → Int} {F gs t : List Int} {s x : Int} {k : Nat} (hF : F = (gs ++ [x]) ++ t) (h : step s k = some x) (hx : key x ∉ gs.map key) : rowAtK step key F s k = (gs.length : Int) := by
  rw [rowAtK_some h, hF, List.map_append, posN_app _ _ _ (by simp), List.map_append, List.map_cons, List.map_nil, posN_new _ _ hx, List.length_map]
/-- Where the key tells states apart, it is the machine's numbers. -/
theorem addK_is {key : Int → Int} {Q : Int → Prop} (hk : ∀ x, Q x → key x = x) {lim : Nat} {fs gs : List Int} {o : Option Int} (hf : ∀ x ∈ fs, Q x) (ho : ∀ x, o = some x → Q x) (h : addN lim fs o = some gs) : addK key fs o = gs := by
  have e1 : fs.map key = fs := by
    conv => rhs; rw [← List.map_id fs]
    exact List.map_congr_left (fun x hx => hk x (hf x hx))
  cases o with
  | none => simp [addN] at h; simp [addK, h]
  | some x =>
    unfold addK
    simp only
    rw [hk x (ho x rfl), e1]
    unfold addN at h
    simp only at h
    by_cases hx : x ∈ fs
    · rw [if_pos hx] at h ⊢; injection h
    · rw [if_neg hx] at h ⊢
      by_cases hl : fs.length = lim
      · rw [if_pos hl] at h; cases h
      · rw [if_neg hl] at h; injection h
theorem addN_Q {Q : Int → Prop} {lim : Nat} {fs gs : List Int} {o : Option Int} (hf : ∀ x ∈ fs, Q x) (ho : ∀ x, o = some x → Q x) (h : addN lim fs o = some gs) : ∀ x ∈ gs, Q x := by
  cases o with
  | none => simp [addN] at h; subst h; exact hf
  | some x =>
    unfold addN at h
    simp only at h
    by_cases hx : x ∈ fs
    · rw [if_pos hx] at h; injection h with h; subst h; exact hf
    · rw [if_neg hx] at h
      by_cases hl : fs.length = lim
      · rw [if_pos hl] at h; cases h
      · rw [if_neg hl] at h
        injection h with h
        subst h
        intro y hy
        rcases List.mem_append.1 hy with k | k
        · exact hf y k
        · simp at k; subst k; exact ho _ rfl
theorem rowK_is {step : Int → Nat → Option Int} {key : Int → Int} {Q : Int → Prop} (hk : ∀ x, Q x → key x = x) (hQ : ∀ s k x, k < 9 → Q s → step s k = some x → Q x) {lim : Nat} {s : Int} (hs : Q s) : ∀ m, m ≤ 9 → ∀ fs gs, (∀ x ∈ fs, Q x) → rowN step lim s m fs = some gs → rowK step key s m fs = gs ∧ ∀ x ∈ gs, Q x
  | 0, _, fs, gs, hf, h => by simp [rowN] at h; subst h; exact ⟨rfl, hf⟩
  | m + 1, hm, fs, gs, hf, h => by
    unfold rowN at h
    cases e : addN lim fs (step s (8 - m)) with
    | none => rw [e] at h; cases h
    | some g1 =>
      rw [e] at h
      have ho : ∀ x, step s (8 - m) = some x → Q x := fun x hx => hQ s (8 - m) x (by omega) hs hx
      have h1 := addK_is hk hf ho e
      obtain ⟨h2, h3⟩ := rowK_is hk hQ hs m (by omega) g1 gs (addN_Q hf ho e) h
      exact ⟨by unfold rowK; rw [h1]; exact h2, h3⟩
theorem runK_is {step : Int → Nat → Option Int} {key : Int → Int} {Q : Int → Prop} (hk : ∀ x, Q x → key x = x) (hQ : ∀ s k x, k < 9 → Q s → step s k = some x → Q x) {lim : Nat} : ∀ m p fs gs, (∀ x ∈ fs, Q x) → runN step lim m p fs = some gs → runK step key m p fs = gs
  | 0, p, fs, gs, hf, h => by simp [runN] at h; subst h; rfl
  | m + 1, p, fs, gs, hf, h => by
    unfold runN at h
    unfold runK
    cases e : fs[p]? with
    | none => rw [e] at h; simp only at h ⊢; injection h
    | some s =>
      rw [e] at h
      simp only at h ⊢
      have hs : Q s := hf s (List.mem_of_getElem? e)
      cases e2 : rowN step lim s 9 fs with
      | none => rw [e2] at h; cases h
      | some g1 =>
        rw [e2] at h
        obtain ⟨h1, h2⟩ := rowK_is hk hQ hs 9 (Nat.le_refl _) fs g1 hf e2
        rw [h1]
        exact runK_is hk hQ m (p + 1) g1 gs h2 h
theorem numK_is {step : Int → Nat → Option Int} {key : Int → Int} {Q : Int → Prop} (hk : ∀ x, Q x → key x = x) (hQ : ∀ s k x, k < 9 → Q s → step s k = some x → Q x) {s0 : Int} (h0 : Q s0) {F : List Int} (h : numN step 12 s0 = some F) : runK step key 13 0 [s0] = F :=
  runK_is hk hQ 13 0 [s0] F (fun x hx => by simp at hx; subst hx; exact h0) h
theorem autK_is {step : Int → Nat → Option Int} {key : Int → Int} {Q : Int → Prop} (hk : ∀ x, Q x → key x = x) (hQ : ∀ s k x, k < 9 → Q s → step s k = some x → Q x) (acc : Int → Bool) {F : List Int} (hF : ∀ x ∈ F, Q x) : autK step key acc F = autN step acc F := by
  have e1 : F.map key = F := by
    conv => rhs; rw [← List.map_id F]
    exact List.map_congr_left (fun x hx => hk x (hF x hx))
  unfold autK autN
  congr 1
  refine List.map_congr_left fun s hs => ?_
  unfold rowOfK rowOf
  refine List.map_congr_left fun k hk9 => ?_
  have hk9 := List.mem_range.1 hk9
  unfold rowAtK rowAt
  cases e : step s k with
  | none => rfl
  | some x =>
    have := hk x (hQ s k x hk9 (hF s hs) e)
    simp only
    rw [e1, this]
/-- What numbering by the key keeps. -/
def FsK (key : Int → Int) (Q : Int → Prop) (rs : List Int) : Prop := (rs.map key).Nodup ∧ ∀ x ∈ rs, Q x
theorem FsK.snoc {key : Int → Int} {Q : Int → Prop} {rs : List Int} (h : FsK key Q rs) {x : Int} (hx : key x ∉ rs.map key) (hq : Q x) : FsK key Q (rs ++ [x]) :=
  ⟨by rw [List.map_append]; exact nodup_snoc h.1 hx, fun y hy => by
    rcases List.mem_append.1 hy with k | k
    · exact h.2 y k
    · simp at k; subst k; exact hq⟩
theorem FsK.len {key : Int → Int} {Q : Int → Prop} {rs : List Int} (h : FsK key Q rs) {n : Nat} (hb : ∀ x, Q x → 0 ≤ key x ∧ key x < (n : Int)) : rs.length ≤ n := by
  have := pigeon_le (n := n) h.1 (fun x hx => by
    obtain ⟨y, hy, rfl⟩ := List.mem_map.1 hx
    exact hb y (h.2 y hy))
  rw [List.length_map] at this
  exact this
end Go.Proofs.Ytcokggjekleabaa
