/- Numbering states in the order in which they are found: as plain data. -/
import Derived.Test.YtcokggjekleabaaAuL
namespace Go.Proofs.Ytcokggjekleabaa
set_option maxRecDepth 100000
set_option linter.unusedVariables false
set_option linter.unusedSimpArgs false

def addN (lim : Nat) (fs : List Int) (o : Option Int) : Option (List Int) :=
  match o with
  | none => some fs
  | some x => if x ∈ fs then some fs else if fs.length = lim then none else some (fs ++ [x])
/-- The letters from 9 - m on. -/
def rowN (step : Int → Nat → Option Int) (lim : Nat) (s : Int) : Nat → List Int → Option (List Int)
  | 0, fs => some fs
  | m + 1, fs => (addN lim fs (step s (8 - m))).bind (rowN step lim s m)
def runN (step : Int → Nat → Option Int) (lim : Nat) : Nat → Nat → List Int → Option (List Int)
  | 0, _, fs => some fs
  | m + 1, p, fs => match fs[p]? with
    | none => some fs
    | some s => (rowN step lim s 9 fs).bind (runN step lim m (p + 1))
def numN (step : Int → Nat → Option Int) (lim : Nat) (s0 : Int) : Option (List Int) := runN step lim (lim + 1) 0 [s0]
theorem runN_at (step : Int → Nat → Option Int) (lim m p : Nat) (fs : List Int) (hp : p < fs.length) : runN step lim (m + 1) p fs = (rowN step lim fs[p] 9 fs).bind (runN step lim m (p + 1)) := by
  conv => lhs; unfold runN
  rw [List.getElem?_eq_getElem hp]
theorem runN_end (step : Int → Nat → Option Int) (lim m p : Nat) (fs : List Int) (hp : fs.length ≤ p) : runN step lim m p fs = some fs := by
  cases m with
  | zero => rfl
  | succ m => unfold runN; rw [List.getElem?_eq_none hp]
theorem rowN_at (step : Int → Nat → Option Int) (lim : Nat) (s : Int) (k : Nat) (hk : k < 9) (fs : List Int) : rowN step lim s (9 - k) fs = (addN lim fs (step s k)).bind (rowN step lim s (9 - (k + 1))) := by
  have e : 9 - k = (8 - k) + 1 := by omega
  rw [e]
  conv => lhs; unfold rowN
  rw [show 8 - (8 - k) = k from by omega, show 9 - (k + 1) = 8 - k from by omega]
theorem rowN_none (step : Int → Nat → Option Int) (lim : Nat) (s : Int) (k : Nat) (hk : k < 9) (fs : List Int) (h : step s k = none) : rowN step lim s (9 - k) fs = rowN step lim s (9 - (k + 1)) fs := by
  rw [rowN_at step lim s k hk fs, h]; rfl
theorem rowN_old (step : Int → Nat → Option Int) (lim : Nat) (s : Int) (k : Nat) (hk : k < 9) (fs : List Int) (x : Int) (h : step s k = some x) (hx : x ∈ fs) : rowN step lim s (9 - k) fs = rowN step lim s (9 - (k + 1)) fs := by
  rw [rowN_at step lim s k hk fs, h]; simp [addN, hx]
theorem rowN_full (step : Int → Nat → Option Int) (lim : Nat) (s : Int) (k : Nat) (hk : k < 9) (fs : List Int) (x : Int) (h : step s k = some x) (hx : x ∉ fs) (hl : fs.length = lim) : rowN step lim s (9 - k) fs = none := by
  rw [rowN_at step lim s k hk fs, h]; simp [addN, hx, hl]
theorem rowN_new (step : Int → Nat → Option Int) (lim : Nat) (s : Int) (k : Nat) (hk : k < 9) (fs : List Int) (x : Int) (h : step s k = some x) (hx : x ∉ fs) (hl : fs.length ≠ lim) : rowN step lim s (9 - k) fs = rowN step lim s (9 - (k + 1)) (fs ++ [x]) := by
  rw [rowN_at step lim s k hk fs, h]; simp [addN, hx, hl]
/-- Different states below n are at most n. -/
theorem pigeon (n : Nat) : ∀ (l : List Int), l.Nodup → (∀ x ∈ l, 0 ≤ x ∧ x < (n : Int)) → cntT (boL (fun s => decide ((s : Int) ∈ l)) n) = l.length
  | [], _, _ => by
    have : ∀ b : List Bool, (∀ x ∈ b, x = false) → cntT b = 0 := by
      intro b
      induction b with
      | nil => intro _; rfl
      | cons x xs ih => intro h; simp only [cntT]; rw [h x (by simp), ih (fun y hy => h y (by simp [hy]))]; rfl
    exact this _ (fun x hx => by
      unfold boL at hx
      obtain ⟨s, _, rfl⟩ := List.mem_map.1 hx
      simp)
  | x :: l, hd, hb => by
    obtain ⟨hx1, hd2⟩ := List.nodup_cons.1 hd
    have hx := hb x (by simp)
    have ih := pigeon n l hd2 (fun y hy => hb y (by simp [hy]))
    have hxn : x.toNat < n := by omega
    have hxe : ((x.toNat : Nat) : Int) = x := by omega
    have e : boL (fun s => decide ((s : Int) ∈ x :: l)) n = (boL (fun s => decide ((s : Int) ∈ l)) n).set x.toNat true := by
      apply List.ext_getElem
      · simp [boL]
      · intro i h1 h2
        have hi : i < n := by rw [boL_length] at h1; exact h1
        rw [boL_get _ n i hi, List.getElem_set]
        by_cases e : x.toNat = i
        · rw [if_pos e]
          have : ((i : Nat) : Int) = x := by omega
          simp [this]
        · rw [if_neg e, boL_get _ n i hi]
          have : ((i : Nat) : Int) ≠ x := by omega
          simp [this]
    rw [e, cntT_set _ _ (by rw [boL_length]; exact hxn) (by rw [boL_at _ n _ hxn, hxe]; simp [hx1]), ih]
    rfl
theorem pigeon_le {n : Nat} {l : List Int} (h : l.Nodup) (hb : ∀ x ∈ l, 0 ≤ x ∧ x < (n : Int)) : l.length ≤ n := by
  have h1 := pigeon n l h hb
  have h2 := cntT_le (boL (fun s => decide ((s : Int) ∈ l)) n)
  rw [boL_length] at h2
  omega
theorem nodup_snoc {l : List Int} {x : Int} (h : l.Nodup) (hx : x ∉ l) : (l ++ [x]).Nodup := by
  rw [List.nodup_append]
  refine ⟨h, by simp, fun a ha b hb => ?_⟩
  simp at hb; subst hb
  intro e; subst e; exact hx ha
/-- What numbering keeps: different states that Q holds of. -/
def FsI (Q : Int → Prop) (fs : List Int) : Prop := fs.Nodup ∧ ∀ x ∈ fs, Q x
theorem FsI.snoc {Q : Int → Prop} {fs : List Int} (h : FsI Q fs) {x : Int} (hx : x ∉ fs) (hq : Q x) : FsI Q (fs ++ [x]) :=
  ⟨nodup_snoc h.1 hx, fun y hy => by
    rcases List.mem_append.1 hy with k | k
    · exact h.2 y k
    · simp at k; subst k; exact hq⟩
/-- Q is closed, and room is enough: no state is refused. -/
structure NumH (step : Int → Nat → Option Int) (lim : Nat) (Q : Int → Prop) : Prop where
  step : ∀ s k x, k < 9 → Q s → step s k = some x → Q x
  room : ∀ fs, FsI Q fs → fs.length ≤ lim
theorem rowN_all {step : Int → Nat → Option Int} {lim : Nat} {Q : Int → Prop} (H : NumH step lim Q) (s : Int) (hs : Q s) : ∀ (m : Nat), m ≤ 9 → ∀ fs, FsI Q fs →
    ∃ gs, rowN step lim s m fs = some gs ∧ FsI Q gs ∧ (∃ t, gs = fs ++ t) ∧ ∀ k x, 9 - m ≤ k → k < 9 → step s k = some x → x ∈ gs := by
  intro m
  induction m with
  | zero => intro _ fs hf; exact ⟨fs, rfl, hf, ⟨[], by simp⟩, fun k x h1 h2 => by omega⟩
  | succ m ih =>
    intro hm fs hf
    have key : ∃ g1, addN lim fs (step s (8 - m)) = some g1 ∧ FsI Q g1 ∧ (∃ t, g1 = fs ++ t) ∧ ∀ x, step s (8 - m) = some x → x ∈ g1 := by
      cases e : step s (8 - m) with
      | none => exact ⟨fs, rfl, hf, ⟨[], by simp⟩, fun x h => by cases h⟩
      | some x =>
        by_cases hx : x ∈ fs
        · exact ⟨fs, by simp [addN, hx], hf, ⟨[], by simp⟩, fun y h => by injection h with h; subst h; exact hx⟩
        · have hf2 := hf.snoc hx (H.step s (8 - m) x (by omega) hs e)
          have hr := H.room _ hf2
          rw [List.length_append, List.length_singleton] at hr
          exact ⟨fs ++ [x], by simp only [addN]; rw [if_neg hx, if_neg (by omega)], hf2, ⟨[x], rfl⟩, fun y h => by injection h with h; subst h; simp⟩
    obtain ⟨g1, e1, f1, ⟨t1, ht1⟩, c1⟩ := key
    obtain ⟨gs, e2, f2, ⟨t2, ht2⟩, c2⟩ := ih (by omega) g1 f1
    refine ⟨gs, ?_, f2, ⟨t1 ++ t2, by rw [ht2, ht1, List.append_assoc]⟩, fun k x h1 h2 h3 => ?_⟩
    · unfold rowN; rw [e1]; exact e2
    · by_cases e : k = 8 - m
      · subst e
        have := c1 x h3
        rw [ht2]; exact List.mem_append_left _ this
      · exact c2 k x (by omega) h2 h3
theorem runN_all {step : Int → Nat → Option Int} {lim : Nat} {Q : Int → Prop} (H : NumH step lim Q) : ∀ (m p : Nat) (fs : List Int), FsI Q fs → lim + 1 ≤ m + p → p ≤ fs.length → (∀ i (h : i < fs.length), i < p → ∀ k x, k < 9 → step fs[i] k = some x → x ∈ fs) →
    ∃ gs, runN step lim m p fs = some gs ∧ FsI Q gs ∧ (∃ t, gs = fs ++ t) ∧ ∀ s ∈ gs, ∀ k x, k < 9 → step s k = some x → x ∈ gs := by
  intro m
  induction m with
  | zero =>
    intro p fs hf hm hp hc
    have := H.room fs hf
    exact ⟨fs, rfl, hf, ⟨[], by simp⟩, fun s hs k x hk hx => by
      obtain ⟨i, hi, rfl⟩ := List.getElem_of_mem hs
      exact hc i hi (by omega) k x hk hx⟩
  | succ m ih =>
    intro p fs hf hm hp hc
    by_cases hlt : p < fs.length
    · rw [runN_at step lim m p fs hlt]
      obtain ⟨g1, e1, f1, ⟨t1, ht1⟩, c1⟩ := rowN_all H fs[p] (hf.2 _ (List.getElem_mem hlt)) 9 (Nat.le_refl _) fs hf
      rw [e1]
      obtain ⟨gs, e2, f2, ⟨t2, ht2⟩, c2⟩ := ih (p + 1) g1 f1 (by omega) (by rw [ht1, List.length_append]; omega) (fun i hi hip k x hk hx => by
        subst ht1
        by_cases hif : i < fs.length
        · rw [List.getElem_append_left hif] at hx
          by_cases e : i = p
          · subst e; exact c1 k x (by omega) hk hx
          · exact List.mem_append_left _ (hc i hif (by omega) k x hk hx)
        · omega)
      exact ⟨gs, e2, f2, ⟨t1 ++ t2, by rw [ht2, ht1, List.append_assoc]⟩, c2⟩
    · rw [runN_end step lim (m + 1) p fs (by omega)]
      exact ⟨fs, rfl, hf, ⟨[], by simp⟩, fun s hs k x hk hx => by
        obtain ⟨i, hi, rfl⟩ := List.getElem_of_mem hs
        exact hc i hi (by omega) k x hk hx⟩
theorem numN_all {step : Int → Nat → Option Int} {lim : Nat} {Q : Int → Prop} (H : NumH step lim Q) (s0 : Int) (h0 : Q s0) : ∃ fs, numN step lim s0 = some fs ∧ FsI Q fs ∧ s0 ∈ fs ∧ ∀ s ∈ fs, ∀ k x, k < 9 → step s k = some x → x ∈ fs := by
  obtain ⟨gs, e, f, ⟨t, ht⟩, c⟩ := runN_all H (lim + 1) 0 [s0] ⟨by simp, fun x hx => by simp at hx; subst hx; exact h0⟩ (by omega) (by simp) (fun i hi h => by omega)
  exact ⟨gs, e, f, by rw [ht]; simp, c⟩
/-! the live part of an automaton -/
def stepF (A : Aut) (f : Nat → Bool) (s : Int) (k : Nat) : Option Int := if 0 ≤ nextA A.nx s k ∧ f (nextA A.nx s k).toNat = true then some (nextA A.nx s k) else none
theorem stepF_some {A : Aut} {f : Nat → Bool} {s x : Int} {k : Nat} (h : stepF A f s k = some x) : 0 ≤ x ∧ nextA A.nx s k = x ∧ f x.toNat = true := by
  unfold stepF at h
  split at h
  · rename_i e; injection h with h; subst h; exact ⟨e.1, rfl, e.2⟩
  · cases h
theorem stepF_is {A : Aut} {f : Nat → Bool} {s : Int} {k t : Nat} (h : nextA A.nx s k = (t : Int)) (hf : f t = true) : stepF A f s k = some (t : Int) := by
  unfold stepF; rw [h, if_pos ⟨by omega, by simpa using hf⟩]
theorem stepF_no {A : Aut} {f : Nat → Bool} {s : Int} {k : Nat} (h : nextA A.nx s k = -1) : stepF A f s k = none := by
  unfold stepF; rw [h, if_neg (by omega)]
theorem stepF_dead {A : Aut} {f : Nat → Bool} {s : Int} {k t : Nat} (h : nextA A.nx s k = (t : Int)) (hf : f t = false) : stepF A f s k = none := by
  unfold stepF; rw [h, if_neg (by simp [hf])]
def InA (A : Aut) (s : Int) : Prop := 0 ≤ s ∧ s < (A.ac.length : Int)
theorem next_lt {A : Aut} (h : ValidA A) {s : Int} (hs : InA A s) {k : Nat} (hk : k < 9) : -1 ≤ nextA A.nx s k ∧ nextA A.nx s k < (A.ac.length : Int) := by
  obtain ⟨_, _, _, h1, h2⟩ := nextA_in h s (k : Int) hs (by simp [inB]; omega)
  exact ⟨h1, h2⟩
theorem numH_live {A : Aut} (h : ValidA A) (f : Nat → Bool) {lim : Nat} (hl : A.ac.length ≤ lim) : NumH (stepF A f) lim (InA A) :=
  ⟨fun s k x hk hs hx => by
    obtain ⟨h1, h2, _⟩ := stepF_some hx
    have := next_lt h hs hk
    exact ⟨h1, by omega⟩, fun fs hf => Nat.le_trans (pigeon_le hf.1 hf.2) hl⟩
/-- The live states that are reached are those that are found through live states. -/
theorem useful_iff {A : Aut} (h : ValidA A) {f g : Nat → Bool} (hf : ∀ s, f s = true ↔ LiveP A s) (hg : ∀ s, g s = true ↔ RchP A s) {fs : List Int} (hs0 : A.st ∈ fs) (hin : ∀ x ∈ fs, InA A x)
    (hc : ∀ s ∈ fs, ∀ k x, k < 9 → stepF A f s k = some x → x ∈ fs) (hr : ∀ x ∈ fs, RchP A x.toNat) (s : Nat) (hs : s < A.ac.length) : (decide ((s : Int) ∈ fs) && f s) = (g s && f s) := by
  cases e : f s with
  | false => simp
  | true =>
    rw [Bool.and_true, Bool.and_true, Bool.eq_iff_iff, decide_eq_true_iff, hg]
    refine ⟨fun k => hr _ k, fun k => ?_⟩
    have hst := h.2.2.1
    have hQ : (LiveP A s → (s : Int) ∈ fs) := by
      refine LeastP.ind (R := rchR A) (n := A.ac.length) (B0 := startL A) (Q := fun t => LiveP A t → (t : Int) ∈ fs) (by rw [startL_length]; exact Nat.le_refl _) rchR_lt ?_ ?_ hs k
      · intro t ht _
        rw [startL_at (by omega), decide_eq_true_iff] at ht
        rw [ht, Int.toNat_of_nonneg hst.1]; exact hs0
      · intro t k2 x y ht hk hR hx hy
        obtain ⟨h1, rfl⟩ := rchR_inv hR
        obtain ⟨h2, h3, h4⟩ := tgt_lt h1
        have hlx : LiveP A x := LeastP.step h2 hk (liveR_of h1) hy
        exact hc x (hx hlx) k2 y hk (stepF_is h4 ((hf y).2 hy))
    exact hQ ((hf s).1 e)
theorem found_rch {A : Aut} (h : ValidA A) {f : Nat → Bool} : NumH (stepF A f) A.ac.length (fun x => InA A x ∧ RchP A x.toNat) :=
  ⟨fun s k x hk hs hx => by
    obtain ⟨h1, h2, _⟩ := stepF_some hx
    have h3 := next_lt h hs.1 hk
    refine ⟨⟨h1, by omega⟩, ?_⟩
    have hsn : s.toNat < A.ac.length := by have := hs.1; unfold InA at this; omega
    have hse : ((s.toNat : Nat) : Int) = s := by have := hs.1; unfold InA at this; omega
    have ht : tgt A s.toNat k = some x.toNat := tgt_some hsn (by rw [hse, h2]; omega) (by omega)
    exact LeastP.step hsn hk (rchR_of ht) hs.2, fun fs hf => pigeon_le hf.1 (fun x hx => (hf.2 x hx).1)⟩
def usefulL (f g : Nat → Bool) (n : Nat) : List Int := ((List.range n).filter fun s => g s && f s).map fun (s : Nat) => (s : Int)
theorem usefulL_step (f g : Nat → Bool) (n : Nat) : usefulL f g (n + 1) = usefulL f g n ++ (if (g n && f n) = true then [(n : Int)] else []) := by
  unfold usefulL
  rw [List.range_succ, List.filter_append, List.map_append]
  congr 1
  have e : List.filter (fun s => g s && f s) [n] = if (g n && f n) = true then [n] else [] := by
    by_cases h : (g n && f n) = true
    · rw [if_pos h]; exact List.filter_cons_of_pos (p := fun s => g s && f s) h
    · rw [if_neg h]; exact List.filter_cons_of_neg (p := fun s => g s && f s) h
  rw [e]
  split <;> rfl
theorem usefulL_len (f g : Nat → Bool) (n : Nat) : (usefulL f g n).length ≤ n := by
  unfold usefulL
  rw [List.length_map]
  exact Nat.le_trans (List.length_filter_le _ _) (by simp)
end Go.Proofs.Ytcokggjekleabaa
