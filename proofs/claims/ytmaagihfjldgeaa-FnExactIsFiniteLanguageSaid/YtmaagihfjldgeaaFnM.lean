/- A language is finite just where no useful state comes back to itself: the search that goes as many steps as there are states. Plain data. -/
import Derived.Test.YtmaagihfjldgeaaTrI
namespace Go.Proofs.Ytmaagihfjldgeaa
set_option maxRecDepth 100000
set_option linter.unusedVariables false
set_option linter.unusedSimpArgs false

/-- t is reached from s in one step or more. -/
inductive PlusT (A : Aut) (s : Nat) : Nat → Prop
  | one {k t : Nat} : k < 9 → tgt A s k = some t → PlusT A s t
  | more {k t u : Nat} : PlusT A s t → k < 9 → tgt A t k = some u → PlusT A s u
theorem PlusT.lt {A : Aut} {s t : Nat} (h : PlusT A s t) : s < A.ac.length ∧ t < A.ac.length := by
  induction h with
  | one _ h => exact ⟨(tgt_lt h).1, (tgt_lt h).2.1⟩
  | more _ _ h ih => exact ⟨ih.1, (tgt_lt h).2.1⟩
theorem PlusT.first {A : Aut} {s t : Nat} (h : PlusT A s t) : ∃ k x, k < 9 ∧ tgt A s k = some x ∧ (x = t ∨ PlusT A x t) := by
  induction h with
  | one hk h => exact ⟨_, _, hk, h, .inl rfl⟩
  | more _ hk h ih =>
    obtain ⟨k, x, h1, h2, h3⟩ := ih
    refine ⟨k, x, h1, h2, .inr ?_⟩
    rcases h3 with h3 | h3
    · subst h3; exact .one hk h
    · exact .more h3 hk h
theorem PlusT.live {A : Aut} {s t : Nat} (h : PlusT A s t) (hl : LiveP A t) : LiveP A s := by
  induction h with
  | one hk h => exact LeastP.step (tgt_lt h).1 hk (liveR_of h) hl
  | more _ hk h ih => exact ih (LeastP.step (tgt_lt h).1 hk (liveR_of h) hl)
theorem rch_plus {A : Aut} (hv : ValidA A) {s : Nat} (hs : s < A.ac.length) (h : RchP A s) : s = A.st.toNat ∨ PlusT A A.st.toNat s := by
  have hst := hv.2.2.1
  refine LeastP.ind (R := rchR A) (n := A.ac.length) (B0 := startL A) (Q := fun t => t = A.st.toNat ∨ PlusT A A.st.toNat t) (by rw [startL_length]; exact Nat.le_refl _) rchR_lt ?_ ?_ hs h
  · intro t ht
    rw [startL_at (by omega), decide_eq_true_iff] at ht
    exact .inl ht
  · intro t k x y ht hk hR hx
    obtain ⟨h1, rfl⟩ := rchR_inv hR
    rcases hx with hx | hx
    · rw [hx] at h1; exact .inr (.one hk h1)
    · exact .inr (.more hx hk h1)
/-- The direct successors of a state. -/
def succB (A : Aut) (s : Nat) : Nat → Bool := fun t => (List.range 9).any fun k => tgt A s k == some t
theorem succB_iff {A : Aut} {s t : Nat} : succB A s t = true ↔ ∃ k, k < 9 ∧ tgt A s k = some t := by
  unfold succB
  rw [List.any_eq_true]
  constructor
  · rintro ⟨k, hk, h⟩
    exact ⟨k, List.mem_range.1 hk, by simpa using h⟩
  · rintro ⟨k, hk, h⟩
    exact ⟨k, List.mem_range.2 hk, by simpa using h⟩
/-- The least closed set over a list of the direct successors holds just what is reached in one step or more. -/
theorem onw_plus {A : Aut} {s : Nat} {B0 : List Bool} (hB : B0.length = A.ac.length) (h0 : ∀ t, at0 B0 t = true ↔ succB A s t = true) {t : Nat} (ht : t < A.ac.length) : LeastP (rchR A) A.ac.length B0 t ↔ PlusT A s t := by
  constructor
  · intro h
    refine LeastP.ind (R := rchR A) (n := A.ac.length) (B0 := B0) (Q := fun t => PlusT A s t) (by omega) rchR_lt ?_ ?_ ht h
    · intro u hu
      obtain ⟨k, hk, h1⟩ := succB_iff.1 ((h0 u).1 hu)
      exact .one hk h1
    · intro u k x y hu hk hR hx
      obtain ⟨h1, rfl⟩ := rchR_inv hR
      exact .more hx hk h1
  · intro h
    clear ht
    induction h with
    | one hk h => exact LeastP.base ((h0 _).2 (succB_iff.2 ⟨_, hk, h⟩))
    | more _ hk h ih => exact LeastP.step (tgt_lt h).1 hk (rchR_of h) ih
/-- What is reached in just so many steps. -/
def StpsP (step : Int → Nat → Option Int) (x0 : Int) : Nat → Int → Prop
  | 0, x => x = x0
  | i + 1, x => ∃ y k, k < 9 ∧ StpsP step x0 i y ∧ step y k = some x
section
variable {A : Aut} {f g : Nat → Bool} {fs : List Int}
theorem tgt_of_step (hv : ValidA A) {x y : Int} {k : Nat} (hk : k < 9) (hx : InA A x) (h : stepF A f x k = some y) : tgt A x.toNat k = some y.toNat ∧ f y.toNat = true ∧ InA A y := by
  obtain ⟨h1, h2, h3⟩ := stepF_some h
  have h4 := next_lt hv hx hk
  have hxe : ((x.toNat : Nat) : Int) = x := by unfold InA at hx; omega
  refine ⟨tgt_some (by unfold InA at hx; omega) (by rw [hxe, h2]; omega) (by omega), h3, by unfold InA; omega⟩
theorem step_of_tgt {x t k : Nat} (h : tgt A x k = some t) (hf : f t = true) : stepF A f (x : Int) k = some (t : Int) := stepF_is (tgt_lt h).2.2 hf
theorem stps_list (hv : ValidA A) (hin : ∀ x ∈ fs, InA A x) (hst : A.st ∈ fs) (hc : ∀ s ∈ fs, ∀ k x, k < 9 → stepF A f s k = some x → x ∈ fs) : ∀ (i : Nat) (z : Int), StpsP (stepF A f) A.st i z →
    (∃ c ∈ fs, f c.toNat = true ∧ PlusT A c.toNat c.toNat) ∨ (z ∈ fs ∧ ∃ l : List Int, l.length = i + 1 ∧ l.Nodup ∧ (∀ x ∈ l, x ∈ fs) ∧ ∀ x ∈ l, x = z ∨ PlusT A x.toNat z.toNat) := by
  intro i
  induction i with
  | zero =>
    intro z hz
    have hz : z = A.st := hz
    subst hz
    exact .inr ⟨hst, [A.st], by simp, by simp, fun x hx => by simp at hx; subst hx; exact hst, fun x hx => by simp at hx; exact .inl hx⟩
  | succ i ih =>
    intro z hz
    obtain ⟨y, k, hk, hy, hs⟩ := hz
    rcases ih y hy with h | ⟨hyf, l, h1, h2, h3, h4⟩
    · exact .inl h
    · obtain ⟨t1, t2, t3⟩ := tgt_of_step hv hk (hin y hyf) hs
      have hzf := hc y hyf k z hk hs
      have key : ∀ x ∈ l, PlusT A x.toNat z.toNat := fun x hx => by
        rcases h4 x hx with e | e
        · subst e; exact .one hk t1
        · exact .more e hk t1
      by_cases hzl : z ∈ l
      · exact .inl ⟨z, hzf, t2, key z hzl⟩
      · refine .inr ⟨hzf, l ++ [z], by simp [h1], nodup_snoc h2 hzl, fun x hx => ?_, fun x hx => ?_⟩
        · rcases List.mem_append.1 hx with hx | hx
          · exact h3 x hx
          · simp at hx; subst hx; exact hzf
        · rcases List.mem_append.1 hx with hx | hx
          · exact .inr (key x hx)
          · simp at hx; exact .inl hx
theorem nodup_sub_len : ∀ (l m : List Int), l.Nodup → (∀ x ∈ l, x ∈ m) → l.length ≤ m.length
  | [], m, _, _ => by simp
  | x :: l, m, h, hm => by
    obtain ⟨h1, h2⟩ := List.nodup_cons.1 h
    have hx : x ∈ m := hm x (by simp)
    have h3 := nodup_sub_len l (m.erase x) h2 (fun y hy => by
      have hne : y ≠ x := fun e => h1 (by rw [← e]; exact hy)
      exact (List.mem_erase_of_ne hne).2 (hm y (by simp [hy])))
    have h4 := List.length_erase_of_mem hx
    have h5 : 0 < m.length := List.length_pos_of_mem hx
    simp; omega
/-- There are walks of as many steps as there are states just where a useful state comes back to itself. -/
theorem fin_iff (hv : ValidA A) (hf : ∀ s, f s = true ↔ LiveP A s) (hg : ∀ s, g s = true ↔ RchP A s) {lim : Nat} (hl : 1 ≤ lim) (hn : numN (stepF A f) lim A.st = some fs) :
    (∃ x, StpsP (stepF A f) A.st fs.length x) ↔ ∃ s, s < A.ac.length ∧ g s = true ∧ f s = true ∧ PlusT A s s := by
  have hst0 := inA_st hv
  have hss : ((A.st.toNat : Nat) : Int) = A.st := by unfold InA at hst0; omega
  have hrst : RchP A A.st.toNat := LeastP.base (by rw [startL_at (by unfold InA at hst0; omega)]; simp)
  obtain ⟨⟨hnd, hQ⟩, hst, hc, _⟩ := numN_some (Q := fun x => InA A x ∧ RchP A x.toNat) (fun s k x hk hs hx => (found_rch (f := f) hv).step s k x hk hs hx) hl ⟨hst0, hrst⟩ hn
  constructor
  · rintro ⟨z, hz⟩
    rcases stps_list hv (fun x hx => (hQ x hx).1) hst hc fs.length z hz with ⟨c, h1, h2, h3⟩ | ⟨_, l, h1, h2, h3, _⟩
    · exact ⟨c.toNat, h3.lt.1, (hg _).2 (hQ c h1).2, h2, h3⟩
    · have := nodup_sub_len l fs h2 h3
      omega
  · rintro ⟨s, hs, h1, h2, h3⟩
    have hls := (hf s).1 h2
    have hH : ∀ x, PlusT A x s → ∃ (k t : Nat), k < 9 ∧ stepF A f (x : Int) k = some (t : Int) ∧ PlusT A t s := by
      intro x hx
      obtain ⟨k, t, hk, ht, h4⟩ := hx.first
      have hp : PlusT A t s := by
        rcases h4 with h4 | h4
        · rw [h4]; exact h3
        · exact h4
      exact ⟨k, t, hk, step_of_tgt ht ((hf t).2 (hp.live hls)), hp⟩
    have h0 : PlusT A A.st.toNat s := by
      rcases rch_plus hv hs ((hg s).1 h1) with e | e
      · rw [← e]; exact h3
      · exact e
    have hall : ∀ i, ∃ x : Nat, StpsP (stepF A f) A.st i (x : Int) ∧ PlusT A x s := by
      intro i
      induction i with
      | zero => exact ⟨A.st.toNat, hss, h0⟩
      | succ i ih =>
        obtain ⟨x, hx, hp⟩ := ih
        obtain ⟨k, t, hk, ht, hp2⟩ := hH x hp
        exact ⟨t, ⟨_, k, hk, hx, ht⟩, hp2⟩
    obtain ⟨x, hx, _⟩ := hall fs.length
    exact ⟨_, hx⟩
end
/-! sets of states as bits -/
/-- What the two loops have gathered, up to a state and a letter. -/
def AftI (T : Aut) (S s k r : Nat) : Prop := ∀ p, r.testBit p = true ↔ ∃ s' k', (s' < s ∨ (s' = s ∧ k' < k)) ∧ k' < 9 ∧ S.testBit s' = true ∧ nextA T.nx s' k' = (p : Int)
theorem AftI.start (T : Aut) (S : Nat) : AftI T S 0 0 0 := fun p => by
  constructor
  · intro h; rw [Nat.zero_testBit] at h; cases h
  · rintro ⟨s, k, h, _⟩; omega
theorem AftI.row {T : Aut} {S s r : Nat} (h : AftI T S s 9 r) : AftI T S (s + 1) 0 r := fun p => by
  rw [h p]
  constructor
  · rintro ⟨s', k', h1, h2, h3⟩; exact ⟨s', k', by omega, h2, h3⟩
  · rintro ⟨s', k', h1, h2, h3⟩; exact ⟨s', k', by omega, h2, h3⟩
theorem AftI.skip {T : Aut} {S s k r : Nat} (h : AftI T S s k r) (hno : S.testBit s = false ∨ nextA T.nx s k = -1) : AftI T S s (k + 1) r := fun p => by
  rw [h p]
  constructor
  · rintro ⟨s', k', h1, h2⟩; exact ⟨s', k', by omega, h2⟩
  · rintro ⟨s', k', h1, h2, h3, h4⟩
    by_cases e : s' = s ∧ k' = k
    · exfalso
      rw [e.1] at h3
      rw [e.1, e.2] at h4
      rcases hno with hno | hno
      · rw [hno] at h3; cases h3
      · omega
    · exact ⟨s', k', by omega, h2, h3, h4⟩
theorem AftI.turn {T : Aut} {S s k r t : Nat} (h : AftI T S s k r) (hk : k < 9) (hb : S.testBit s = true) (hn : nextA T.nx s k = (t : Int)) : AftI T S s (k + 1) (r ||| 2 ^ t) := fun p => by
  rw [Nat.testBit_or, Bool.or_eq_true, h p, Nat.testBit_two_pow]
  constructor
  · rintro (⟨s', k', h1, h2⟩ | h1)
    · exact ⟨s', k', by omega, h2⟩
    · have e : t = p := by simpa using h1
      subst e
      exact ⟨s, k, by omega, hk, hb, hn⟩
  · rintro ⟨s', k', h1, h2, h3, h4⟩
    by_cases e : s' = s ∧ k' = k
    · right
      rw [e.1, e.2, hn] at h4
      simp; omega
    · exact .inl ⟨s', k', by omega, h2, h3, h4⟩
/-- .. and the set after that is told by the steps. -/
def StB (step : Int → Nat → Option Int) (x0 : Int) (fs : List Int) (i S : Nat) : Prop := ∀ p, S.testBit p = true ↔ ∃ h : p < fs.length, StpsP step x0 i fs[p]
theorem StB.start {step : Int → Nat → Option Int} {x0 : Int} {t : List Int} (hd : (x0 :: t).Nodup) : StB step x0 (x0 :: t) 0 1 := fun p => by
  have e1 : (1 : Nat) = 2 ^ 0 := rfl
  rw [e1, Nat.testBit_two_pow]
  constructor
  · intro h
    have e : 0 = p := of_decide_eq_true h
    subst e
    exact ⟨by simp, rfl⟩
  · rintro ⟨h, hp⟩
    have hp : (x0 :: t)[p] = x0 := hp
    cases p with
    | zero => simp
    | succ p =>
      exfalso
      rw [List.getElem_cons_succ] at hp
      exact (List.nodup_cons.1 hd).1 (by rw [← hp]; exact List.getElem_mem _)
theorem stps_in {step : Int → Nat → Option Int} {x0 : Int} {fs : List Int} (h0 : x0 ∈ fs) (hc : ∀ s ∈ fs, ∀ k x, k < 9 → step s k = some x → x ∈ fs) : ∀ (i : Nat) (x : Int), StpsP step x0 i x → x ∈ fs
  | 0, x, h => by
    have h : x = x0 := h
    rw [h]; exact h0
  | i + 1, x, h => by
    obtain ⟨y, k, hk, hy, hs⟩ := h
    exact hc y (stps_in h0 hc i y hy) k x hk hs
theorem StB.next {step : Int → Nat → Option Int} {acc : Int → Bool} {x0 : Int} {fs : List Int} {i S R : Nat} (h : StB step x0 fs i S) (h0 : x0 ∈ fs) (hd : fs.Nodup) (hc : ∀ s ∈ fs, ∀ k x, k < 9 → step s k = some x → x ∈ fs) (hr : AftI (autN step acc fs) S fs.length 0 R) : StB step x0 fs (i + 1) R := fun p => by
  rw [hr p]
  have hnx : ∀ (q k : Nat) (hq : q < fs.length), k < 9 → nextA (autN step acc fs).nx (q : Int) (k : Int) = rowAt step fs fs[q] k := fun q k hq hk => by
    rw [nextA_at _ q k (by simp [autN]; exact hq) (by simp [autN, rowOf]; exact hk)]
    simp [autN, rowOf]
  constructor
  · rintro ⟨q, k, h1, hk, h3, h4⟩
    have hq : q < fs.length := by omega
    rw [hnx q k hq hk] at h4
    obtain ⟨_, hS⟩ := (h q).1 h3
    cases e : step fs[q] k with
    | none => rw [rowAt_none e] at h4; omega
    | some x =>
      rw [rowAt_some e] at h4
      have hx := hc _ (List.getElem_mem hq) k x hk e
      have hp : posN fs x = p := by omega
      have hlt := posN_lt fs x hx
      rw [hp] at hlt
      refine ⟨hlt, fs[q], k, hk, hS, ?_⟩
      obtain ⟨j, hj, rfl⟩ := List.getElem_of_mem hx
      rw [posN_at fs hd j hj] at hp
      subst hp
      exact e
  · rintro ⟨hp, y, k, hk, hy, hs⟩
    obtain ⟨q, hq, e⟩ := List.getElem_of_mem (stps_in h0 hc i y hy)
    subst e
    have hb : S.testBit q = true := (h q).2 ⟨hq, hy⟩
    refine ⟨q, k, by omega, hk, hb, ?_⟩
    rw [hnx q k hq hk, rowAt_some hs, posN_at fs hd p hp]
end Go.Proofs.Ytmaagihfjldgeaa
