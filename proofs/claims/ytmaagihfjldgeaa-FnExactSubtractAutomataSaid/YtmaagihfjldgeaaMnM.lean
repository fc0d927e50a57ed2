/- The automaton whose states are merged by their classes: as plain data, against the model's numbering by classes. -/
import Derived.Test.YtmaagihfjldgeaaTrT
import Derived.Test.YtmaagihfjldgeaaA1
namespace Go.Proofs.Ytmaagihfjldgeaa
set_option maxRecDepth 100000
set_option linter.unusedVariables false
set_option linter.unusedSimpArgs false

/-- The first state of a state's class. -/
def fstC (cls : List Int) (t : Int) : Int := (posG cls (clC cls t) : Int)
def mrgRow (cls : List Int) (r : List Int) : List Int := r.map fun t => if t = -1 then -1 else fstC cls t
def mrgA (A : Aut) (cls : List Int) : Aut := ⟨fstC cls A.st, A.ac, A.nx.map (mrgRow cls)⟩
theorem clC_mem {cls : List Int} {t : Int} (h0 : 0 ≤ t) (h : t < (cls.length : Int)) : clC cls t ∈ cls := by
  obtain ⟨u, rfl⟩ : ∃ u : Nat, t = u := ⟨t.toNat, by omega⟩
  rw [clC_at cls u (by omega)]; exact List.getElem_mem _
theorem fstC_in {cls : List Int} {t : Int} (h0 : 0 ≤ t) (h : t < (cls.length : Int)) : 0 ≤ fstC cls t ∧ fstC cls t < (cls.length : Int) := by
  have := posG_lt cls _ (clC_mem h0 h)
  unfold fstC; omega
theorem fstC_cls {cls : List Int} {t : Int} (h0 : 0 ≤ t) (h : t < (cls.length : Int)) : clC cls (fstC cls t) = clC cls t := by
  have hm := clC_mem h0 h
  unfold fstC
  rw [clC_at cls _ (posG_lt cls _ hm)]; exact posG_get cls _ hm
theorem fstC_eq {cls : List Int} {s t : Int} (hs0 : 0 ≤ s) (hs : s < (cls.length : Int)) (ht0 : 0 ≤ t) (ht : t < (cls.length : Int)) : fstC cls s = fstC cls t ↔ clC cls s = clC cls t := by
  constructor
  · intro e
    rw [← fstC_cls hs0 hs, e, fstC_cls ht0 ht]
  · intro e; unfold fstC; rw [e]
theorem nextM {A : Aut} (hv : ValidA A) (cls : List Int) {s : Int} (hs : InA A s) {k : Nat} (hk : k < 9) : nextA (mrgA A cls).nx s (k : Int) = if nextA A.nx s k = -1 then -1 else fstC cls (nextA A.nx s k) := by
  obtain ⟨hs1, hk1, e, _, _⟩ := nextA_in hv s (k : Int) hs (by simp [inB]; omega)
  rw [e]
  have hk2 : k < (A.nx[s.toNat]).length := by simpa using hk1
  have hs2 : s.toNat < (A.nx.map (mrgRow cls)).length := by simpa using hs1
  unfold nextA
  simp only [mrgA, List.getElem?_eq_getElem hs2, Option.getD_some, Int.toNat_natCast, List.getElem_map]
  have hk3 : k < (mrgRow cls (A.nx[s.toNat])).length := by simpa [mrgRow] using hk2
  rw [List.getElem?_eq_getElem hk3, Option.getD_some]
  simp only [mrgRow, List.getElem_map]
theorem mrg_valid {A : Aut} (hv : ValidA A) {cls : List Int} (hc : cls.length = A.ac.length) : ValidA (mrgA A cls) := by
  obtain ⟨h1, h2, h3, h4⟩ := hv
  have hf := fstC_in (cls := cls) h3.1 (by rw [hc]; exact h3.2)
  refine ⟨h1, by simp [mrgA, h2], ⟨hf.1, by rw [hc] at hf; exact hf.2⟩, fun r hr => ?_⟩
  obtain ⟨r0, hr0, rfl⟩ := List.mem_map.1 hr
  obtain ⟨k1, k2⟩ := h4 r0 hr0
  refine ⟨by simp [mrgRow, k1], fun x hx => ?_⟩
  obtain ⟨t, ht, rfl⟩ := List.mem_map.1 hx
  have := k2 t ht
  show -1 ≤ (if t = -1 then -1 else fstC cls t) ∧ (if t = -1 then -1 else fstC cls t) < (A.ac.length : Int)
  by_cases e : t = -1
  · rw [if_pos e]; omega
  · rw [if_neg e]
    have := fstC_in (cls := cls) (t := t) (by omega) (by omega)
    omega
/-- What merging asks of the classes. -/
structure ClsH (A : Aut) (f : Nat → Bool) (cls : List Int) : Prop where
  len : cls.length = A.ac.length
  live : ∀ s, s < A.ac.length → (clC cls (s : Int) < 0 ↔ f s = false)
  same : ∀ s t, s < A.ac.length → t < A.ac.length → f s = true → f t = true → clC cls (s : Int) = clC cls (t : Int) → ∀ k, k < 9 → sgC A.nx cls (s : Int) k = sgC A.nx cls (t : Int) k
  acc : ∀ s t, s < A.ac.length → t < A.ac.length → f s = true → f t = true → clC cls (s : Int) = clC cls (t : Int) → at0 A.ac s = at0 A.ac t
theorem clsA_H (A : Aut) (f : Nat → Bool) : ClsH A f (clsA A f) :=
  ⟨clsA_length A f, fun s hs => clsA_live A f s hs, fun s t hs ht hls hlt e k hk => clsA_same A f hs ht hls hlt e k hk, fun s t hs ht hls hlt e => clsA_acc A f hs ht hls hlt e⟩
section
variable {A : Aut} {f : Nat → Bool} {cls : List Int}
theorem ClsH.alike (H : ClsH A f cls) {s t : Nat} (hs : s < A.ac.length) (ht : t < A.ac.length) (e : clC cls (s : Int) = clC cls (t : Int)) : f s = f t := by
  have h1 := H.live s hs
  have h2 := H.live t ht
  rw [e] at h1
  cases h3 : f s <;> cases h4 : f t <;> simp [h3, h4] at h1 h2 ⊢ <;> omega
theorem ClsH.fst (H : ClsH A f cls) {t : Nat} (ht : t < A.ac.length) : ∃ u : Nat, fstC cls (t : Int) = (u : Int) ∧ u < A.ac.length ∧ clC cls (u : Int) = clC cls (t : Int) ∧ f u = f t := by
  have hl := H.len
  have h1 := fstC_in (cls := cls) (t := (t : Int)) (by omega) (by omega)
  have h2 := fstC_cls (cls := cls) (t := (t : Int)) (by omega) (by omega)
  refine ⟨(fstC cls (t : Int)).toNat, by omega, by omega, ?_, ?_⟩
  · rw [Int.toNat_of_nonneg h1.1]; exact h2
  · refine H.alike (by omega) ht ?_
    rw [Int.toNat_of_nonneg h1.1]; exact h2
/-- A live step of a state is one of every state of its class. -/
theorem ClsH.step (hv : ValidA A) (H : ClsH A f cls) {s s' t : Nat} (hs : s < A.ac.length) (hs' : s' < A.ac.length) (hf : f s = true) (hf' : f s' = true) (e : clC cls (s : Int) = clC cls (s' : Int)) {k : Nat} (hk : k < 9) (ht : nextA A.nx (s : Int) k = (t : Int)) (htn : t < A.ac.length) (hft : f t = true) :
    ∃ t' : Nat, nextA A.nx (s' : Int) k = (t' : Int) ∧ t' < A.ac.length ∧ clC cls (t' : Int) = clC cls (t : Int) ∧ f t' = true := by
  have h1 := H.same s s' hs hs' hf hf' e k hk
  have h2 : 0 ≤ clC cls (t : Int) := by
    have := H.live t htn
    rw [hft] at this
    simp at this; exact this
  unfold sgC at h1
  rw [ht, if_neg (by omega)] at h1
  by_cases e2 : nextA A.nx (s' : Int) k < 0
  · rw [if_pos e2] at h1; omega
  · rw [if_neg e2] at h1
    have h3 := next_lt hv (s := (s' : Int)) (by unfold InA; omega) hk
    have e3 : ((nextA A.nx (s' : Int) k).toNat : Int) = nextA A.nx (s' : Int) k := Int.toNat_of_nonneg (by omega)
    refine ⟨(nextA A.nx (s' : Int) k).toNat, e3.symm, by omega, by rw [e3]; exact h1.symm, ?_⟩
    rw [← hft]
    refine H.alike (by omega) htn ?_
    rw [e3]; exact h1.symm
/-- Merged, the same states are live. -/
theorem ClsH.liveM (hv : ValidA A) (hf : ∀ s, f s = true ↔ LiveP A s) (H : ClsH A f cls) (s : Nat) : f s = true ↔ LiveP (mrgA A cls) s := by
  have hfn : ∀ s, f s = true → s < A.ac.length := fun s hs => by
    have h1 := (hf s).1 hs
    have := h1 (List.replicate A.ac.length true) (by simp) (fun t ht => by
      have := at0_lt ht
      simp [at0, this]) (fun s k _ _ x y hR hx => by
      have := (liveR_lt s k x y hR).2
      simp [at0, this])
    have := at0_lt this
    simpa using this
  have hM : (mrgA A cls).ac = A.ac := rfl
  constructor
  · intro hs
    have hsn := hfn s hs
    have key : f s = true ∧ ∀ s', s' < A.ac.length → clC cls (s' : Int) = clC cls (s : Int) → LiveP (mrgA A cls) s' := by
      refine LeastP.ind (R := liveR A) (n := A.ac.length) (B0 := A.ac) (Q := fun s => f s = true ∧ ∀ s', s' < A.ac.length → clC cls (s' : Int) = clC cls (s : Int) → LiveP (mrgA A cls) s') (Nat.le_refl _) liveR_lt ?_ ?_ hsn ((hf s).1 hs)
      · intro t ht
        have hft : f t = true := (hf t).2 (LeastP.base ht)
        refine ⟨hft, fun t' ht' e => LeastP.base ?_⟩
        have hft' : f t' = true := by rw [H.alike ht' (at0_lt ht) e]; exact hft
        rw [hM, H.acc t' t ht' (at0_lt ht) hft' hft e]; exact ht
      · intro s0 k x y hs0 hk hR hx
        obtain ⟨h1, rfl⟩ := liveR_inv hR
        obtain ⟨h2, h3, h4⟩ := tgt_lt h1
        have hfs : f y = true := (hf y).2 (LeastP.step h2 hk (liveR_of h1) ((hf x).1 hx.1))
        refine ⟨hfs, fun s' hs' e => ?_⟩
        have hfs' : f s' = true := by rw [H.alike hs' h2 e]; exact hfs
        obtain ⟨t', ht1, ht2, ht3, ht4⟩ := H.step hv h2 hs' hfs hfs' e.symm hk h4 h3 hx.1
        obtain ⟨u, hu1, hu2, hu3, hu4⟩ := H.fst ht2
        have hlu : LiveP (mrgA A cls) u := hx.2 u hu2 (by rw [hu3, ht3])
        have hn : nextA (mrgA A cls).nx (s' : Int) k = (u : Int) := by
          rw [nextM hv cls (by unfold InA; omega) hk, ht1, if_neg (by omega), hu1]
        exact LeastP.step hs' hk (liveR_of (tgt_some (A := mrgA A cls) hs' hn hu2)) hlu
    exact key.2 s hsn rfl
  · intro hs
    have hsn : s < A.ac.length := by
      have := hs (List.replicate A.ac.length true) (by simp [hM]) (fun t ht => by
        rw [hM] at ht
        have := at0_lt ht
        simp [at0, this]) (fun s k _ _ x y hR hx => by
        have := (liveR_lt s k x y hR).2
        rw [hM] at this
        simp [at0, this])
      have := at0_lt this
      simpa using this
    refine LeastP.ind (R := liveR (mrgA A cls)) (n := A.ac.length) (B0 := A.ac) (Q := fun s => f s = true) (Nat.le_refl _) (@liveR_lt (mrgA A cls)) ?_ ?_ hsn hs
    · intro t ht
      exact (hf t).2 (LeastP.base ht)
    · intro s0 k x y hs0 hk hR hx
      obtain ⟨h1, rfl⟩ := liveR_inv hR
      obtain ⟨h2, h3, h4⟩ := tgt_lt h1
      rw [hM] at h2 h3
      have hya : InA A (y : Int) := by unfold InA; omega
      rw [nextM hv cls hya hk] at h4
      have hr := next_lt hv hya hk
      by_cases e : nextA A.nx (y : Int) k = -1
      · rw [if_pos e] at h4; omega
      · rw [if_neg e] at h4
        obtain ⟨t, ht⟩ : ∃ t : Nat, nextA A.nx (y : Int) k = t := ⟨(nextA A.nx (y : Int) k).toNat, by omega⟩
        have htn : t < A.ac.length := by omega
        obtain ⟨u, hu1, hu2, hu3, hu4⟩ := H.fst htn
        rw [ht, hu1] at h4
        obtain rfl : u = x := by omega
        exact (hf y).2 (LeastP.step h2 hk (liveR_of (tgt_some h2 ht htn)) ((hf t).1 (by rw [← hu4]; exact hx)))
end
/-! numbering through a map of states -/
theorem map_key_iff {h : Int → Int} {keyA keyM : Int → Int} {Q : Int → Prop} (hk : ∀ x y, Q x → Q y → (keyA x = keyA y ↔ keyM (h x) = keyM (h y))) {rs : List Int} (hr : ∀ x ∈ rs, Q x) {x : Int} (hx : Q x) : keyA x ∈ rs.map keyA ↔ keyM (h x) ∈ (rs.map h).map keyM := by
  simp only [List.mem_map, List.map_map, Function.comp]
  exact ⟨fun ⟨y, hy, e⟩ => ⟨y, hy, (hk y x (hr y hy) hx).1 e⟩, fun ⟨y, hy, e⟩ => ⟨y, hy, (hk y x (hr y hy) hx).2 e⟩⟩
section
variable {stepA stepM : Int → Nat → Option Int} {keyA keyM h : Int → Int} {Q : Int → Prop}
theorem addK_sim (hk : ∀ x y, Q x → Q y → (keyA x = keyA y ↔ keyM (h x) = keyM (h y))) {rs : List Int} (hr : ∀ x ∈ rs, Q x) {o : Option Int} (ho : ∀ x, o = some x → Q x) : addK keyM (rs.map h) (o.map h) = (addK keyA rs o).map h ∧ ∀ x ∈ addK keyA rs o, Q x := by
  cases o with
  | none => exact ⟨rfl, hr⟩
  | some x =>
    have hm := map_key_iff hk hr (ho x rfl)
    unfold addK
    simp only [Option.map_some]
    by_cases e : keyA x ∈ rs.map keyA
    · rw [if_pos e, if_pos (hm.1 e)]; exact ⟨rfl, hr⟩
    · rw [if_neg e, if_neg (fun k => e (hm.2 k))]
      refine ⟨by simp, fun y hy => ?_⟩
      rcases List.mem_append.1 hy with hy | hy
      · exact hr y hy
      · simp at hy; subst hy; exact ho _ rfl
theorem rowK_sim (hQ : ∀ s k x, k < 9 → Q s → stepA s k = some x → Q x) (hs : ∀ s k, k < 9 → Q s → stepM (h s) k = (stepA s k).map h) (hk : ∀ x y, Q x → Q y → (keyA x = keyA y ↔ keyM (h x) = keyM (h y))) {s : Int} (hq : Q s) : ∀ m, m ≤ 9 → ∀ rs, (∀ x ∈ rs, Q x) → rowK stepM keyM (h s) m (rs.map h) = (rowK stepA keyA s m rs).map h ∧ ∀ x ∈ rowK stepA keyA s m rs, Q x
  | 0, _, rs, hr => ⟨rfl, hr⟩
  | m + 1, hm, rs, hr => by
    obtain ⟨h1, h2⟩ := addK_sim hk hr (o := stepA s (8 - m)) (fun x hx => hQ s (8 - m) x (by omega) hq hx)
    unfold rowK
    rw [hs s (8 - m) (by omega) hq, h1]
    exact rowK_sim hQ hs hk hq m (by omega) _ h2
theorem runK_sim (hQ : ∀ s k x, k < 9 → Q s → stepA s k = some x → Q x) (hs : ∀ s k, k < 9 → Q s → stepM (h s) k = (stepA s k).map h) (hk : ∀ x y, Q x → Q y → (keyA x = keyA y ↔ keyM (h x) = keyM (h y))) : ∀ m p rs, (∀ x ∈ rs, Q x) → runK stepM keyM m p (rs.map h) = (runK stepA keyA m p rs).map h ∧ ∀ x ∈ runK stepA keyA m p rs, Q x
  | 0, p, rs, hr => ⟨rfl, hr⟩
  | m + 1, p, rs, hr => by
    unfold runK
    rw [List.getElem?_map]
    cases e : rs[p]? with
    | none => exact ⟨rfl, hr⟩
    | some s =>
      simp only [Option.map_some]
      obtain ⟨h1, h2⟩ := rowK_sim hQ hs hk (hr s (List.mem_of_getElem? e)) 9 (Nat.le_refl _) rs hr
      rw [h1]
      exact runK_sim hQ hs hk m (p + 1) _ h2
theorem posN_sim {α : Type} (g : α → Int) (g' : α → Int) (x : α) : ∀ (l : List α), (∀ y ∈ l, g y = g x ↔ g' y = g' x) → posN (l.map g) (g x) = posN (l.map g') (g' x)
  | [], _ => rfl
  | y :: l, hl => by
    have ih := posN_sim g g' x l (fun z hz => hl z (by simp [hz]))
    have h0 := hl y (by simp)
    simp only [List.map_cons]
    unfold posN
    by_cases e : g y = g x
    · rw [if_pos e, if_pos (h0.1 e)]
    · rw [if_neg e, if_neg (fun k => e (h0.2 k)), ih]
theorem autK_sim {accA accM : Int → Bool} (hQ : ∀ s k x, k < 9 → Q s → stepA s k = some x → Q x) (hs : ∀ s k, k < 9 → Q s → stepM (h s) k = (stepA s k).map h) (hk : ∀ x y, Q x → Q y → (keyA x = keyA y ↔ keyM (h x) = keyM (h y))) (ha : ∀ s, Q s → accM (h s) = accA s) {F : List Int} (hF : ∀ x ∈ F, Q x) :
    autK stepM keyM accM (F.map h) = autK stepA keyA accA F := by
  unfold autK
  rw [List.map_map, List.map_map]
  congr 1
  · exact List.map_congr_left fun s hs1 => ha s (hF s hs1)
  · refine List.map_congr_left fun s hs1 => ?_
    unfold rowOfK
    refine List.map_congr_left fun k hk9 => ?_
    have hk9 := List.mem_range.1 hk9
    show rowAtK stepM keyM (F.map h) (h s) k = rowAtK stepA keyA F s k
    unfold rowAtK
    rw [hs s k hk9 (hF s hs1)]
    cases e : stepA s k with
    | none => rfl
    | some x =>
      simp only [Option.map_some]
      rw [List.map_map]
      have hx := hQ s k x hk9 (hF s hs1) e
      exact congrArg Int.ofNat (posN_sim (fun y => keyA y) (fun y => keyM (h y)) x F (fun y hy => hk y x (hF y hy) hx)).symm
end
theorem InF_step {A : Aut} (hv : ValidA A) {f : Nat → Bool} (s : Int) (k : Nat) (x : Int) (hk : k < 9) (hs : InF A f s) (h : stepF A f s k = some x) : InF A f x := by
  obtain ⟨h1, h2, h3⟩ := stepF_some h
  have := next_lt hv hs.1 hk
  exact ⟨⟨h1, by omega⟩, h3⟩
/-- The merged automaton, numbered by states, is the automaton numbered by classes. -/
theorem nmA_mrg {A : Aut} {f : Nat → Bool} {cls : List Int} (hv : ValidA A) (H : ClsH A f cls) (hst : f A.st.toNat = true) : nmA (mrgA A cls) f (idL A.ac.length) = nmA A f cls ∧ nmF (mrgA A cls) f (idL A.ac.length) = (nmF A f cls).map (fstC cls) := by
  have hM : (mrgA A cls).ac = A.ac := rfl
  have hQ : ∀ s k x, k < 9 → InF A f s → stepF A f s k = some x → InF A f x := fun s k x hk hs hx => InF_step hv s k x hk hs hx
  have hin : ∀ s, InF A f s → ∃ t : Nat, s = t ∧ t < A.ac.length ∧ f t = true := fun s hs => by
    obtain ⟨h1, h2⟩ := hs
    unfold InA at h1
    exact ⟨s.toNat, by omega, by omega, h2⟩
  have hlen := H.len
  have hs : ∀ s k, k < 9 → InF A f s → stepF (mrgA A cls) f (fstC cls s) k = (stepF A f s k).map (fstC cls) := fun s k hk hq => by
    obtain ⟨s, rfl, hsn, hfs⟩ := hin s hq
    obtain ⟨u, hu1, hu2, hu3, hu4⟩ := H.fst hsn
    rw [hu1]
    have hfu : f u = true := by rw [hu4]; exact hfs
    have hua : InA A (u : Int) := by unfold InA; omega
    have hsa : InA A (s : Int) := by unfold InA; omega
    have hnx := nextM hv cls hua hk
    have hru := next_lt hv hua hk
    have hrs := next_lt hv hsa hk
    -- a live step of one of the two is a live step of the other
    cases e : stepF A f (s : Int) k with
    | some x =>
      obtain ⟨hx1, hx2, hx3⟩ := stepF_some e
      obtain ⟨t, rfl⟩ : ∃ t : Nat, x = t := ⟨x.toNat, by omega⟩
      rw [Int.toNat_natCast] at hx3
      have htn : t < A.ac.length := by omega
      obtain ⟨t', h1, h2, h3, h4⟩ := H.step hv hsn hu2 hfs hfu hu3.symm hk hx2 htn hx3
      rw [h1, if_neg (by omega)] at hnx
      have e2 : fstC cls (t' : Int) = fstC cls (t : Int) := (fstC_eq (by omega) (by omega) (by omega) (by omega)).2 h3
      obtain ⟨v, hv1, hv2, hv3, hv4⟩ := H.fst htn
      rw [e2, hv1] at hnx
      rw [stepF_is hnx (by rw [hv4]; exact hx3), Option.map_some, hv1]
    | none =>
      rw [Option.map_none]
      cases e2 : stepF (mrgA A cls) f (u : Int) k with
      | none => rfl
      | some x =>
        exfalso
        obtain ⟨hx1, hx2, hx3⟩ := stepF_some e2
        rw [hnx] at hx2
        by_cases e3 : nextA A.nx (u : Int) k = -1
        · rw [if_pos e3] at hx2; omega
        · rw [if_neg e3] at hx2
          obtain ⟨t, ht⟩ : ∃ t : Nat, nextA A.nx (u : Int) k = t := ⟨(nextA A.nx (u : Int) k).toNat, by omega⟩
          have htn : t < A.ac.length := by omega
          obtain ⟨v, hv1, hv2, hv3, hv4⟩ := H.fst htn
          rw [ht, hv1] at hx2
          subst hx2
          rw [Int.toNat_natCast, hv4] at hx3
          obtain ⟨t', h1, h2, h3, h4⟩ := H.step hv hu2 hsn hfu hfs hu3 hk ht htn hx3
          rw [stepF_is h1 h4] at e; cases e
  have hk : ∀ x y, InF A f x → InF A f y → (clsK cls x = clsK cls y ↔ clsK (idL A.ac.length) (fstC cls x) = clsK (idL A.ac.length) (fstC cls y)) := fun x y hx hy => by
    obtain ⟨x, rfl, hxn, hfx⟩ := hin x hx
    obtain ⟨y, rfl, hyn, hfy⟩ := hin y hy
    have i1 := fstC_in (cls := cls) (t := (x : Int)) (by omega) (by omega)
    have i2 := fstC_in (cls := cls) (t := (y : Int)) (by omega) (by omega)
    rw [clsK_id (A := A) _ (by unfold InA; omega), clsK_id (A := A) _ (by unfold InA; omega)]
    exact (fstC_eq (by omega) (by omega) (by omega) (by omega)).symm
  have ha : ∀ s, InF A f s → accZ1 (mrgA A cls) (fstC cls s) = accZ1 A s := fun s hs => by
    obtain ⟨s, rfl, hsn, hfs⟩ := hin s hs
    obtain ⟨u, hu1, hu2, hu3, hu4⟩ := H.fst hsn
    unfold accZ1
    rw [hu1, Int.toNat_natCast, Int.toNat_natCast, hM]
    exact H.acc u s hu2 hsn (by rw [hu4]; exact hfs) hfs hu3
  have h0 : InF A f A.st := ⟨inA_st hv, hst⟩
  obtain ⟨r1, r2⟩ := runK_sim (keyA := clsK cls) (keyM := clsK (idL A.ac.length)) hQ hs hk 1001 0 [A.st] (fun x hx => by simp at hx; subst hx; exact h0)
  have e1 : nmF (mrgA A cls) f (idL A.ac.length) = (nmF A f cls).map (fstC cls) := r1
  refine ⟨?_, e1⟩
  unfold nmA
  rw [e1]
  exact autK_sim hQ hs hk ha r2
theorem nmR_mrg {A : Aut} {f : Nat → Bool} {cls : List Int} (hv : ValidA A) (H : ClsH A f cls) : nmR (mrgA A cls) f (idL A.ac.length) = nmR A f cls := by
  have h1 := hv.2.2.1
  obtain ⟨u, hu1, hu2, hu3, hu4⟩ := H.fst (t := A.st.toNat) (by omega)
  have e : (mrgA A cls).st.toNat = u := by
    show (fstC cls A.st).toNat = u
    rw [show A.st = (A.st.toNat : Int) from by omega, hu1]; rfl
  unfold nmR
  rw [e, hu4]
  cases hs : f A.st.toNat with
  | false => rfl
  | true => simp only [if_true]; exact (nmA_mrg hv H hs).1
end Go.Proofs.Ytmaagihfjldgeaa
