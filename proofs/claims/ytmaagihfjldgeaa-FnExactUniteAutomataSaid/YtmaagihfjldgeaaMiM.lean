/- Two states are in one class just where no word tells them apart; a word that the search gives tells them apart. Plain data. -/
import Derived.Test.YtmaagihfjldgeaaLwT
import Derived.Test.YtmaagihfjldgeaaA1
namespace Go.Proofs.Ytmaagihfjldgeaa
set_option maxRecDepth 100000
set_option linter.unusedVariables false
set_option linter.unusedSimpArgs false
set_option linter.unusedSectionVars false

section
variable {α : Type} [DecidableEq α] {step : α → Nat → Option α} {acc : α → Bool}
theorem lwRow_inv {I : α → List Int → Prop} (hI : ∀ x ws (k : Nat) z, k < 9 → I x ws → step x k = some z → I z (ws ++ [(k : Int)])) {x : α} {ws : List Int} (hx : I x ws) : ∀ (m : Nat), m ≤ 9 → ∀ (L : List (α × List Int)), (∀ y ∈ L, I y.1 y.2) → ∀ y ∈ lwRow step x ws m L, I y.1 y.2 := by
  intro m
  induction m with
  | zero => intro _ L h; exact h
  | succ m ih =>
    intro hm L h
    unfold lwRow
    cases e : step x (8 - m) with
    | none => exact ih (by omega) L h
    | some z =>
      simp only [lwAdd]
      split
      · exact ih (by omega) L h
      · refine ih (by omega) _ (fun y hy => ?_)
        rcases List.mem_append.1 hy with hy | hy
        · exact h y hy
        · simp at hy; subst hy
          exact hI x ws (8 - m) z (by omega) hx e
theorem lwRun_sound {I : α → List Int → Prop} (hI : ∀ x ws (k : Nat) z, k < 9 → I x ws → step x k = some z → I z (ws ++ [(k : Int)])) : ∀ (m p : Nat) (L : List (α × List Int)) (ws : List Int), (∀ y ∈ L, I y.1 y.2) → lwRun step acc m p L = some (some ws) → ∃ x, I x ws ∧ acc x = true := by
  intro m
  induction m with
  | zero => intro p L ws h e; cases e
  | succ m ih =>
    intro p L ws h e
    by_cases hlt : p < L.length
    · obtain ⟨⟨x, us⟩, hy⟩ : ∃ y, y = L[p] := ⟨_, rfl⟩
      have hp2 : L[p]? = some (x, us) := by rw [List.getElem?_eq_getElem hlt, hy]
      have hx : I x us := h _ (List.mem_of_getElem? hp2)
      cases ha : acc x with
      | true =>
        rw [lwRun_acc hp2 ha] at e
        injection e with e
        injection e with e
        subst e
        exact ⟨x, hx, ha⟩
      | false =>
        rw [lwRun_go hp2 ha] at e
        exact ih (p + 1) _ ws (lwRow_inv hI hx 9 (Nat.le_refl _) L h) e
    · rw [lwRun_end (by omega)] at e
      injection e with e
      cases e
theorem lwRow_all (x : α) (ws : List Int) : ∀ (m : Nat), m ≤ 9 → ∀ (L : List (α × List Int)), (∀ z ∈ L.map (·.1), z ∈ (lwRow step x ws m L).map (·.1)) ∧ ∀ k z, 9 - m ≤ k → k < 9 → step x k = some z → z ∈ (lwRow step x ws m L).map (·.1) := by
  intro m
  induction m with
  | zero => intro _ L; exact ⟨fun z h => h, fun k z h1 h2 => by omega⟩
  | succ m ih =>
    intro hm L
    have key : (∀ z ∈ L.map (·.1), z ∈ (lwAdd L (step x (8 - m)) (ws ++ [((8 - m : Nat) : Int)])).map (·.1)) ∧ ∀ z, step x (8 - m) = some z → z ∈ (lwAdd L (step x (8 - m)) (ws ++ [((8 - m : Nat) : Int)])).map (·.1) := by
      cases e : step x (8 - m) with
      | none => exact ⟨fun z h => h, fun z h => by cases h⟩
      | some y =>
        simp only [lwAdd]
        split
        · rename_i hy
          exact ⟨fun z h => h, fun z h => by injection h with h; subst h; exact hy⟩
        · exact ⟨fun z h => by rw [List.map_append]; exact List.mem_append_left _ h, fun z h => by injection h with h; subst h; simp⟩
    obtain ⟨k1, k2⟩ := key
    obtain ⟨h1, h2⟩ := ih (by omega) (lwAdd L (step x (8 - m)) (ws ++ [((8 - m : Nat) : Int)]))
    unfold lwRow
    refine ⟨fun z hz => h1 z (k1 z hz), fun k z ha hb hz => ?_⟩
    by_cases e : k = 8 - m
    · subst e; exact h1 z (k2 z hz)
    · exact h2 k z (by omega) hb hz
theorem lwRun_none : ∀ (m p : Nat) (L : List (α × List Int)), (∀ i, i < p → ∀ y, L[i]? = some y → acc y.1 = false ∧ ∀ k z, k < 9 → step y.1 k = some z → z ∈ L.map (·.1)) → p ≤ L.length → lwRun step acc m p L = some none →
    ∃ S : List α, (∀ x ∈ L.map (·.1), x ∈ S) ∧ ∀ x ∈ S, acc x = false ∧ ∀ k z, k < 9 → step x k = some z → z ∈ S := by
  intro m
  induction m with
  | zero => intro p L h hp e; cases e
  | succ m ih =>
    intro p L h hp e
    by_cases hlt : p < L.length
    · obtain ⟨⟨x, us⟩, hy⟩ : ∃ y, y = L[p] := ⟨_, rfl⟩
      have hp2 : L[p]? = some (x, us) := by rw [List.getElem?_eq_getElem hlt, hy]
      cases ha : acc x with
      | true =>
        rw [lwRun_acc hp2 ha] at e
        injection e with e
        cases e
      | false =>
        rw [lwRun_go hp2 ha] at e
        obtain ⟨k1, k2⟩ := lwRow_all (step := step) x us 9 (Nat.le_refl _) L
        obtain ⟨t, ht⟩ := lwRow_grows step x us 9 L
        obtain ⟨S, s1, s2⟩ := ih (p + 1) _ (fun i hi y hyi => by
          by_cases e2 : i = p
          · subst e2
            rw [ht, List.getElem?_append_left hlt, hp2] at hyi
            injection hyi with hyi
            subst hyi
            exact ⟨ha, fun k z hk hz => k2 k z (by omega) hk hz⟩
          · rw [ht, List.getElem?_append_left (by omega)] at hyi
            obtain ⟨h1, h2⟩ := h i (by omega) y hyi
            exact ⟨h1, fun k z hk hz => k1 z (h2 k z hk hz)⟩) (by rw [ht, List.length_append]; omega) e
        exact ⟨S, fun z hz => s1 z (k1 z hz), s2⟩
    · refine ⟨L.map (·.1), fun x hx => hx, fun x hx => ?_⟩
      obtain ⟨y, hy, rfl⟩ := List.mem_map.1 hx
      obtain ⟨i, hi, rfl⟩ := List.getElem_of_mem hy
      exact h i (by omega) _ (List.getElem?_eq_getElem hi)
end
/-- A word of letters. -/
def LetW (w : List Int) : Prop := ∀ k ∈ w, 0 ≤ k ∧ k < 9
/-- Where a word leads to from a state, or from none. -/
def goA (A : Aut) (s : Int) : List Int → Int
  | [] => s
  | k :: ks => goA A (stpQ A s k.toNat) ks
theorem goA_snoc (A : Aut) (k : Int) : ∀ (w : List Int) (s : Int), goA A s (w ++ [k]) = stpQ A (goA A s w) k.toNat
  | [], s => rfl
  | j :: w, s => by
    show goA A (stpQ A s j.toNat) (w ++ [k]) = _
    rw [goA_snoc A k w]; rfl
theorem goA_none (A : Aut) : ∀ (w : List Int), goA A (-1) w = -1
  | [] => rfl
  | k :: w => goA_none A w
theorem runL_go {A : Aut} (hv : ValidA A) : ∀ (w : List Int) (s : Int), InQ A s → LetW w → runL A.nx s w = goA A s w
  | [], s, _, _ => rfl
  | k :: w, s, hs, hw => by
    have hk := hw k (by simp)
    by_cases e : s = -1
    · subst e
      rw [runL_neg, goA_none]
    · have hkn : ((k.toNat : Nat) : Int) = k := by omega
      have e1 : stpQ A s k.toNat = nextA A.nx s k := by unfold stpQ; rw [if_neg e, hkn]
      have hi : InQ A (nextA A.nx s k) := by rw [← e1]; exact stpQ_in hv hs (by omega)
      show (if s < 0 then -1 else if inB k 0 8 = false then -1 else runL A.nx (nextA A.nx s k) w) = goA A (stpQ A s k.toNat) w
      rw [if_neg (by have := hs.1; omega), if_neg (by rw [inB_true (by omega) (by omega)]; decide), e1]
      exact runL_go hv w _ hi (fun j hj => hw j (by simp [hj]))
theorem goA_in {A : Aut} (hv : ValidA A) : ∀ (w : List Int) (s : Int), InQ A s → LetW w → InQ A (goA A s w)
  | [], s, hs, _ => hs
  | k :: w, s, hs, hw => goA_in hv w _ (stpQ_in hv hs (by have := hw k (by simp); omega)) (fun j hj => hw j (by simp [hj]))
/-- Whether a word is accepted from a state. -/
def acS (A : Aut) (s : Int) (w : List Int) : Bool := accI A (goA A s w)
/-- A word that the search gives tells the states apart. -/
theorem dwR_tells {A : Aut} (hv : ValidA A) {s t : Int} (hs : InQ A s) (ht : InQ A t) {w : List Int} (h : dwR A s t = some w) : LetW w ∧ acS A s w ≠ acS A t w := by
  have h1 := dwR_spec hv hs ht
  rw [h, accP_Q] at h1
  obtain ⟨x, ⟨hx, hl⟩, ha⟩ := lwRun_sound (I := fun x ws => x = [goA A s ws, goA A t ws] ∧ LetW ws) (fun x ws k z hk hx hz => by
    obtain ⟨rfl, hl⟩ := hx
    unfold prS at hz
    injection hz with hz
    subst hz
    refine ⟨?_, fun j hj => ?_⟩
    · rw [goA_snoc, goA_snoc]; simp
    · rcases List.mem_append.1 hj with hj | hj
      · exact hl j hj
      · simp at hj; subst hj; omega) _ _ _ _ (fun y hy => by
    simp at hy; subst hy
    exact ⟨rfl, fun k hk => by cases hk⟩) h1
  subst hx
  refine ⟨hl, fun e => ?_⟩
  unfold acS at e
  unfold accQ at ha
  simp at ha
  exact ha e
/-- If it gives none, no word tells them apart. -/
theorem dwR_none {A : Aut} (hv : ValidA A) {s t : Int} (hs : InQ A s) (ht : InQ A t) (h : dwR A s t = none) (w : List Int) (hw : LetW w) : acS A s w = acS A t w := by
  have h1 := dwR_spec hv hs ht
  rw [h, accP_Q] at h1
  obtain ⟨S, s1, s2⟩ := lwRun_none _ _ _ (fun i hi => by omega) (by simp) h1
  have key : ∀ (w : List Int) (a b : Int), LetW w → [a, b] ∈ S → [goA A a w, goA A b w] ∈ S := by
    intro w
    induction w with
    | nil => intro a b _ h; exact h
    | cons k w ih =>
      intro a b hw h
      have hk := hw k (by simp)
      refine ih _ _ (fun j hj => hw j (by simp [hj])) ?_
      exact (s2 _ h).2 k.toNat _ (by omega) (by unfold prS; simp)
  have := (s2 _ (key w s t hw (s1 _ (by simp)))).1
  unfold accQ at this
  unfold acS
  simpa using this
/-! classes -/
theorem live_word {A : Aut} (hv : ValidA A) {s : Nat} (hs : s < A.ac.length) (h : LiveP A s) : ∃ w, LetW w ∧ acS A (s : Int) w = true := by
  refine LeastP.ind (R := liveR A) (n := A.ac.length) (B0 := A.ac) (Q := fun s => ∃ w, LetW w ∧ acS A (s : Int) w = true) (Nat.le_refl _) (fun s k x y hR => liveR_lt s k x y hR) ?_ ?_ hs h
  · intro t ht
    refine ⟨[], fun k hk => (by cases hk), ?_⟩
    show accI A (t : Int) = true
    unfold accI
    rw [if_neg (by omega), Int.toNat_natCast]; exact ht
  · intro t k x y ht hk hR hx
    obtain ⟨w, hw, ha⟩ := hx
    obtain ⟨h1, rfl⟩ := liveR_inv hR
    obtain ⟨_, h3, h4⟩ := tgt_lt h1
    refine ⟨(k : Int) :: w, fun j hj => ?_, ?_⟩
    · rcases List.mem_cons.1 hj with hj | hj
      · subst hj; omega
      · exact hw j hj
    · show accI A (goA A (stpQ A (y : Int) ((k : Int)).toNat) w) = true
      have : stpQ A (y : Int) ((k : Int)).toNat = (x : Int) := by
        unfold stpQ
        rw [if_neg (by omega), Int.toNat_natCast]; exact h4
      rw [this]; exact ha
theorem word_live {A : Aut} (hv : ValidA A) : ∀ (w : List Int) (s : Nat), s < A.ac.length → LetW w → acS A (s : Int) w = true → LiveP A s
  | [], s, hs, _, h => by
    refine LeastP.base ?_
    unfold acS accI goA at h
    rw [if_neg (by omega), Int.toNat_natCast] at h
    exact h
  | k :: w, s, hs, hw, h => by
    have hk := hw k (by simp)
    have hq := stpQ_in hv (s := (s : Int)) ⟨by omega, by omega⟩ (k := k.toNat) (by omega)
    by_cases e : stpQ A (s : Int) k.toNat = -1
    · unfold acS goA at h
      rw [e, goA_none] at h
      cases h
    · obtain ⟨t, ht⟩ : ∃ t : Nat, stpQ A (s : Int) k.toNat = t := ⟨(stpQ A (s : Int) k.toNat).toNat, by have := hq.1; omega⟩
      have htl : t < A.ac.length := by have := hq.2; omega
      have ih := word_live hv w t htl (fun j hj => hw j (by simp [hj])) (by
        unfold acS goA at h
        rw [ht] at h
        exact h)
      have h4 : nextA A.nx (s : Int) (k.toNat : Int) = (t : Int) := by
        unfold stpQ at ht
        rw [if_neg (by omega)] at ht
        exact ht
      exact LeastP.step hs (by omega) (liveR_of (tgt_some hs h4 htl)) ih
section
variable {A : Aut} {lv : Nat → Bool}
/-- The class of a state, or of none. -/
def clX (cls : List Int) (s : Int) : Int := if s = -1 then -1 else clC cls s
theorem itR_neg (A : Aut) (lv : Nat → Bool) (i s : Nat) (hs : s < A.ac.length) : (lv s = false → clC (itR A lv i) (s : Int) = -1) ∧ (lv s = true → 0 ≤ clC (itR A lv i) (s : Int)) := by
  cases i with
  | zero =>
    rw [show itR A lv 0 = iniC A lv from rfl, iniC_at A lv s hs]
    refine ⟨fun h => by rw [h]; rfl, fun h => by rw [h]; simp; split <;> omega⟩
  | succ i =>
    rw [show itR A lv (i + 1) = refC A lv (itR A lv i) from rfl, refC_at A lv _ s hs]
    refine ⟨fun h => by unfold cutN; rw [if_neg (by rw [h]; decide)], fun h => ?_⟩
    refine Decidable.byContradiction fun k => ?_
    have := cutN_neg (lv := lv) (f := sigC A.nx (itR A lv i)) (s := s) |>.1 (by omega)
    rw [h] at this
    cases this
theorem sgC_X (hv : ValidA A) (cls : List Int) {s : Nat} (hs : s < A.ac.length) {k : Nat} (hk : k < 9) : sgC A.nx cls (s : Int) k = clX cls (stpQ A (s : Int) k) := by
  have hq := stpQ_in hv (s := (s : Int)) ⟨by omega, by omega⟩ hk
  have e : stpQ A (s : Int) k = nextA A.nx (s : Int) (k : Int) := by unfold stpQ; rw [if_neg (by omega)]
  rw [e] at hq ⊢
  unfold sgC clX
  by_cases h : nextA A.nx (s : Int) (k : Int) < 0
  · rw [if_pos h, if_pos (by have := hq.1; omega)]
  · rw [if_neg h, if_neg (by omega)]
/-- States of different classes are told apart by some word. -/
theorem cls_differ (hv : ValidA A) (hlv : ∀ s, lv s = true ↔ LiveP A s) : ∀ (i : Nat) (s t : Int), InQ A s → InQ A t → clX (itR A lv i) s ≠ clX (itR A lv i) t → ∃ w, LetW w ∧ acS A s w ≠ acS A t w := by
  have dead : ∀ (s : Int), InQ A s → (∀ m : Nat, s = (m : Int) → lv m = false) → ∀ w, LetW w → acS A s w = false := by
    intro s hs h w hw
    by_cases e : s = -1
    · subst e; unfold acS; rw [goA_none]; rfl
    · obtain ⟨m, rfl⟩ : ∃ m : Nat, s = m := ⟨s.toNat, by have := hs.1; omega⟩
      cases ha : acS A (m : Int) w with
      | false => rfl
      | true =>
        have h1 := (hlv m).2 (word_live hv w m (by have := hs.2; omega) hw ha)
        rw [h m rfl] at h1
        cases h1
  have alive : ∀ (m : Nat), m < A.ac.length → lv m = true → ∃ w, LetW w ∧ acS A (m : Int) w = true := fun m hm h => live_word hv hm ((hlv m).1 h)
  have parts : ∀ (s : Int), InQ A s → (∀ m : Nat, s = (m : Int) → lv m = false) ∨ ∃ m : Nat, s = (m : Int) ∧ m < A.ac.length ∧ lv m = true := by
    intro s hs
    by_cases e : s = -1
    · exact .inl fun m hm => by omega
    · obtain ⟨m, rfl⟩ : ∃ m : Nat, s = m := ⟨s.toNat, by have := hs.1; omega⟩
      cases h : lv m with
      | true => exact .inr ⟨m, rfl, by have := hs.2; omega, h⟩
      | false => exact .inl fun j hj => by rw [show j = m from by omega]; exact h
  have minus : ∀ i (s : Int), InQ A s → (∀ m : Nat, s = (m : Int) → lv m = false) → clX (itR A lv i) s = -1 := by
    intro i s hs h
    unfold clX
    by_cases e : s = -1
    · rw [if_pos e]
    · obtain ⟨m, rfl⟩ : ∃ m : Nat, s = m := ⟨s.toNat, by have := hs.1; omega⟩
      rw [if_neg e]
      exact (itR_neg A lv i m (by have := hs.2; omega)).1 (h m rfl)
  intro i
  induction i with
  | zero =>
    intro s t hs ht hne
    rcases parts s hs with h1 | ⟨a, rfl, ha, h1⟩ <;> rcases parts t ht with h2 | ⟨b, rfl, hb, h2⟩
    · exact absurd ((minus 0 s hs h1).trans (minus 0 t ht h2).symm) hne
    · obtain ⟨w, hw, h3⟩ := alive b hb h2
      exact ⟨w, hw, by rw [dead s hs h1 w hw, h3]; decide⟩
    · obtain ⟨w, hw, h3⟩ := alive a ha h1
      exact ⟨w, hw, by rw [dead t ht h2 w hw, h3]; decide⟩
    · refine ⟨[], fun k hk => (by cases hk), fun e => hne ?_⟩
      unfold acS accI goA at e
      rw [if_neg (by omega), if_neg (by omega), Int.toNat_natCast, Int.toNat_natCast] at e
      unfold clX
      rw [if_neg (by omega), if_neg (by omega), show itR A lv 0 = iniC A lv from rfl, iniC_at A lv a ha, iniC_at A lv b hb, h1, h2, e]
  | succ i ih =>
    intro s t hs ht hne
    rcases parts s hs with h1 | ⟨a, rfl, ha, h1⟩ <;> rcases parts t ht with h2 | ⟨b, rfl, hb, h2⟩
    · exact absurd ((minus (i + 1) s hs h1).trans (minus (i + 1) t ht h2).symm) hne
    · obtain ⟨w, hw, h3⟩ := alive b hb h2
      exact ⟨w, hw, by rw [dead s hs h1 w hw, h3]; decide⟩
    · obtain ⟨w, hw, h3⟩ := alive a ha h1
      exact ⟨w, hw, by rw [dead t ht h2 w hw, h3]; decide⟩
    · have hsig : sigC A.nx (itR A lv i) a ≠ sigC A.nx (itR A lv i) b := by
        intro e
        apply hne
        unfold clX
        rw [if_neg (by omega), if_neg (by omega), show itR A lv (i + 1) = refC A lv (itR A lv i) from rfl, refC_at _ _ _ _ ha, refC_at _ _ _ _ hb]
        exact (cutN_eq h1 h2 ha hb).2 e
      by_cases hc : clC (itR A lv i) (a : Int) = clC (itR A lv i) (b : Int)
      · have hk : ∃ k, k < 9 ∧ sgC A.nx (itR A lv i) (a : Int) k ≠ sgC A.nx (itR A lv i) (b : Int) k := by
          refine Decidable.byContradiction fun hno => hsig ?_
          unfold sigC
          rw [hc]
          congr 1
          refine List.map_congr_left fun k hk => ?_
          refine Decidable.byContradiction fun e => hno ⟨k, List.mem_range.1 hk, e⟩
        obtain ⟨k, hk, hkn⟩ := hk
        rw [sgC_X hv _ ha hk, sgC_X hv _ hb hk] at hkn
        obtain ⟨w, hw, h3⟩ := ih _ _ (stpQ_in hv hs hk) (stpQ_in hv ht hk) hkn
        refine ⟨(k : Int) :: w, fun j hj => ?_, ?_⟩
        · rcases List.mem_cons.1 hj with hj | hj
          · subst hj; omega
          · exact hw j hj
        · unfold acS at h3 ⊢
          show accI A (goA A (stpQ A (a : Int) ((k : Int)).toNat) w) ≠ accI A (goA A (stpQ A (b : Int) ((k : Int)).toNat) w)
          rw [Int.toNat_natCast]; exact h3
      · refine ih _ _ hs ht ?_
        unfold clX
        rw [if_neg (by omega), if_neg (by omega)]
        exact hc
/-- States of one class are told apart by no word. -/
theorem cls_alike (hv : ValidA A) (hlv : ∀ s, lv s = true ↔ LiveP A s) : ∀ (w : List Int) (s t : Int), InQ A s → InQ A t → LetW w → clX (clsA A lv) s = clX (clsA A lv) t → acS A s w = acS A t w := by
  have hi : ∃ i, clsA A lv = itR A lv i := by obtain ⟨i, _, h, _⟩ := clsA_ex A lv; exact ⟨i, h⟩
  obtain ⟨i, hi⟩ := hi
  have hdead : ∀ (s : Int), InQ A s → clX (clsA A lv) s < 0 → ∀ w, LetW w → acS A s w = false := by
    intro s hs h w hw
    by_cases e : s = -1
    · subst e; unfold acS; rw [goA_none]; rfl
    · obtain ⟨m, rfl⟩ : ∃ m : Nat, s = m := ⟨s.toNat, by have := hs.1; omega⟩
      have hm : m < A.ac.length := by have := hs.2; omega
      unfold clX at h
      rw [if_neg e] at h
      have hl := (clsA_live A lv m hm).1 h
      cases ha : acS A (m : Int) w with
      | false => rfl
      | true =>
        have h1 := (hlv m).2 (word_live hv w m hm hw ha)
        rw [hl] at h1
        cases h1
  intro w
  induction w with
  | nil =>
    intro s t hs ht hw e
    by_cases h : clX (clsA A lv) s < 0
    · rw [hdead s hs h [] hw, hdead t ht (by omega) [] hw]
    · have e1 : s ≠ -1 := fun k => h (by unfold clX; rw [if_pos k]; decide)
      have e2 : t ≠ -1 := fun k => h (by rw [e]; unfold clX; rw [if_pos k]; decide)
      obtain ⟨a, rfl⟩ : ∃ m : Nat, s = m := ⟨s.toNat, by have := hs.1; omega⟩
      obtain ⟨b, rfl⟩ : ∃ m : Nat, t = m := ⟨t.toNat, by have := ht.1; omega⟩
      have ha : a < A.ac.length := by have := hs.2; omega
      have hb : b < A.ac.length := by have := ht.2; omega
      have h' := h
      rw [e] at h'
      unfold clX at e h h'
      rw [if_neg e1] at e h
      rw [if_neg e2] at e h'
      have hla : lv a = true := by
        cases k : lv a with
        | true => rfl
        | false => exact absurd ((clsA_live A lv a ha).2 k) h
      have hlb : lv b = true := by
        cases k : lv b with
        | true => rfl
        | false => exact absurd ((clsA_live A lv b hb).2 k) h'
      have := clsA_acc A lv ha hb hla hlb e
      unfold acS accI goA
      rw [if_neg e1, if_neg e2, Int.toNat_natCast, Int.toNat_natCast]; exact this
  | cons k w ih =>
    intro s t hs ht hw e
    have hk := hw k (by simp)
    have hw2 : LetW w := fun j hj => hw j (by simp [hj])
    by_cases h : clX (clsA A lv) s < 0
    · rw [hdead s hs h _ hw, hdead t ht (by omega) _ hw]
    · have e1 : s ≠ -1 := fun k => h (by unfold clX; rw [if_pos k]; decide)
      have e2 : t ≠ -1 := fun k => h (by rw [e]; unfold clX; rw [if_pos k]; decide)
      obtain ⟨a, rfl⟩ : ∃ m : Nat, s = m := ⟨s.toNat, by have := hs.1; omega⟩
      obtain ⟨b, rfl⟩ : ∃ m : Nat, t = m := ⟨t.toNat, by have := ht.1; omega⟩
      have ha : a < A.ac.length := by have := hs.2; omega
      have hb : b < A.ac.length := by have := ht.2; omega
      have h' := h
      rw [e] at h'
      unfold clX at e h h'
      rw [if_neg e1] at e h
      rw [if_neg e2] at e h'
      have hla : lv a = true := by
        cases k : lv a with
        | true => rfl
        | false => exact absurd ((clsA_live A lv a ha).2 k) h
      have hlb : lv b = true := by
        cases k : lv b with
        | true => rfl
        | false => exact absurd ((clsA_live A lv b hb).2 k) h'
      have h3 := clsA_same A lv ha hb hla hlb e k.toNat (by omega)
      rw [sgC_X hv _ ha (by omega), sgC_X hv _ hb (by omega)] at h3
      exact ih _ _ (stpQ_in hv hs (by omega)) (stpQ_in hv ht (by omega)) hw2 h3
/-- A word tells two states apart just where their classes differ. -/
theorem dwR_cls (hv : ValidA A) (hlv : ∀ s, lv s = true ↔ LiveP A s) {s t : Int} (hs : InA A s) (ht : InA A t) : (dwR A s t).isSome = (clC (clsA A lv) s != clC (clsA A lv) t) := by
  have qs : InQ A s := ⟨by have := hs.1; omega, hs.2⟩
  have qt : InQ A t := ⟨by have := ht.1; omega, ht.2⟩
  have es : clX (clsA A lv) s = clC (clsA A lv) s := by unfold clX; rw [if_neg (by have := hs.1; omega)]
  have et : clX (clsA A lv) t = clC (clsA A lv) t := by unfold clX; rw [if_neg (by have := ht.1; omega)]
  obtain ⟨i, _, hi, _⟩ := clsA_ex A lv
  by_cases e : clC (clsA A lv) s = clC (clsA A lv) t
  · rw [e]
    simp only [bne_self_eq_false]
    cases h : dwR A s t with
    | none => rfl
    | some w =>
      obtain ⟨h1, h2⟩ := dwR_tells hv qs qt h
      exact absurd (cls_alike hv hlv w s t qs qt h1 (by rw [es, et, e])) h2
  · have hb : (clC (clsA A lv) s != clC (clsA A lv) t) = true := by simpa using e
    rw [hb]
    cases h : dwR A s t with
    | some w => rfl
    | none =>
      obtain ⟨w, hw, h2⟩ := cls_differ hv hlv i s t qs qt (by rw [← hi, es, et]; exact e)
      exact absurd (dwR_none hv qs qt h w hw) h2
end
end Go.Proofs.Ytmaagihfjldgeaa
