/- The least word of a machine: states found breadth first, each with the word that leads to it. Plain data. -/
import Derived.Test.YtmaagihfjldgeaaA1
namespace Go.Proofs.Ytmaagihfjldgeaa
set_option maxRecDepth 100000
set_option linter.unusedVariables false
set_option linter.unusedSimpArgs false
set_option linter.unusedSectionVars false

section
variable {α : Type} [DecidableEq α]
def lwAdd (L : List (α × List Int)) (o : Option α) (ws : List Int) : List (α × List Int) :=
  match o with
  | none => L
  | some x => if x ∈ L.map (·.1) then L else L ++ [(x, ws)]
/-- The letters from 9 - m on. -/
def lwRow (step : α → Nat → Option α) (x : α) (ws : List Int) : Nat → List (α × List Int) → List (α × List Int)
  | 0, L => L
  | m + 1, L => lwRow step x ws m (lwAdd L (step x (8 - m)) (ws ++ [((8 - m : Nat) : Int)]))
def lwRun (step : α → Nat → Option α) (acc : α → Bool) : Nat → Nat → List (α × List Int) → Option (Option (List Int))
  | 0, _, _ => none
  | m + 1, p, L => match L[p]? with
    | none => some none
    | some y => if acc y.1 = true then some (some y.2) else lwRun step acc m (p + 1) (lwRow step y.1 y.2 9 L)
theorem lwRun_acc {step : α → Nat → Option α} {acc : α → Bool} {m p : Nat} {L : List (α × List Int)} {x : α} {ws : List Int} (h : L[p]? = some (x, ws)) (ha : acc x = true) : lwRun step acc (m + 1) p L = some (some ws) := by
  unfold lwRun; rw [h]; simp [ha]
theorem lwRun_go {step : α → Nat → Option α} {acc : α → Bool} {m p : Nat} {L : List (α × List Int)} {x : α} {ws : List Int} (h : L[p]? = some (x, ws)) (ha : acc x = false) : lwRun step acc (m + 1) p L = lwRun step acc m (p + 1) (lwRow step x ws 9 L) := by
  conv => lhs; unfold lwRun
  rw [h]; simp [ha]
theorem lwRun_end {step : α → Nat → Option α} {acc : α → Bool} {m p : Nat} {L : List (α × List Int)} (h : L.length ≤ p) : lwRun step acc (m + 1) p L = some none := by
  unfold lwRun; rw [List.getElem?_eq_none h]
theorem lwRow_at (step : α → Nat → Option α) (x : α) (ws : List Int) (k : Nat) (hk : k < 9) (L : List (α × List Int)) : lwRow step x ws (9 - k) L = lwRow step x ws (9 - (k + 1)) (lwAdd L (step x k) (ws ++ [(k : Int)])) := by
  have e : 9 - k = (8 - k) + 1 := by omega
  rw [e]
  conv => lhs; unfold lwRow
  rw [show 8 - (8 - k) = k from by omega, show 9 - (k + 1) = 8 - k from by omega]
theorem lwRow_none (step : α → Nat → Option α) (x : α) (ws : List Int) (k : Nat) (hk : k < 9) (L : List (α × List Int)) (h : step x k = none) : lwRow step x ws (9 - k) L = lwRow step x ws (9 - (k + 1)) L := by
  rw [lwRow_at step x ws k hk L, h]; rfl
theorem lwRow_old (step : α → Nat → Option α) (x : α) (ws : List Int) (k : Nat) (hk : k < 9) (L : List (α × List Int)) (z : α) (h : step x k = some z) (hz : z ∈ L.map (·.1)) : lwRow step x ws (9 - k) L = lwRow step x ws (9 - (k + 1)) L := by
  rw [lwRow_at step x ws k hk L, h]; simp only [lwAdd]; rw [if_pos hz]
theorem lwRow_new (step : α → Nat → Option α) (x : α) (ws : List Int) (k : Nat) (hk : k < 9) (L : List (α × List Int)) (z : α) (h : step x k = some z) (hz : z ∉ L.map (·.1)) : lwRow step x ws (9 - k) L = lwRow step x ws (9 - (k + 1)) (L ++ [(z, ws ++ [(k : Int)])]) := by
  rw [lwRow_at step x ws k hk L, h]; simp only [lwAdd]; rw [if_neg hz]
/-- What the search keeps: different states that Q holds of; the words are short and of letters. -/
structure LwI (Q : α → Prop) (L : List (α × List Int)) : Prop where
  nodup : (L.map (·.1)).Nodup
  all : ∀ x ∈ L.map (·.1), Q x
  short : ∀ (i : Nat) (y : α × List Int), L[i]? = some y → y.2.length ≤ i
  lets : ∀ (i : Nat) (y : α × List Int), L[i]? = some y → ∀ k ∈ y.2, 0 ≤ k ∧ k < 9
theorem nodup_snocG {l : List α} {x : α} (h : l.Nodup) (hx : x ∉ l) : (l ++ [x]).Nodup := by
  rw [List.nodup_append]
  refine ⟨h, by simp, fun a ha b hb => ?_⟩
  simp at hb; subst hb
  intro e; subst e; exact hx ha
theorem LwI.start {Q : α → Prop} {x : α} (h : Q x) : LwI Q [(x, ([] : List Int))] :=
  ⟨by simp, fun y hy => by simp at hy; subst hy; exact h, fun i y hy => by
    cases i with
    | zero => simp at hy; subst hy; exact Nat.le_refl _
    | succ i => simp at hy, fun i y hy => by
    cases i with
    | zero => simp at hy; subst hy; intro k hk; cases hk
    | succ i => simp at hy⟩
theorem LwI.snoc {Q : α → Prop} {L : List (α × List Int)} (h : LwI Q L) {x : α} {ws : List Int} {p : Nat} (hp : L[p]? = some (x, ws)) {z : α} (hz : z ∉ L.map (·.1)) (hq : Q z) {k : Nat} (hk : k < 9) : LwI Q (L ++ [(z, ws ++ [(k : Int)])]) := by
  have hpl : p < L.length := (List.getElem?_eq_some_iff.1 hp).1
  have hs := h.short p _ hp
  refine ⟨?_, fun y hy => ?_, fun i y hy => ?_, fun i y hy j hj => ?_⟩
  · rw [List.map_append]; exact nodup_snocG h.nodup hz
  · rw [List.map_append] at hy
    rcases List.mem_append.1 hy with hy | hy
    · exact h.all y hy
    · simp at hy; subst hy; exact hq
  · by_cases hi : i < L.length
    · rw [List.getElem?_append_left hi] at hy; exact h.short i y hy
    · rw [List.getElem?_append_right (by omega)] at hy
      have hi2 : i - L.length = 0 := by
        refine Decidable.byContradiction fun e => ?_
        rw [List.getElem?_eq_none (by simp; omega)] at hy; cases hy
      rw [hi2] at hy
      simp at hy; subst hy
      simp at hs ⊢; omega
  · by_cases hi : i < L.length
    · rw [List.getElem?_append_left hi] at hy; exact h.lets i y hy j hj
    · rw [List.getElem?_append_right (by omega)] at hy
      have hi2 : i - L.length = 0 := by
        refine Decidable.byContradiction fun e => ?_
        rw [List.getElem?_eq_none (by simp; omega)] at hy; cases hy
      rw [hi2] at hy
      simp at hy; subst hy
      rcases List.mem_append.1 hj with hj | hj
      · exact h.lets p _ hp j hj
      · simp at hj; subst hj; omega
/-- Q is closed, and only so many states are different. -/
structure LwH (step : α → Nat → Option α) (N : Nat) (Q : α → Prop) : Prop where
  step : ∀ s k x, k < 9 → Q s → step s k = some x → Q x
  room : ∀ l : List α, l.Nodup → (∀ x ∈ l, Q x) → l.length ≤ N
theorem LwI.room {step : α → Nat → Option α} {N : Nat} {Q : α → Prop} (H : LwH step N Q) {L : List (α × List Int)} (h : LwI Q L) : L.length ≤ N := by
  have := H.room _ h.nodup h.all
  simpa using this
theorem lwRow_keeps {step : α → Nat → Option α} {N : Nat} {Q : α → Prop} (H : LwH step N Q) {x : α} {ws : List Int} {p : Nat} (hq : Q x) : ∀ (m : Nat), m ≤ 9 → ∀ (L : List (α × List Int)), LwI Q L → L[p]? = some (x, ws) → LwI Q (lwRow step x ws m L) ∧ ∃ t, lwRow step x ws m L = L ++ t := by
  intro m
  induction m with
  | zero => intro _ L h _; exact ⟨h, [], by simp [lwRow]⟩
  | succ m ih =>
    intro hm L h hp
    unfold lwRow
    have hpl : p < L.length := (List.getElem?_eq_some_iff.1 hp).1
    cases e : step x (8 - m) with
    | none => exact ih (by omega) L h hp
    | some z =>
      simp only [lwAdd]
      by_cases hz : z ∈ L.map (·.1)
      · rw [if_pos hz]; exact ih (by omega) L h hp
      · rw [if_neg hz]
        obtain ⟨h1, t, h2⟩ := ih (by omega) (L ++ [(z, ws ++ [((8 - m : Nat) : Int)])]) (h.snoc hp hz (H.step x (8 - m) z (by omega) hq e) (by omega)) (by rw [List.getElem?_append_left hpl]; exact hp)
        exact ⟨h1, _ :: t, by rw [h2, List.append_assoc]; rfl⟩
/-- The search ends. -/
theorem lwRun_some {step : α → Nat → Option α} {acc : α → Bool} {N : Nat} {Q : α → Prop} (H : LwH step N Q) : ∀ (m p : Nat) (L : List (α × List Int)), LwI Q L → N + 1 ≤ m + p → p ≤ L.length → ∃ r, lwRun step acc m p L = some r := by
  intro m
  induction m with
  | zero => intro p L h hm hp; have := h.room H; omega
  | succ m ih =>
    intro p L h hm hp
    by_cases hlt : p < L.length
    · obtain ⟨⟨x, ws⟩, hy⟩ : ∃ y, y = L[p] := ⟨_, rfl⟩
      have hp2 : L[p]? = some (x, ws) := by rw [List.getElem?_eq_getElem hlt, hy]
      cases ha : acc x with
      | true => exact ⟨_, lwRun_acc hp2 ha⟩
      | false =>
        rw [lwRun_go hp2 ha]
        have hq : Q x := h.all x (List.mem_map.2 ⟨(x, ws), List.mem_of_getElem? hp2, rfl⟩)
        obtain ⟨h1, t, h2⟩ := lwRow_keeps H hq 9 (Nat.le_refl _) L h hp2
        exact ih (p + 1) _ h1 (by omega) (by rw [h2, List.length_append]; omega)
    · exact ⟨_, lwRun_end (by omega)⟩
/-! A search that leaves states out from which nothing but such states is found, and none accepts. -/
section
variable {s1 s2 : α → Nat → Option α} {acc : α → Bool} {ap : α → Bool}
def flt (ap : α → Bool) (L : List (α × List Int)) : List (α × List Int) := L.filter (fun y => ap y.1)
theorem flt_app (L M : List (α × List Int)) : flt ap (L ++ M) = flt ap L ++ flt ap M := by simp [flt]
theorem flt_mem {L : List (α × List Int)} {x : α} (h : ap x = true) : x ∈ (flt ap L).map (·.1) ↔ x ∈ L.map (·.1) := by
  simp [flt, h]
structure LwS (s1 s2 : α → Nat → Option α) (acc ap : α → Bool) : Prop where
  acc : ∀ x, ap x = false → acc x = false
  stay : ∀ x k z, ap x = false → s1 x k = some z → ap z = false
  drop : ∀ x k, ap x = true → s2 x k = (s1 x k).bind (fun z => if ap z = true then some z else none)
theorem lwRow_flt (H : LwS s1 s2 acc ap) {x : α} {ws : List Int} (hx : ap x = true) : ∀ (m : Nat) (L : List (α × List Int)), flt ap (lwRow s1 x ws m L) = lwRow s2 x ws m (flt ap L) := by
  intro m
  induction m with
  | zero => intro L; rfl
  | succ m ih =>
    intro L
    unfold lwRow
    rw [ih]
    congr 1
    rw [H.drop x (8 - m) hx]
    cases e : s1 x (8 - m) with
    | none => rfl
    | some z =>
      cases ez : ap z with
      | false =>
        simp only [Option.bind_some, lwAdd, ez, Bool.false_eq_true, if_false]
        split
        · rfl
        · rw [flt_app]; simp [flt, ez]
      | true =>
        simp only [Option.bind_some, lwAdd, ez, if_true]
        by_cases hz : z ∈ L.map (·.1)
        · rw [if_pos hz, if_pos ((flt_mem ez).2 hz)]
        · rw [if_neg hz, if_neg (fun k => hz ((flt_mem ez).1 k)), flt_app]; simp [flt, ez]
theorem lwRow_same (H : LwS s1 s2 acc ap) {x : α} {ws : List Int} (hx : ap x = false) : ∀ (m : Nat) (L : List (α × List Int)), flt ap (lwRow s1 x ws m L) = flt ap L := by
  intro m
  induction m with
  | zero => intro L; rfl
  | succ m ih =>
    intro L
    unfold lwRow
    rw [ih]
    cases e : s1 x (8 - m) with
    | none => rfl
    | some z =>
      have ez := H.stay x _ z hx e
      simp only [lwAdd]
      split
      · rfl
      · rw [flt_app]; simp [flt, ez]
theorem lwRow_grows (step : α → Nat → Option α) (x : α) (ws : List Int) : ∀ (m : Nat) (L : List (α × List Int)), ∃ t, lwRow step x ws m L = L ++ t := by
  intro m
  induction m with
  | zero => intro L; exact ⟨[], by simp [lwRow]⟩
  | succ m ih =>
    intro L
    unfold lwRow
    cases e : step x (8 - m) with
    | none => exact ih L
    | some z =>
      simp only [lwAdd]
      split
      · exact ih L
      · obtain ⟨t, h⟩ := ih (L ++ [(z, ws ++ [((8 - m : Nat) : Int)])])
        exact ⟨_ :: t, by rw [h, List.append_assoc]; rfl⟩
theorem flt_take {L : List (α × List Int)} {p : Nat} {y : α × List Int} (h : L[p]? = some y) : flt ap (L.take (p + 1)) = flt ap (L.take p) ++ (if ap y.1 = true then [y] else []) := by
  have hp : p < L.length := (List.getElem?_eq_some_iff.1 h).1
  have e : L[p] = y := by rw [List.getElem?_eq_getElem hp] at h; injection h
  rw [List.take_succ_eq_append_getElem hp, flt_app, e]
  cases ey : ap y.1 <;> simp [flt, ey]
theorem flt_at {L : List (α × List Int)} {p : Nat} {y : α × List Int} (h : L[p]? = some y) (hy : ap y.1 = true) : (flt ap L)[(flt ap (L.take p)).length]? = some y := by
  have hp : p < L.length := (List.getElem?_eq_some_iff.1 h).1
  have e : L = L.take (p + 1) ++ L.drop (p + 1) := (List.take_append_drop (p + 1) L).symm
  conv => lhs; arg 1; rw [e, flt_app, flt_take h, if_pos hy]
  simp
theorem lwRun_sim (H : LwS s1 s2 acc ap) : ∀ (m : Nat) (p : Nat) (L : List (α × List Int)) (m' : Nat) (r r' : Option (List Int)), lwRun s1 acc m p L = some r → lwRun s2 acc m' (flt ap (L.take p)).length (flt ap L) = some r' → r = r' := by
  intro m
  induction m with
  | zero => intro p L m' r r' h; cases h
  | succ m ih =>
    intro p L m' r r' h h'
    by_cases hlt : p < L.length
    · obtain ⟨⟨x, ws⟩, hy⟩ : ∃ y, y = L[p] := ⟨_, rfl⟩
      have hp : L[p]? = some (x, ws) := by rw [List.getElem?_eq_getElem hlt, hy]
      cases hx : ap x with
      | false =>
        have ha := H.acc x hx
        rw [lwRun_go hp ha] at h
        obtain ⟨t, ht⟩ := lwRow_grows s1 x ws 9 L
        refine ih (p + 1) _ m' r r' h ?_
        rw [lwRow_same H hx, ht, List.take_append_of_le_length (by omega), flt_take hp]
        simp only [hx, Bool.false_eq_true, if_false, List.append_nil]
        exact h'
      | true =>
        have hp' := flt_at (ap := ap) hp hx
        cases m' with
        | zero => cases h'
        | succ m' =>
          cases ha : acc x with
          | true =>
            rw [lwRun_acc hp ha] at h
            rw [lwRun_acc hp' ha] at h'
            injection h with h; injection h' with h'
            rw [← h, ← h']
          | false =>
            rw [lwRun_go hp ha] at h
            rw [lwRun_go hp' ha, ← lwRow_flt H hx] at h'
            obtain ⟨t, ht⟩ := lwRow_grows s1 x ws 9 L
            refine ih (p + 1) _ m' r r' h ?_
            rw [show (flt ap (List.take (p + 1) (lwRow s1 x ws 9 L))).length = (flt ap (L.take p)).length + 1 from by
              rw [ht, List.take_append_of_le_length (by omega), flt_take hp]; simp [hx]]
            exact h'
    · rw [lwRun_end (by omega)] at h
      cases m' with
      | zero => cases h'
      | succ m' =>
        rw [List.take_of_length_le (by omega), lwRun_end (Nat.le_refl _)] at h'
        rw [h'] at h
        injection h with h; exact h.symm
end
end
/-! Pairs of states. -/
/-- Where a letter leads to from a state, or from none. -/
def stpQ (A : Aut) (s : Int) (k : Nat) : Int := if s = -1 then -1 else nextA A.nx s k
def prS (A B : Aut) (x : List Int) (k : Nat) : Option (List Int) := some [stpQ A (x[0]?.getD 0) k, stpQ B (x[1]?.getD 0) k]
def prP (A B : Aut) (x : List Int) (k : Nat) : Option (List Int) := if stpQ A (x[0]?.getD 0) k ≠ stpQ B (x[1]?.getD 0) k then some [stpQ A (x[0]?.getD 0) k, stpQ B (x[1]?.getD 0) k] else none
def prAp (x : List Int) : Bool := decide (x[0]?.getD 0 ≠ x[1]?.getD 0)
/-- A state, or none. -/
def InQ (A : Aut) (s : Int) : Prop := -1 ≤ s ∧ s < (A.ac.length : Int)
def InP (A B : Aut) (x : List Int) : Prop := ∃ a b, x = [a, b] ∧ InQ A a ∧ InQ B b
def pairN (A B : Aut) : Nat := (A.ac.length + 1) * (B.ac.length + 1)
theorem pairN_le {A B : Aut} (ha : ValidA A) (hb : ValidA B) : pairN A B ≤ 1002001 := by
  have h1 := ha.1
  have h2 := hb.1
  have : (A.ac.length + 1) * (B.ac.length + 1) ≤ 1001 * 1001 := Nat.mul_le_mul (by omega) (by omega)
  exact this
theorem stpQ_in {A : Aut} (h : ValidA A) {s : Int} (hs : InQ A s) {k : Nat} (hk : k < 9) : InQ A (stpQ A s k) := by
  unfold stpQ
  split
  · rename_i e; subst e; exact hs
  · rename_i e; exact next_lt h (s := s) ⟨by have := hs.1; omega, hs.2⟩ hk
/-- A pair as a number. -/
def prN (n : Nat) (x : List Int) : Int := (x[0]?.getD 0 + 1) * (n + 1) + (x[1]?.getD 0 + 1)
theorem prN_inj {n : Nat} {a b c d : Int} (ha : -1 ≤ a) (hb : -1 ≤ b) (hc : -1 ≤ c) (hd : -1 ≤ d) (hb2 : b < n) (hd2 : d < n) (h : prN n [a, b] = prN n [c, d]) : [a, b] = [c, d] := by
  simp only [prN, List.getElem?_cons_zero, List.getElem?_cons_succ, Option.getD_some] at h
  have hn : (0 : Int) < (n : Int) + 1 := by omega
  have e1 : ((a + 1) * ((n : Int) + 1) + (b + 1)) / ((n : Int) + 1) = a + 1 := by
    rw [Int.add_comm, Int.add_mul_ediv_right _ _ (by omega), Int.ediv_eq_zero_of_lt (by omega) (by omega)]; omega
  have e2 : ((c + 1) * ((n : Int) + 1) + (d + 1)) / ((n : Int) + 1) = c + 1 := by
    rw [Int.add_comm, Int.add_mul_ediv_right _ _ (by omega), Int.ediv_eq_zero_of_lt (by omega) (by omega)]; omega
  rw [h, e2] at e1
  have hac : a = c := by omega
  subst hac
  have hbd : b = d := by omega
  rw [hbd]
theorem pair_room (A B : Aut) (l : List (List Int)) (h : l.Nodup) (hq : ∀ x ∈ l, InP A B x) : l.length ≤ (A.ac.length + 1) * (B.ac.length + 1) := by
  have h1 : (l.map (prN B.ac.length)).Nodup := by
    rw [List.nodup_iff_pairwise_ne] at h ⊢
    rw [List.pairwise_map]
    refine List.Pairwise.imp_of_mem (fun {x y} hx hy hne e => ?_) h
    obtain ⟨a, b, rfl, ha, hb⟩ := hq x hx
    obtain ⟨c, d, rfl, hc, hd⟩ := hq y hy
    exact hne (prN_inj ha.1 hb.1 hc.1 hd.1 hb.2 hd.2 e)
  have h2 : ∀ x ∈ l.map (prN B.ac.length), 0 ≤ x ∧ x < (((A.ac.length + 1) * (B.ac.length + 1) : Nat) : Int) := by
    intro y hy
    obtain ⟨x, hx, rfl⟩ := List.mem_map.1 hy
    obtain ⟨a, b, rfl, ha, hb⟩ := hq x hx
    simp only [prN, List.getElem?_cons_zero, List.getElem?_cons_succ, Option.getD_some]
    have h3 : 0 ≤ (a + 1) * ((B.ac.length : Int) + 1) := Int.mul_nonneg (by have := ha.1; omega) (by omega)
    have h4 : (a + 1) * ((B.ac.length : Int) + 1) ≤ (A.ac.length : Int) * ((B.ac.length : Int) + 1) := Int.mul_le_mul_of_nonneg_right (by have := ha.2; omega) (by omega)
    have := hb.1
    have := hb.2
    rw [Int.natCast_mul]
    have e : (((A.ac.length + 1 : Nat) : Int)) * ((B.ac.length + 1 : Nat) : Int) = (A.ac.length : Int) * ((B.ac.length : Int) + 1) + ((B.ac.length : Int) + 1) := by
      rw [Int.natCast_add]; rw [Int.add_mul]; simp
    rw [e]
    omega
  have := pigeon_le h1 h2
  simpa using this
theorem prS_H {A B : Aut} (h : ValidA A) (h2 : ValidA B) : LwH (prS A B) (pairN A B) (InP A B) := by
  refine ⟨fun s k x hk hs hx => ?_, pair_room A B⟩
  obtain ⟨a, b, rfl, ha, hb⟩ := hs
  unfold prS at hx
  injection hx with hx
  subst hx
  exact ⟨_, _, rfl, stpQ_in h (by simpa using ha) hk, stpQ_in h2 (by simpa using hb) hk⟩
theorem prP_H {A B : Aut} (h : ValidA A) (h2 : ValidA B) : LwH (prP A B) (pairN A B) (InP A B) := by
  refine ⟨fun s k x hk hs hx => ?_, pair_room A B⟩
  obtain ⟨a, b, rfl, ha, hb⟩ := hs
  unfold prP at hx
  split at hx
  · injection hx with hx
    subst hx
    exact ⟨_, _, rfl, stpQ_in h (by simpa using ha) hk, stpQ_in h2 (by simpa using hb) hk⟩
  · cases hx
end Go.Proofs.Ytmaagihfjldgeaa
