/- A search breadth first gives the least word: two searches that accept the same words answer alike. Plain data. -/
import Derived.Test.YtmaagihfjldgeaaGaM
namespace Go.Proofs.Ytmaagihfjldgeaa
set_option maxRecDepth 100000
set_option linter.unusedVariables false
set_option linter.unusedSimpArgs false
set_option linter.unusedSectionVars false

def lexLt : List Int → List Int → Prop
  | a :: u, b :: v => a < b ∨ (a = b ∧ lexLt u v)
  | _, _ => False
theorem lex_trans : ∀ {u v w : List Int}, lexLt u v → lexLt v w → lexLt u w
  | a :: u, b :: v, c :: w, h1, h2 => by
    simp only [lexLt] at h1 h2 ⊢
    rcases h1 with h1 | ⟨h1, h3⟩ <;> rcases h2 with h2 | ⟨h2, h4⟩
    · exact .inl (by omega)
    · exact .inl (by omega)
    · exact .inl (by omega)
    · exact .inr ⟨by omega, lex_trans h3 h4⟩
  | [], _, _, h1, _ => by simp [lexLt] at h1
  | _ :: _, [], _, h1, _ => by simp [lexLt] at h1
  | _ :: _, _ :: _, [], _, h2 => by simp [lexLt] at h2
theorem lex_irr : ∀ (u : List Int), ¬ lexLt u u
  | [], h => by simp [lexLt] at h
  | a :: u, h => by
    simp only [lexLt] at h
    rcases h with h | ⟨_, h⟩
    · omega
    · exact lex_irr u h
theorem lex_tri : ∀ (u v : List Int), u.length = v.length → lexLt u v ∨ u = v ∨ lexLt v u
  | [], [], _ => .inr (.inl rfl)
  | [], b :: v, h => by simp at h
  | a :: u, [], h => by simp at h
  | a :: u, b :: v, h => by
    simp only [lexLt]
    rcases Int.lt_trichotomy a b with e | e | e
    · exact .inl (.inl e)
    · subst e
      rcases lex_tri u v (by simpa using h) with k | k | k
      · exact .inl (.inr ⟨rfl, k⟩)
      · exact .inr (.inl (by rw [k]))
      · exact .inr (.inr (.inr ⟨rfl, k⟩))
    · exact .inr (.inr (.inl e))
theorem lex_snoc : ∀ (u v : List Int) (a b : Int), u.length = v.length → (lexLt (u ++ [a]) (v ++ [b]) ↔ lexLt u v ∨ (u = v ∧ a < b))
  | [], [], a, b, _ => by simp [lexLt]
  | [], y :: v, a, b, h => by simp at h
  | x :: u, [], a, b, h => by simp at h
  | x :: u, y :: v, a, b, h => by
    have ih := lex_snoc u v a b (by simpa using h)
    simp only [List.cons_append, lexLt, ih, List.cons.injEq]
    constructor
    · rintro (h1 | ⟨h1, h2 | ⟨h2, h3⟩⟩)
      · exact .inl (.inl h1)
      · exact .inl (.inr ⟨h1, h2⟩)
      · exact .inr ⟨⟨h1, h2⟩, h3⟩
    · rintro ((h1 | ⟨h1, h2⟩) | ⟨⟨h1, h2⟩, h3⟩)
      · exact .inl h1
      · exact .inr ⟨h1, .inl h2⟩
      · exact .inr ⟨h1, .inr ⟨h2, h3⟩⟩
/-- By length, then by letters. -/
def ltW (u v : List Int) : Prop := u.length < v.length ∨ (u.length = v.length ∧ lexLt u v)
def leW (u v : List Int) : Prop := u = v ∨ ltW u v
theorem ltW_trans {u v w : List Int} (h1 : ltW u v) (h2 : ltW v w) : ltW u w := by
  rcases h1 with h1 | ⟨h1, h3⟩ <;> rcases h2 with h2 | ⟨h2, h4⟩
  · exact .inl (by omega)
  · exact .inl (by omega)
  · exact .inl (by omega)
  · exact .inr ⟨by omega, lex_trans h3 h4⟩
theorem ltW_irr (u : List Int) : ¬ ltW u u := by
  rintro (h | ⟨_, h⟩)
  · omega
  · exact lex_irr u h
theorem ltW_tri (u v : List Int) : ltW u v ∨ u = v ∨ ltW v u := by
  rcases Nat.lt_trichotomy u.length v.length with h | h | h
  · exact .inl (.inl h)
  · rcases lex_tri u v h with k | k | k
    · exact .inl (.inr ⟨h, k⟩)
    · exact .inr (.inl k)
    · exact .inr (.inr (.inr ⟨h.symm, k⟩))
  · exact .inr (.inr (.inl h))
theorem ltW_snoc (u v : List Int) (a b : Int) : ltW (u ++ [a]) (v ++ [b]) ↔ ltW u v ∨ (u = v ∧ a < b) := by
  unfold ltW
  simp only [List.length_append, List.length_singleton]
  constructor
  · rintro (h | ⟨h, k⟩)
    · exact .inl (.inl (by omega))
    · rcases (lex_snoc u v a b (by omega)).1 k with k | k
      · exact .inl (.inr ⟨by omega, k⟩)
      · exact .inr k
  · rintro ((h | ⟨h, k⟩) | ⟨h, k⟩)
    · exact .inl (by omega)
    · exact .inr ⟨by omega, (lex_snoc u v a b h).2 (.inl k)⟩
    · subst h; exact .inr ⟨rfl, (lex_snoc u u a b rfl).2 (.inr ⟨rfl, k⟩)⟩
theorem ltW_ext (u : List Int) (a : Int) : ltW u (u ++ [a]) := .inl (by simp)
theorem leW_lt {u v w : List Int} (h1 : leW u v) (h2 : ltW v w) : ltW u w := by
  rcases h1 with rfl | h1
  · exact h2
  · exact ltW_trans h1 h2
theorem leW_trans {u v w : List Int} (h1 : leW u v) (h2 : leW v w) : leW u w := by
  rcases h2 with rfl | h2
  · exact h1
  · exact .inr (leW_lt h1 h2)
theorem leW_snoc {u v : List Int} (h : leW u v) (a : Int) : leW (u ++ [a]) (v ++ [a]) := by
  rcases h with rfl | h
  · exact .inl rfl
  · exact .inr ((ltW_snoc u v a a).2 (.inl h))
theorem leW_anti {u v : List Int} (h1 : leW u v) (h2 : leW v u) : u = v := by
  rcases h1 with h1 | h1
  · exact h1
  · rcases h2 with h2 | h2
    · exact h2.symm
    · exact absurd (ltW_trans h1 h2) (ltW_irr u)
section
variable {α : Type} [DecidableEq α] {step : α → Nat → Option α} {acc : α → Bool}
theorem goO_snoc (step : α → Nat → Option α) (k : Int) : ∀ (w : List Int) (x : α), goO step x (w ++ [k]) = (goO step x w).bind fun y => step y k.toNat
  | [], x => by simp [goO]
  | j :: w, x => by
    show (step x j.toNat).bind _ = ((step x j.toNat).bind _).bind _
    cases step x j.toNat with
    | none => rfl
    | some y => exact goO_snoc step k w y
/-- In the middle of a search: k letters of the state at p are done. -/
structure BInv (step : α → Nat → Option α) (x0 : α) (p k : Nat) (L : List (α × List Int)) : Prop where
  start : (x0, []) ∈ L
  asc : ∀ i j (hi : i < L.length) (hj : j < L.length), i < j → ltW L[i].2 L[j].2
  run : ∀ y ∈ L, goO step x0 y.2 = some y.1 ∧ LetW y.2
  done : ∀ i (hi : i < L.length) (j : Nat) z, (i < p ∨ (i = p ∧ j < k)) → j < 9 → step L[i].1 j = some z → ∃ y ∈ L, y.1 = z ∧ leW y.2 (L[i].2 ++ [(j : Int)])
  top : ∀ (h : p < L.length), ∀ y ∈ L, ltW y.2 (L[p].2 ++ [(k : Int)])
theorem BInv.letter {x0 : α} {p k : Nat} {L : List (α × List Int)} (h : BInv step x0 p k L) (hk : k < 9) {x : α} {ws : List Int} (hp : p < L.length) (hx : L[p] = (x, ws)) : BInv step x0 p (k + 1) (lwAdd L (step x k) (ws ++ [(k : Int)])) := by
  have htop := h.top hp
  have hgrow : ∀ (u : List Int), ltW u (ws ++ [(k : Int)]) → ltW u (ws ++ [((k + 1 : Nat) : Int)]) := fun u hu => ltW_trans hu ((ltW_snoc ws ws _ _).2 (.inr ⟨rfl, by omega⟩))
  rw [hx] at htop
  simp only at htop
  have keep : (∀ z, step x k = some z → ∃ y ∈ L, y.1 = z ∧ leW y.2 (ws ++ [(k : Int)])) → BInv step x0 p (k + 1) L := by
    intro hz
    refine ⟨h.start, h.asc, h.run, fun i hi j z hij hj hs => ?_, fun hp2 y hy => ?_⟩
    · by_cases e : i = p ∧ j = k
      · obtain ⟨rfl, rfl⟩ := e
        rw [hx] at hs ⊢
        exact hz z hs
      · exact h.done i hi j z (by omega) hj hs
    · rw [hx]; exact hgrow _ (htop y hy)
  cases e : step x k with
  | none => exact keep (fun z hz => by rw [e] at hz; cases hz)
  | some z =>
    simp only [lwAdd]
    by_cases hz : z ∈ L.map (·.1)
    · rw [if_pos hz]
      refine keep (fun z' hz' => ?_)
      rw [e] at hz'
      injection hz' with hz'
      subst hz'
      obtain ⟨y, hy, hyz⟩ := List.mem_map.1 hz
      exact ⟨y, hy, hyz, .inr (htop y hy)⟩
    · rw [if_neg hz]
      have hmem : (x, ws) ∈ L := by rw [← hx]; exact List.getElem_mem hp
      have hr := h.run _ hmem
      have hLp : (L ++ [(z, ws ++ [(k : Int)])])[p]'(by simp; omega) = (x, ws) := by rw [List.getElem_append_left hp]; exact hx
      refine ⟨List.mem_append_left _ h.start, fun i j hi hj hij => ?_, fun y hy => ?_, fun i hi j z' hij hj hs => ?_, fun hp2 y hy => ?_⟩
      · by_cases ej : j < L.length
        · rw [List.getElem_append_left (by omega), List.getElem_append_left ej]; exact h.asc i j (by omega) ej hij
        · have ej2 : j = L.length := by simp at hj; omega
          subst ej2
          have h2 : (L ++ [(z, ws ++ [(k : Int)])])[L.length]'hj = (z, ws ++ [(k : Int)]) := by rw [List.getElem_append_right (Nat.le_refl _)]; simp
          rw [List.getElem_append_left hij, h2]
          exact htop _ (List.getElem_mem hij)
      · rcases List.mem_append.1 hy with hy | hy
        · exact h.run y hy
        · simp at hy; subst hy
          refine ⟨?_, fun q hq => ?_⟩
          · simp only
            rw [goO_snoc, hr.1, Option.bind_some, Int.toNat_natCast]; exact e
          · rcases List.mem_append.1 hq with hq | hq
            · exact hr.2 q hq
            · simp at hq; subst hq; omega
      · by_cases ei : i < L.length
        · rw [List.getElem_append_left ei] at hs ⊢
          by_cases e2 : i = p ∧ j = k
          · obtain ⟨rfl, rfl⟩ := e2
            rw [hx] at hs ⊢
            simp only at hs ⊢
            rw [e] at hs
            injection hs with hs
            subst hs
            exact ⟨(z, ws ++ [(j : Int)]), by simp, rfl, .inl rfl⟩
          · obtain ⟨y, hy, h1, h2⟩ := h.done i ei j z' (by omega) hj hs
            exact ⟨y, List.mem_append_left _ hy, h1, h2⟩
        · simp at hi; omega
      · rw [hLp]
        rcases List.mem_append.1 hy with hy | hy
        · exact hgrow _ (htop y hy)
        · simp at hy; subst hy
          exact (ltW_snoc ws ws _ _).2 (.inr ⟨rfl, by omega⟩)
theorem BInv.row {x0 : α} {p : Nat} {x : α} {ws : List Int} : ∀ (m : Nat), m ≤ 9 → ∀ (L : List (α × List Int)), BInv step x0 p (9 - m) L → ∀ (hp : p < L.length), L[p] = (x, ws) → BInv step x0 p 9 (lwRow step x ws m L)
  | 0, _, L, h, hp, hx => h
  | m + 1, hm, L, h, hp, hx => by
    unfold lwRow
    have h1 := h.letter (by omega) hp hx
    have e1 : 9 - (m + 1) = 8 - m := by omega
    have e2 : 9 - (m + 1) + 1 = 9 - m := by omega
    rw [e2, e1] at h1
    have hg : ∃ t, lwAdd L (step x (8 - m)) (ws ++ [((8 - m : Nat) : Int)]) = L ++ t := by
      unfold lwAdd
      split
      · exact ⟨[], by simp⟩
      · split
        · exact ⟨[], by simp⟩
        · exact ⟨_, rfl⟩
    obtain ⟨t, ht⟩ := hg
    exact BInv.row m (by omega) _ h1 (by rw [ht, List.length_append]; omega) (by simp only [ht]; rw [List.getElem_append_left hp]; exact hx)
theorem BInv.next {x0 : α} {p : Nat} {L : List (α × List Int)} (h : BInv step x0 p 9 L) (hp : p < L.length) : BInv step x0 (p + 1) 0 L := by
  refine ⟨h.start, h.asc, h.run, fun i hi j z hij hj hs => ?_, fun hp2 y hy => ?_⟩
  · refine h.done i hi j z ?_ hj hs
    rcases hij with a | ⟨a, b⟩
    · by_cases e : i = p
      · exact .inr ⟨e, hj⟩
      · exact .inl (by omega)
    · omega
  · exact ltW_trans (h.top hp y hy) ((ltW_snoc _ _ _ _).2 (.inl (h.asc p (p + 1) hp hp2 (by omega))))
/-- What a lesser word leads to is found, by a word that is no greater. -/
theorem BInv.found {x0 : α} {p k : Nat} {L : List (α × List Int)} (h : BInv step x0 p k L) (hp : p < L.length) : ∀ (n : Nat) (w : List Int) (z : α), w.length = n → LetW w → goO step x0 w = some z → ltW w (L[p].2 ++ [(k : Int)]) → ∃ y ∈ L, y.1 = z ∧ leW y.2 w
  | 0, w, z, hn, hw, hg, hlt => by
    have e := List.eq_nil_of_length_eq_zero hn
    subst e
    injection hg with hg
    subst hg
    exact ⟨_, h.start, rfl, .inl rfl⟩
  | n + 1, w, z, hn, hw, hg, hlt => by
    have hne : w ≠ [] := fun e => by rw [e] at hn; simp at hn
    obtain ⟨u, j, rfl⟩ : ∃ u j, w = u ++ [j] := ⟨w.dropLast, w.getLast hne, (List.dropLast_concat_getLast hne).symm⟩
    have hwu : LetW u := fun q hq => hw q (by simp [hq])
    have hj := hw j (by simp)
    rw [goO_snoc] at hg
    cases e : goO step x0 u with
    | none => rw [e] at hg; cases hg
    | some y =>
      rw [e, Option.bind_some] at hg
      obtain ⟨v, hv, rfl, hle⟩ := BInv.found h hp n u y (by simpa using hn) hwu e (ltW_trans (ltW_ext u j) hlt)
      obtain ⟨i, hi, rfl⟩ := List.getElem_of_mem hv
      have hlt2 : ltW (L[i].2 ++ [j]) (L[p].2 ++ [(k : Int)]) := leW_lt (leW_snoc hle j) hlt
      have hjn : ((j.toNat : Nat) : Int) = j := by omega
      have hip : i < p ∨ (i = p ∧ j.toNat < k) := by
        rcases (ltW_snoc _ _ _ _).1 hlt2 with a | ⟨a, b⟩
        · left
          refine Decidable.byContradiction fun hn => ?_
          by_cases ei : i = p
          · subst ei; exact ltW_irr _ a
          · exact ltW_irr _ (ltW_trans a (h.asc p i hp hi (by omega)))
        · right
          refine ⟨?_, by omega⟩
          refine Decidable.byContradiction fun ei => ?_
          rcases Nat.lt_or_ge i p with c | c
          · have := h.asc i p hi hp c
            rw [a] at this
            exact ltW_irr _ this
          · have := h.asc p i hp hi (by omega)
            rw [a] at this
            exact ltW_irr _ this
      obtain ⟨y2, hy2, h1, h2⟩ := h.done i hi j.toNat z hip (by omega) hg
      rw [hjn] at h2
      exact ⟨y2, hy2, h1, leW_trans h2 (leW_snoc hle j)⟩
/-- The word that is found is accepted, and no accepted one is less. -/
theorem lwRun_least {x0 : α} : ∀ (m p : Nat) (L : List (α × List Int)) (ws : List Int), BInv step x0 p 0 L → (∀ i (hi : i < L.length), i < p → acc L[i].1 = false) → lwRun step acc m p L = some (some ws) → LetW ws ∧ acO step acc x0 ws = true ∧ ∀ w, LetW w → acO step acc x0 w = true → leW ws w := by
  intro m
  induction m with
  | zero => intro p L ws h ha e; cases e
  | succ m ih =>
    intro p L ws h ha e
    by_cases hlt : p < L.length
    · obtain ⟨⟨x, us⟩, hy⟩ : ∃ y, y = L[p] := ⟨_, rfl⟩
      have hp2 : L[p]? = some (x, us) := by rw [List.getElem?_eq_getElem hlt, hy]
      cases hc : acc x with
      | true =>
        rw [lwRun_acc hp2 hc] at e
        injection e with e
        injection e with e
        subst e
        have hr := h.run (x, us) (by rw [hy]; exact List.getElem_mem hlt)
        refine ⟨hr.2, ?_, fun w hw hwa => ?_⟩
        · unfold acO
          rw [hr.1]; exact hc
        · rcases ltW_tri us w with k | k | k
          · exact .inr k
          · exact .inl k
          · exfalso
            unfold acO at hwa
            cases eg : goO step x0 w with
            | none => rw [eg] at hwa; cases hwa
            | some z =>
              rw [eg] at hwa
              simp only at hwa
              have hlt3 : ltW w (L[p].2 ++ [((0 : Nat) : Int)]) := by
                rw [← hy]; exact ltW_trans k (ltW_ext us _)
              obtain ⟨y2, hy2, h1, h2⟩ := h.found hlt w.length w z rfl hw eg hlt3
              obtain ⟨i, hi, rfl⟩ := List.getElem_of_mem hy2
              have h3 : ltW L[i].2 L[p].2 := by rw [← hy]; exact leW_lt h2 k
              have hip : i < p := by
                refine Decidable.byContradiction fun hn => ?_
                by_cases ei : i = p
                · subst ei; exact ltW_irr _ h3
                · exact ltW_irr _ (ltW_trans h3 (h.asc p i hlt hi (by omega)))
              have := ha i hi hip
              rw [h1, hwa] at this
              cases this
      | false =>
        rw [lwRun_go hp2 hc] at e
        have h9 := BInv.row 9 (Nat.le_refl _) L h hlt hy.symm
        obtain ⟨t, ht⟩ := lwRow_grows step x us 9 L
        have hlt9 : p < (lwRow step x us 9 L).length := by rw [ht, List.length_append]; omega
        refine ih (p + 1) _ ws (h9.next hlt9) (fun i hi hip => ?_) e
        have hil : i < L.length := by omega
        simp only [ht]
        rw [List.getElem_append_left hil]
        by_cases ei : i = p
        · subst ei; rw [← hy]; exact hc
        · exact ha i hil (by omega)
    · rw [lwRun_end (by omega)] at e
      injection e with e
      cases e
theorem BInv.begin (step : α → Nat → Option α) (x0 : α) : BInv step x0 0 0 [(x0, [])] := by
  refine ⟨by simp, fun i j hi hj hij => by simp at hi hj; omega, fun y hy => ?_, fun i hi j z hij hj hs => ?_, fun h y hy => ?_⟩
  · simp at hy; subst hy
    exact ⟨rfl, fun k hk => by cases hk⟩
  · rcases hij with a | ⟨a, b⟩ <;> omega
  · simp at hy; subst hy
    exact .inl (by simp)
/-- If none is found, none is accepted. -/
theorem lwRun_no {x0 : α} {m : Nat} (h : lwRun step acc m 0 [(x0, [])] = some none) (w : List Int) (hw : LetW w) : acO step acc x0 w = false := by
  obtain ⟨S, s1, s2⟩ := lwRun_none m 0 [(x0, [])] (fun i hi => by omega) (by simp) h
  have key : ∀ (w : List Int) (x : α), LetW w → x ∈ S → acO step acc x w = false := by
    intro w
    induction w with
    | nil => intro x _ hx; exact (s2 x hx).1
    | cons k w ih =>
      intro x hw hx
      have hk := hw k (by simp)
      unfold acO goO
      cases e : step x k.toNat with
      | none => rfl
      | some z => exact ih z (fun j hj => hw j (by simp [hj])) ((s2 x hx).2 k.toNat z (by omega) e)
  exact key w x0 hw (s1 x0 (by simp))
end
/-- Two searches that accept the same words answer alike. -/
theorem lwRun_alike {α β : Type} [DecidableEq α] [DecidableEq β] {sA : α → Nat → Option α} {aA : α → Bool} {sB : β → Nat → Option β} {aB : β → Bool} {x0 : α} {y0 : β} (h : ∀ w, LetW w → acO sA aA x0 w = acO sB aB y0 w) {m m' : Nat} {r r' : Option (List Int)}
    (h1 : lwRun sA aA m 0 [(x0, [])] = some r) (h2 : lwRun sB aB m' 0 [(y0, [])] = some r') : r = r' := by
  cases r with
  | none =>
    cases r' with
    | none => rfl
    | some w =>
      obtain ⟨hw, ha, _⟩ := lwRun_least m' 0 _ w (BInv.begin sB y0) (fun i hi h => by omega) h2
      have := lwRun_no h1 w hw
      rw [h w hw, ha] at this
      cases this
  | some w =>
    obtain ⟨hw, ha, hl⟩ := lwRun_least m 0 _ w (BInv.begin sA x0) (fun i hi h => by omega) h1
    cases r' with
    | none =>
      have := lwRun_no h2 w hw
      rw [← h w hw, ha] at this
      cases this
    | some w' =>
      obtain ⟨hw', ha', hl'⟩ := lwRun_least m' 0 _ w' (BInv.begin sB y0) (fun i hi h => by omega) h2
      rw [leW_anti (hl w' hw' (by rw [h w' hw', ha'])) (hl' w hw (by rw [← h w hw, ha]))]
end Go.Proofs.Ytmaagihfjldgeaa
