/- Classes of states: refining them until nothing changes; as plain data. -/
import Derived.Test.YtcokggjekleabaaAuL
namespace Go.Proofs.Ytcokggjekleabaa
set_option maxRecDepth 100000
set_option linter.unusedVariables false
set_option linter.unusedSimpArgs false

/-- The place of a value in a list. -/
def posG {α : Type} [DecidableEq α] : List α → α → Nat
  | [], _ => 0
  | y :: ys, x => if y = x then 0 else posG ys x + 1
theorem posG_lt {α : Type} [DecidableEq α] : ∀ (l : List α) (x : α), x ∈ l → posG l x < l.length
  | y :: ys, x, h => by
    unfold posG
    by_cases e : y = x
    · rw [if_pos e]; simp
    · rw [if_neg e]
      have := posG_lt ys x (by
        rcases List.mem_cons.1 h with h | h
        · exact absurd h.symm e
        · exact h)
      simp; omega
theorem posG_get {α : Type} [DecidableEq α] : ∀ (l : List α) (x : α) (h : x ∈ l), l[posG l x]'(posG_lt l x h) = x
  | y :: ys, x, h => by
    by_cases e : y = x
    · have : posG (y :: ys) x = 0 := by unfold posG; rw [if_pos e]
      simp only [this, List.getElem_cons_zero]
      exact e
    · have h2 : x ∈ ys := by
        rcases List.mem_cons.1 h with h | h
        · exact absurd h.symm e
        · exact h
      have : posG (y :: ys) x = posG ys x + 1 := by rw [posG]; rw [if_neg e]
      simp only [this, List.getElem_cons_succ]
      exact posG_get ys x h2
theorem posG_app {α : Type} [DecidableEq α] : ∀ (l t : List α) (x : α), x ∈ l → posG (l ++ t) x = posG l x
  | y :: ys, t, x, h => by
    rw [List.cons_append]
    unfold posG
    by_cases e : y = x
    · rw [if_pos e, if_pos e]
    · rw [if_neg e, if_neg e, posG_app ys t x (by
        rcases List.mem_cons.1 h with h | h
        · exact absurd h.symm e
        · exact h)]
theorem posG_new {α : Type} [DecidableEq α] : ∀ (l : List α) (x : α), x ∉ l → posG (l ++ [x]) x = l.length
  | [], x, h => by simp [posG]
  | y :: ys, x, h => by
    have h1 : y ≠ x := fun e => h (by simp [e])
    have h2 : x ∉ ys := fun e => h (by simp [e])
    rw [List.cons_append]
    unfold posG
    rw [if_neg h1, posG_new ys x h2]; rfl
theorem posG_inj {α : Type} [DecidableEq α] {l : List α} {x y : α} (hx : x ∈ l) (hy : y ∈ l) (e : posG l x = posG l y) : x = y := by
  have h1 := posG_get l x hx
  have h2 := posG_get l y hy
  simp only [e] at h1
  rw [← h1]; exact h2
theorem posG_at {α : Type} [DecidableEq α] : ∀ (l : List α), l.Nodup → ∀ i (h : i < l.length), posG l l[i] = i
  | y :: ys, hd, 0, h => by simp [posG]
  | y :: ys, hd, i + 1, h => by
    obtain ⟨h1, h2⟩ := List.nodup_cons.1 hd
    have hi : i < ys.length := by simpa using h
    have hne : y ≠ ys[i] := fun e => h1 (by rw [e]; exact List.getElem_mem hi)
    rw [List.getElem_cons_succ]
    unfold posG
    rw [if_neg hne, posG_at ys h2 i hi]
theorem posG_alike {α β : Type} [DecidableEq α] [DecidableEq β] {f : Nat → α} {g : Nat → β} (s : Nat) : ∀ (fs : List Nat), (∀ t ∈ fs, f t = f s ↔ g t = g s) → posG (fs.map f) (f s) = posG (fs.map g) (g s)
  | [], _ => rfl
  | t :: fs, h => by
    have ih := posG_alike s fs (fun u hu => h u (by simp [hu]))
    have h0 := h t (by simp)
    simp only [List.map_cons]
    unfold posG
    by_cases e : f t = f s
    · rw [if_pos e, if_pos (h0.1 e)]
    · rw [if_neg e, if_neg (fun k => e (h0.2 k)), ih]
theorem mem_alike {α β : Type} {f : Nat → α} {g : Nat → β} (s : Nat) (fs : List Nat) (h : ∀ t ∈ fs, f t = f s ↔ g t = g s) : f s ∈ fs.map f ↔ g s ∈ fs.map g := by
  simp only [List.mem_map]
  exact ⟨fun ⟨t, ht, e⟩ => ⟨t, ht, (h t ht).1 e⟩, fun ⟨t, ht, e⟩ => ⟨t, ht, (h t ht).2 e⟩⟩
/-! numbering states by a key, in the order of the first ones; lv: whether a state has a number at all -/
section
variable {α : Type} [DecidableEq α]
/-- The first states of the keys among those below s, and the numbers. -/
def cutF (lv : Nat → Bool) (f : Nat → α) : Nat → List Nat
  | 0 => []
  | s + 1 => if lv s = true then (if f s ∈ (cutF lv f s).map f then cutF lv f s else cutF lv f s ++ [s]) else cutF lv f s
def cutN (lv : Nat → Bool) (f : Nat → α) (s : Nat) : Int := if lv s = true then (posG ((cutF lv f (s + 1)).map f) (f s) : Int) else -1
def cutO (lv : Nat → Bool) (f : Nat → α) (n : Nat) : List Int := (List.range n).map (cutN lv f)
variable {lv : Nat → Bool} {f : Nat → α}
theorem cutO_length (lv : Nat → Bool) (f : Nat → α) (n : Nat) : (cutO lv f n).length = n := by simp [cutO]
theorem cutO_at (lv : Nat → Bool) (f : Nat → α) (n s : Nat) (h : s < (cutO lv f n).length) : (cutO lv f n)[s] = cutN lv f s := by simp [cutO]
theorem cutO_step (lv : Nat → Bool) (f : Nat → α) (n : Nat) : cutO lv f (n + 1) = cutO lv f n ++ [cutN lv f n] := by unfold cutO; rw [List.range_succ, List.map_append]; rfl
theorem cutF_dead {s : Nat} (h : lv s = false) : cutF lv f (s + 1) = cutF lv f s := by
  conv => lhs; unfold cutF
  rw [h]; rfl
theorem cutF_old {s : Nat} (h : lv s = true) (hx : f s ∈ (cutF lv f s).map f) : cutF lv f (s + 1) = cutF lv f s := by
  conv => lhs; unfold cutF
  rw [if_pos h, if_pos hx]
theorem cutF_new {s : Nat} (h : lv s = true) (hx : f s ∉ (cutF lv f s).map f) : cutF lv f (s + 1) = cutF lv f s ++ [s] := by
  conv => lhs; unfold cutF
  rw [if_pos h, if_neg hx]
theorem cutN_dead {s : Nat} (h : lv s = false) : cutN lv f s = -1 := by unfold cutN; rw [h]; rfl
theorem cutN_old {s : Nat} (h : lv s = true) (hx : f s ∈ (cutF lv f s).map f) : cutN lv f s = (posG ((cutF lv f s).map f) (f s) : Int) := by unfold cutN; rw [if_pos h, cutF_old h hx]
theorem cutN_new {s : Nat} (h : lv s = true) (hx : f s ∉ (cutF lv f s).map f) : cutN lv f s = ((cutF lv f s).length : Int) := by
  unfold cutN; rw [if_pos h, cutF_new h hx, List.map_append, List.map_cons, List.map_nil, posG_new _ _ hx, List.length_map]
theorem cutF_pre (lv : Nat → Bool) (f : Nat → α) : ∀ s t, s ≤ t → ∃ u, cutF lv f t = cutF lv f s ++ u := by
  intro s t h
  induction t with
  | zero => obtain rfl : s = 0 := by omega
            exact ⟨[], by simp⟩
  | succ t ih =>
    by_cases e : s = t + 1
    · subst e; exact ⟨[], by simp⟩
    · obtain ⟨u, hu⟩ := ih (by omega)
      cases hl : lv t with
      | false => exact ⟨u, by rw [cutF_dead hl, hu]⟩
      | true =>
        by_cases hx : f t ∈ (cutF lv f t).map f
        · exact ⟨u, by rw [cutF_old hl hx, hu]⟩
        · exact ⟨u ++ [t], by rw [cutF_new hl hx, hu, List.append_assoc]⟩
theorem cutF_has {s : Nat} (h : lv s = true) : f s ∈ (cutF lv f (s + 1)).map f := by
  by_cases hx : f s ∈ (cutF lv f s).map f
  · rw [cutF_old h hx]; exact hx
  · rw [cutF_new h hx]; simp
theorem cutF_has' {s n : Nat} (h : lv s = true) (hn : s < n) : f s ∈ (cutF lv f n).map f := by
  obtain ⟨u, hu⟩ := cutF_pre lv f (s + 1) n hn
  rw [hu, List.map_append]
  exact List.mem_append_left _ (cutF_has h)
/-- The number, told by the list of all first states. -/
theorem cutN_is {s n : Nat} (h : lv s = true) (hn : s < n) : cutN lv f s = (posG ((cutF lv f n).map f) (f s) : Int) := by
  obtain ⟨u, hu⟩ := cutF_pre lv f (s + 1) n hn
  unfold cutN
  rw [if_pos h, hu, List.map_append, posG_app _ _ _ (cutF_has h)]
theorem cutF_nodup (lv : Nat → Bool) (f : Nat → α) : ∀ n, ((cutF lv f n).map f).Nodup
  | 0 => by simp [cutF]
  | n + 1 => by
    have ih := cutF_nodup lv f n
    cases hl : lv n with
    | false => rw [cutF_dead hl]; exact ih
    | true =>
      by_cases hx : f n ∈ (cutF lv f n).map f
      · rw [cutF_old hl hx]; exact ih
      · rw [cutF_new hl hx, List.map_append, List.nodup_append]
        refine ⟨ih, by simp, fun a ha b hb => ?_⟩
        simp at hb; subst hb
        intro e; subst e; exact hx ha
theorem cutF_lt (lv : Nat → Bool) (f : Nat → α) : ∀ n, ∀ t ∈ cutF lv f n, t < n ∧ lv t = true
  | 0, t, h => by simp [cutF] at h
  | n + 1, t, h => by
    cases hl : lv n with
    | false => rw [cutF_dead hl] at h; have := cutF_lt lv f n t h; exact ⟨by omega, this.2⟩
    | true =>
      by_cases hx : f n ∈ (cutF lv f n).map f
      · rw [cutF_old hl hx] at h; have := cutF_lt lv f n t h; exact ⟨by omega, this.2⟩
      · rw [cutF_new hl hx] at h
        rcases List.mem_append.1 h with h | h
        · have := cutF_lt lv f n t h; exact ⟨by omega, this.2⟩
        · simp at h; subst h; exact ⟨by omega, hl⟩
theorem cutF_len (lv : Nat → Bool) (f : Nat → α) : ∀ n, (cutF lv f n).length ≤ n
  | 0 => by simp [cutF]
  | n + 1 => by
    have ih := cutF_len lv f n
    cases hl : lv n with
    | false => rw [cutF_dead hl]; omega
    | true =>
      by_cases hx : f n ∈ (cutF lv f n).map f
      · rw [cutF_old hl hx]; omega
      · rw [cutF_new hl hx, List.length_append]; simp; omega
theorem cutF_inj {n s t : Nat} (hs : s ∈ cutF lv f n) (ht : t ∈ cutF lv f n) (e : f s = f t) : s = t := by
  have hd := cutF_nodup lv f n
  obtain ⟨i, hi, rfl⟩ := List.getElem_of_mem hs
  obtain ⟨j, hj, rfl⟩ := List.getElem_of_mem ht
  have h1 := posG_at _ hd i (by simpa using hi)
  have h2 := posG_at _ hd j (by simpa using hj)
  simp only [List.getElem_map] at h1 h2
  rw [e] at h1
  have : i = j := h1.symm.trans h2
  subst this; rfl
/-- Two states have one number if and only if they have one key. -/
theorem cutN_eq {s t n : Nat} (hs : lv s = true) (ht : lv t = true) (hsn : s < n) (htn : t < n) : cutN lv f s = cutN lv f t ↔ f s = f t := by
  rw [cutN_is hs hsn, cutN_is ht htn]
  constructor
  · intro e
    exact posG_inj (cutF_has' hs hsn) (cutF_has' ht htn) (by omega)
  · intro e; rw [e]
theorem cutN_nonneg {s : Nat} (h : lv s = true) : 0 ≤ cutN lv f s := by unfold cutN; rw [if_pos h]; omega
theorem cutN_lt {s n : Nat} (h : lv s = true) (hn : s < n) : cutN lv f s < (n : Int) := by
  rw [cutN_is h hn]
  have h1 := posG_lt _ _ (cutF_has' (f := f) h hn)
  have h2 := cutF_len lv f n
  rw [List.length_map] at h1
  omega
theorem cutN_neg {s : Nat} : cutN lv f s < 0 ↔ lv s = false := by
  cases h : lv s with
  | false => rw [cutN_dead h]; simp
  | true => have := cutN_nonneg (f := f) h; simp; omega
theorem cutN_range {s n : Nat} (hn : s < n) : -1 ≤ cutN lv f s ∧ cutN lv f s < (n : Int) := by
  cases h : lv s with
  | false => rw [cutN_dead h]; omega
  | true => have := cutN_nonneg (f := f) h; have := cutN_lt (f := f) h hn; omega
end
/-- Keys that tell the same states apart give the same numbers. -/
theorem cut_alike {α β : Type} [DecidableEq α] [DecidableEq β] {lv : Nat → Bool} {f : Nat → α} {g : Nat → β} {n : Nat} (h : ∀ s t, s < n → t < n → lv s = true → lv t = true → (f s = f t ↔ g s = g t)) : ∀ m, m ≤ n → cutF lv f m = cutF lv g m
  | 0, _ => rfl
  | m + 1, hm => by
    have ih := cut_alike h m (by omega)
    cases hl : lv m with
    | false => rw [cutF_dead hl, cutF_dead hl, ih]
    | true =>
      have hk : ∀ t ∈ cutF lv f m, f t = f m ↔ g t = g m := fun t ht => by
        have := cutF_lt lv f m t ht
        exact h t m (by omega) (by omega) this.2 hl
      have hmem := mem_alike m (cutF lv f m) hk
      rw [ih] at hmem
      by_cases hx : f m ∈ (cutF lv f m).map f
      · rw [cutF_old hl hx, cutF_old hl (hmem.1 (by rw [← ih]; exact hx)), ih]
      · rw [cutF_new hl hx, cutF_new hl (fun k => hx (by rw [ih]; exact hmem.2 k)), ih]
theorem cutO_alike {α β : Type} [DecidableEq α] [DecidableEq β] {lv : Nat → Bool} {f : Nat → α} {g : Nat → β} {n : Nat} (h : ∀ s t, s < n → t < n → lv s = true → lv t = true → (f s = f t ↔ g s = g t)) : cutO lv f n = cutO lv g n := by
  have hF := cut_alike h n (Nat.le_refl _)
  unfold cutO
  refine List.map_congr_left fun s hs => ?_
  have hsn := List.mem_range.1 hs
  cases hl : lv s with
  | false => rw [cutN_dead hl, cutN_dead hl]
  | true =>
    rw [cutN_is hl hsn, cutN_is hl hsn, hF]
    congr 1
    refine posG_alike s _ (fun t ht => ?_)
    have := cutF_lt lv g n t ht
    exact h t s this.1 hsn this.2 hl
/-- A finer key has more first states; as many: the same numbers. -/
theorem cutF_sub {α β : Type} [DecidableEq α] [DecidableEq β] {lv : Nat → Bool} {f : Nat → α} {g : Nat → β} {n : Nat} (h : ∀ s t, s < n → t < n → lv s = true → lv t = true → g s = g t → f s = f t) : ∀ m, m ≤ n → (cutF lv f m).Sublist (cutF lv g m)
  | 0, _ => by simp [cutF]
  | m + 1, hm => by
    have ih := cutF_sub h m (by omega)
    cases hl : lv m with
    | false => rw [cutF_dead hl, cutF_dead hl]; exact ih
    | true =>
      by_cases hx : f m ∈ (cutF lv f m).map f
      · rw [cutF_old hl hx]
        by_cases hy : g m ∈ (cutF lv g m).map g
        · rw [cutF_old hl hy]; exact ih
        · rw [cutF_new hl hy]; exact ih.trans (List.sublist_append_left _ _)
      · have hy : g m ∉ (cutF lv g m).map g := fun k => by
          obtain ⟨t, ht, e⟩ := List.mem_map.1 k
          have ht2 := cutF_lt lv g m t ht
          have e2 := h t m (by omega) (by omega) ht2.2 hl e
          exact hx (by rw [← e2]; exact cutF_has' ht2.2 ht2.1)
        rw [cutF_new hl hx, cutF_new hl hy]
        exact List.Sublist.append ih (List.Sublist.refl _)
theorem cut_finer {α β : Type} [DecidableEq α] [DecidableEq β] {lv : Nat → Bool} {f : Nat → α} {g : Nat → β} {n : Nat} (h : ∀ s t, s < n → t < n → lv s = true → lv t = true → g s = g t → f s = f t) : (cutF lv f n).length ≤ (cutF lv g n).length ∧ ((cutF lv g n).length ≤ (cutF lv f n).length → cutO lv g n = cutO lv f n) := by
  have hs := cutF_sub h n (Nat.le_refl _)
  refine ⟨hs.length_le, fun hl => ?_⟩
  have hE : cutF lv f n = cutF lv g n := hs.eq_of_length_le hl
  refine cutO_alike fun s t hsn htn hls hlt => ⟨h s t hsn htn hls hlt, fun e => ?_⟩
  obtain ⟨a, ha, ea⟩ := List.mem_map.1 (cutF_has' (f := g) hls hsn)
  obtain ⟨b, hb, eb⟩ := List.mem_map.1 (cutF_has' (f := g) hlt htn)
  have ha2 := cutF_lt lv g n a ha
  have hb2 := cutF_lt lv g n b hb
  have fa := h a s ha2.1 hsn ha2.2 hls ea
  have fb := h b t hb2.1 htn hb2.2 hlt eb
  have : a = b := cutF_inj (lv := lv) (f := f) (n := n) (by rw [hE]; exact ha) (by rw [hE]; exact hb) (by rw [fa, fb, e])
  rw [← ea, ← eb, this]
/-! the classes of an automaton's states -/
def clC (cls : List Int) (t : Int) : Int := (cls[t.toNat]?).getD 0
theorem clC_at (cls : List Int) (t : Nat) (h : t < cls.length) : clC cls (t : Int) = cls[t] := by unfold clC; rw [Int.toNat_natCast, List.getElem?_eq_getElem h]; rfl
def sgC (nx : List (List Int)) (cls : List Int) (s : Int) (k : Nat) : Int := if nextA nx s k < 0 then -1 else clC cls (nextA nx s k)
/-- A state's class, and those of the states behind it. -/
def sigC (nx : List (List Int)) (cls : List Int) (s : Nat) : List Int := clC cls (s : Int) :: (List.range 9).map (sgC nx cls (s : Int))
theorem sigC_length (nx : List (List Int)) (cls : List Int) (s : Nat) : (sigC nx cls s).length = 10 := by simp [sigC]
def refC (A : Aut) (lv : Nat → Bool) (cls : List Int) : List Int := cutO lv (sigC A.nx cls) A.ac.length
/-- The classes to begin with: what the empty word tells apart. -/
def iniC (A : Aut) (lv : Nat → Bool) : List Int := (List.range A.ac.length).map fun s => if lv s = true then (if at0 A.ac s = true then 1 else 0) else -1
def itR (A : Aut) (lv : Nat → Bool) : Nat → List Int
  | 0 => iniC A lv
  | i + 1 => refC A lv (itR A lv i)
/-- .. until nothing changes. -/
def fixC (A : Aut) (lv : Nat → Bool) : Nat → List Int → List Int
  | 0, c => c
  | m + 1, c => if refC A lv c = c then c else fixC A lv m (refC A lv c)
def clsA (A : Aut) (lv : Nat → Bool) : List Int := fixC A lv (A.ac.length + 1) (iniC A lv)
theorem iniC_length (A : Aut) (lv : Nat → Bool) : (iniC A lv).length = A.ac.length := by simp [iniC]
theorem iniC_at (A : Aut) (lv : Nat → Bool) (s : Nat) (h : s < A.ac.length) : clC (iniC A lv) (s : Int) = if lv s = true then (if at0 A.ac s = true then 1 else 0) else -1 := by
  rw [clC_at _ s (by rw [iniC_length]; exact h)]; simp [iniC]
theorem refC_length (A : Aut) (lv : Nat → Bool) (cls : List Int) : (refC A lv cls).length = A.ac.length := cutO_length _ _ _
theorem refC_at (A : Aut) (lv : Nat → Bool) (cls : List Int) (s : Nat) (h : s < A.ac.length) : clC (refC A lv cls) (s : Int) = cutN lv (sigC A.nx cls) s := by
  rw [clC_at _ s (by rw [refC_length]; exact h)]; exact cutO_at _ _ _ _ _
theorem itR_length (A : Aut) (lv : Nat → Bool) : ∀ i, (itR A lv i).length = A.ac.length
  | 0 => iniC_length A lv
  | i + 1 => refC_length A lv _
theorem sigC_head {nx : List (List Int)} {cls : List Int} {s t : Nat} (h : sigC nx cls s = sigC nx cls t) : clC cls (s : Int) = clC cls (t : Int) := by
  unfold sigC at h
  exact (List.cons.inj h).1
theorem sigC_step {nx : List (List Int)} {cls : List Int} {s t : Nat} (h : sigC nx cls s = sigC nx cls t) (k : Nat) (hk : k < 9) : sgC nx cls (s : Int) k = sgC nx cls (t : Int) k := by
  unfold sigC at h
  have h2 := (List.cons.inj h).2
  have := congrArg (·[k]?) h2
  simpa [hk] using this
/-- How many classes there are after i rounds and one more. -/
def kC (A : Aut) (lv : Nat → Bool) (i : Nat) : Nat := (cutF lv (sigC A.nx (itR A lv i)) A.ac.length).length
theorem kC_step (A : Aut) (lv : Nat → Bool) (i : Nat) : kC A lv i ≤ kC A lv (i + 1) ∧ (kC A lv (i + 1) ≤ kC A lv i → refC A lv (itR A lv (i + 1)) = itR A lv (i + 1)) := by
  refine cut_finer (n := A.ac.length) (f := sigC A.nx (itR A lv i)) (g := sigC A.nx (itR A lv (i + 1))) fun s t hs ht hls hlt e => ?_
  have h1 := sigC_head e
  rw [show itR A lv (i + 1) = refC A lv (itR A lv i) from rfl, refC_at _ _ _ _ hs, refC_at _ _ _ _ ht] at h1
  exact (cutN_eq hls hlt hs ht).1 h1
theorem itR_dead {A : Aut} {lv : Nat → Bool} (h : ∀ s, s < A.ac.length → lv s = false) : refC A lv (iniC A lv) = iniC A lv := by
  apply List.ext_getElem
  · rw [refC_length, iniC_length]
  · intro s h1 h2
    rw [refC_length] at h1
    have a := refC_at A lv (iniC A lv) s h1
    have b := iniC_at A lv s h1
    rw [clC_at _ s (by rw [refC_length]; exact h1)] at a
    rw [clC_at _ s (by rw [iniC_length]; exact h1)] at b
    rw [a, b, cutN_dead (h s h1), h s h1]; rfl
/-- Within as many rounds as there are states nothing changes. -/
theorem itR_stop (A : Aut) (lv : Nat → Bool) (i : Nat) (h : ∀ j, j ≤ i → refC A lv (itR A lv j) ≠ itR A lv j) : i < A.ac.length := by
  have hlive : ∃ s, s < A.ac.length ∧ lv s = true := by
    refine Decidable.byContradiction fun hn => ?_
    refine h 0 (Nat.zero_le _) (itR_dead fun s hs => ?_)
    cases e : lv s with
    | false => rfl
    | true => exact absurd ⟨s, hs, e⟩ hn
  obtain ⟨s, hs, hls⟩ := hlive
  have h0 : 1 ≤ kC A lv 0 := by
    have := cutF_has' (f := sigC A.nx (itR A lv 0)) hls hs
    unfold kC
    have h2 := List.length_pos_of_mem this
    rw [List.length_map] at h2
    exact h2
  have key : ∀ j, j ≤ i → j + 1 ≤ kC A lv j := by
    intro j
    induction j with
    | zero => intro _; exact h0
    | succ j ih =>
      intro hj
      have h1 := ih (by omega)
      obtain ⟨h2, h3⟩ := kC_step A lv j
      have h4 : ¬ kC A lv (j + 1) ≤ kC A lv j := fun k => h (j + 1) hj (h3 k)
      omega
  have := key i (Nat.le_refl _)
  have h5 := cutF_len lv (sigC A.nx (itR A lv i)) A.ac.length
  unfold kC at this
  omega
theorem fixC_go (A : Aut) (lv : Nat → Bool) (i : Nat) (hi : i < A.ac.length + 1) (h : ∀ j, j < i → refC A lv (itR A lv j) ≠ itR A lv j) : fixC A lv (A.ac.length + 1 - i) (itR A lv i) = clsA A lv := by
  induction i with
  | zero => rfl
  | succ i ih =>
    have h1 := ih (by omega) (fun j hj => h j (by omega))
    rw [← h1, show A.ac.length + 1 - i = (A.ac.length + 1 - (i + 1)) + 1 from by omega]
    conv => rhs; unfold fixC
    rw [if_neg (h i (by omega))]; rfl
/-- Where nothing changes, these are the classes. -/
theorem clsA_at (A : Aut) (lv : Nat → Bool) (i : Nat) (hi : i < A.ac.length + 1) (h : ∀ j, j < i → refC A lv (itR A lv j) ≠ itR A lv j) (hf : refC A lv (itR A lv i) = itR A lv i) : clsA A lv = itR A lv i := by
  rw [← fixC_go A lv i hi h, show A.ac.length + 1 - i = (A.ac.length - i) + 1 from by omega]
  unfold fixC
  rw [if_pos hf]
theorem clsA_ex (A : Aut) (lv : Nat → Bool) : ∃ i, i ≤ A.ac.length ∧ clsA A lv = itR A lv i ∧ refC A lv (itR A lv i) = itR A lv i := by
  have key : ∀ m i, i + m = A.ac.length + 1 → (∀ j, j < i → refC A lv (itR A lv j) ≠ itR A lv j) → ∃ i, i ≤ A.ac.length ∧ clsA A lv = itR A lv i ∧ refC A lv (itR A lv i) = itR A lv i := by
    intro m
    induction m with
    | zero =>
      intro i hi h
      have := itR_stop A lv (i - 1) (fun j hj => h j (by omega))
      omega
    | succ m ih =>
      intro i hi h
      by_cases e : refC A lv (itR A lv i) = itR A lv i
      · exact ⟨i, by omega, clsA_at A lv i (by omega) h e, e⟩
      · exact ih (i + 1) (by omega) (fun j hj => by
          by_cases e2 : j = i
          · subst e2; exact e
          · exact h j (by omega))
  exact key (A.ac.length + 1) 0 (by omega) (fun j hj => by omega)
theorem clsA_fix (A : Aut) (lv : Nat → Bool) : refC A lv (clsA A lv) = clsA A lv := by
  obtain ⟨i, _, h1, h2⟩ := clsA_ex A lv
  rw [h1]; exact h2
theorem clsA_length (A : Aut) (lv : Nat → Bool) : (clsA A lv).length = A.ac.length := by
  obtain ⟨i, _, h1, _⟩ := clsA_ex A lv
  rw [h1]; exact itR_length A lv i
theorem clsA_cut (A : Aut) (lv : Nat → Bool) (s : Nat) (h : s < A.ac.length) : clC (clsA A lv) (s : Int) = cutN lv (sigC A.nx (clsA A lv)) s := by
  have := refC_at A lv (clsA A lv) s h
  rw [clsA_fix] at this
  exact this
theorem clsA_range (A : Aut) (lv : Nat → Bool) (s : Nat) (h : s < A.ac.length) : -1 ≤ clC (clsA A lv) (s : Int) ∧ clC (clsA A lv) (s : Int) < (A.ac.length : Int) := by
  rw [clsA_cut A lv s h]; exact cutN_range h
theorem clsA_live (A : Aut) (lv : Nat → Bool) (s : Nat) (h : s < A.ac.length) : clC (clsA A lv) (s : Int) < 0 ↔ lv s = false := by
  rw [clsA_cut A lv s h]; exact cutN_neg
/-- States of one class have classes behind them that are the same. -/
theorem clsA_same (A : Aut) (lv : Nat → Bool) {s t : Nat} (hs : s < A.ac.length) (ht : t < A.ac.length) (hls : lv s = true) (hlt : lv t = true) (e : clC (clsA A lv) (s : Int) = clC (clsA A lv) (t : Int)) (k : Nat) (hk : k < 9) : sgC A.nx (clsA A lv) (s : Int) k = sgC A.nx (clsA A lv) (t : Int) k := by
  rw [clsA_cut A lv s hs, clsA_cut A lv t ht] at e
  exact sigC_step ((cutN_eq hls hlt hs ht).1 e) k hk
theorem itR_ini (A : Aut) (lv : Nat → Bool) {s t : Nat} (hs : s < A.ac.length) (ht : t < A.ac.length) (hls : lv s = true) (hlt : lv t = true) : ∀ i, clC (itR A lv i) (s : Int) = clC (itR A lv i) (t : Int) → clC (iniC A lv) (s : Int) = clC (iniC A lv) (t : Int)
  | 0, h => h
  | i + 1, h => by
    rw [show itR A lv (i + 1) = refC A lv (itR A lv i) from rfl, refC_at _ _ _ _ hs, refC_at _ _ _ _ ht] at h
    exact itR_ini A lv hs ht hls hlt i (sigC_head ((cutN_eq hls hlt hs ht).1 h))
/-- .. and accept alike. -/
theorem clsA_acc (A : Aut) (lv : Nat → Bool) {s t : Nat} (hs : s < A.ac.length) (ht : t < A.ac.length) (hls : lv s = true) (hlt : lv t = true) (e : clC (clsA A lv) (s : Int) = clC (clsA A lv) (t : Int)) : at0 A.ac s = at0 A.ac t := by
  obtain ⟨i, _, h1, _⟩ := clsA_ex A lv
  rw [h1] at e
  have := itR_ini A lv hs ht hls hlt i e
  rw [iniC_at A lv s hs, iniC_at A lv t ht, hls, hlt] at this
  cases h2 : at0 A.ac s <;> cases h3 : at0 A.ac t <;> simp [h2, h3] at this ⊢
end Go.Proofs.Ytcokggjekleabaa
