/- Sets of small numbers as ascending lists: what NodesAfter answers. -/
import Derived.Test.YtpmkpeclfhmhlaaK3
import Derived.Lib.SlicesCompact
namespace Go.Proofs.Ytpmkpeclfhmhlaa
set_option maxRecDepth 100000
open Go.ChangeShapes Go.WideShapes Go.ChangeAt Go.RowKit
set_option linter.unusedVariables false

/-- Which of 0, .., 29 occur, ascending. -/
def setL (zs : List Int) : List Int := ((List.range 30).filter (fun i : Nat => decide ((i : Int) ∈ zs))).map (fun (i : Nat) => (i : Int))
theorem asc_unique : ∀ {xs ys : List Int}, xs.Pairwise (· < ·) → ys.Pairwise (· < ·) → (∀ x, x ∈ xs ↔ x ∈ ys) → xs = ys
  | [], [], _, _, _ => rfl
  | [], y :: ys, _, _, h => absurd ((h y).2 (List.mem_cons_self ..)) (by simp)
  | x :: xs, [], _, _, h => absurd ((h x).1 (List.mem_cons_self ..)) (by simp)
  | x :: xs, y :: ys, hx, hy, h => by
    have hxs : ∀ z ∈ xs, x < z := fun z hz => List.rel_of_pairwise_cons hx hz
    have hys : ∀ z ∈ ys, y < z := fun z hz => List.rel_of_pairwise_cons hy hz
    have e : x = y := by
      rcases List.mem_cons.1 ((h x).1 (List.mem_cons_self ..)) with e | e
      · exact e
      · rcases List.mem_cons.1 ((h y).2 (List.mem_cons_self ..)) with e2 | e2
        · exact e2.symm
        · have := hys x e; have := hxs y e2; omega
    subst e
    congr 1
    refine asc_unique (List.Pairwise.of_cons hx) (List.Pairwise.of_cons hy) (fun z => ⟨fun hz => ?_, fun hz => ?_⟩)
    · rcases List.mem_cons.1 ((h z).1 (List.mem_cons_of_mem _ hz)) with e | e
      · have := hxs z hz; omega
      · exact e
    · rcases List.mem_cons.1 ((h z).2 (List.mem_cons_of_mem _ hz)) with e | e
      · have := hys z hz; omega
      · exact e
theorem setL_asc (zs : List Int) : (setL zs).Pairwise (· < ·) := by
  unfold setL
  refine List.Pairwise.map _ (R := (· < ·)) (fun a b h => by omega) ?_
  exact List.Pairwise.filter _ (List.pairwise_lt_range)
theorem setL_mem (zs : List Int) (x : Int) : x ∈ setL zs ↔ (x ∈ zs ∧ 0 ≤ x ∧ x < 30) := by
  unfold setL
  simp only [List.mem_map, List.mem_filter, List.mem_range, decide_eq_true_eq]
  constructor
  · rintro ⟨i, ⟨h1, h2⟩, rfl⟩; exact ⟨h2, by omega, by omega⟩
  · rintro ⟨h1, h2, h3⟩
    exact ⟨x.toNat, ⟨by omega, by rw [Int.toNat_of_nonneg h2]; exact h1⟩, Int.toNat_of_nonneg h2⟩
theorem setL_congr {xs ys : List Int} (h : ∀ x, x ∈ xs ↔ x ∈ ys) : setL xs = setL ys :=
  asc_unique (setL_asc _) (setL_asc _) (fun x => by rw [setL_mem, setL_mem, h])
theorem setL_len (zs : List Int) : (setL zs).length ≤ 30 := by
  unfold setL; rw [List.length_map]
  exact Nat.le_trans (List.length_filter_le _ _) (by simp)
section
open Go.Lib
theorem compact_get (d : Array Int) (m : Nat) (x : Int) : x ∈ compactUpTo d m ↔ ∃ j, j < m ∧ keeps d j = true ∧ d[j]! = x := by
  unfold compactUpTo
  simp only [List.mem_map, List.mem_filter, List.mem_range]
  constructor
  · rintro ⟨j, ⟨a, b⟩, c⟩; exact ⟨j, a, b, c⟩
  · rintro ⟨j, a, b, c⟩; exact ⟨j, ⟨a, b⟩, c⟩
theorem sorted_get {zs : List Int} (hs : zs.Pairwise (· ≤ ·)) {i j : Nat} (hij : i ≤ j) (hj : j < zs.length) : zs.toArray[i]! ≤ zs.toArray[j]! := by
  have hi : i < zs.length := by omega
  rw [getElem!_pos zs.toArray i (by simpa using hi), getElem!_pos zs.toArray j (by simpa using hj)]
  simp only [List.getElem_toArray]
  by_cases e : i = j
  · subst e; exact Int.le_refl _
  · exact List.pairwise_iff_getElem.1 hs i j hi hj (by omega)
theorem compact_asc {zs : List Int} (hs : zs.Pairwise (· ≤ ·)) : (compact zs).Pairwise (· < ·) := by
  unfold compact compactUpTo
  rw [List.pairwise_map]
  have hr : ((List.range zs.length).filter (keeps zs.toArray)).Pairwise (· < ·) := List.Pairwise.filter _ List.pairwise_lt_range
  refine hr.imp_of_mem ?_
  intro i j hi hj hij
  have hj' := List.mem_filter.1 hj
  have hjl : j < zs.length := List.mem_range.1 hj'.1
  have hk := hj'.2
  unfold keeps at hk
  simp only [decide_eq_true_eq] at hk
  rcases hk with h0 | h0
  · omega
  · have h1 := sorted_get hs (i := i) (j := j - 1) (by omega) (by omega)
    have h2 := sorted_get hs (i := j - 1) (j := j) (by omega) hjl
    show zs.toArray[i]! < zs.toArray[j]!
    omega
theorem compact_mem (zs : List Int) (x : Int) : x ∈ compact zs ↔ x ∈ zs := by
  have hget : ∀ j, j < zs.length → ∃ i, i < zs.length ∧ keeps zs.toArray i = true ∧ zs.toArray[i]! = zs.toArray[j]! := by
    intro j
    induction j with
    | zero => intro h; exact ⟨0, h, by simp [keeps], rfl⟩
    | succ j ih =>
      intro h
      by_cases hk : keeps zs.toArray (j + 1) = true
      · exact ⟨j + 1, h, hk, rfl⟩
      · obtain ⟨i, a, b, c⟩ := ih (by omega)
        refine ⟨i, a, b, c.trans ?_⟩
        unfold keeps at hk
        simp only [decide_eq_true_eq, not_or, Decidable.not_not] at hk
        exact hk.2.symm
  unfold compact
  rw [compact_get]
  constructor
  · rintro ⟨j, hj, _, rfl⟩
    rw [getElem!_pos zs.toArray j (by simpa using hj)]
    simp
  · intro hx
    obtain ⟨j, hj, rfl⟩ := List.getElem_of_mem hx
    obtain ⟨i, a, b, c⟩ := hget j hj
    refine ⟨i, a, b, c.trans ?_⟩
    rw [getElem!_pos zs.toArray j (by simpa using hj)]
    simp
theorem compact_sort (zs : List Int) (h : ∀ x ∈ zs, 0 ≤ x ∧ x < 30) : compact (zs.mergeSort fun x y => decide (x ≤ y)) = setL zs := by
  have hp : (zs.mergeSort fun x y => decide (x ≤ y)).Pairwise (· ≤ ·) := by
    have := List.pairwise_mergeSort (le := fun (x y : Int) => decide (x ≤ y)) (fun a b c h1 h2 => by simp at *; omega) (fun a b => by simp; omega) zs
    exact this.imp (fun h => by simpa using h)
  refine asc_unique (compact_asc hp) (setL_asc zs) (fun x => ?_)
  rw [compact_mem, setL_mem, (List.mergeSort_perm zs _).mem_iff]
  exact ⟨fun hx => ⟨hx, h x hx⟩, fun hx => hx.1⟩
theorem compact_le (zs : List Int) : (compact zs).length ≤ zs.length := by
  unfold compact compactUpTo
  rw [List.length_map]
  exact Nat.le_trans (List.length_filter_le _ _) (by simp)
end
/-- The nodes at which these steps end. -/
def endsL (g : Grf) (x y : Int) : List Int := (((travG g).filter (kpF x)).filter (kpW y)).map Trv.dst
theorem endsL_len (g : Grf) (x y : Int) (h2 : g.es.length ≤ 1048577) : (endsL g x y).length ≤ 2097154 := by
  unfold endsL; rw [List.length_map]
  exact Nat.le_trans (List.length_filter_le _ _) (Nat.le_trans (List.length_filter_le _ _) (travG_len g h2))
theorem travG_dst {g : Grf} {t : Trv} (h : t ∈ travG g) : 0 ≤ t.dst ∧ t.dst < 5 := by
  rcases Bool.eq_false_or_eq_true (validB g) with hv | hv
  · unfold travG at h
    rw [if_pos hv] at h
    unfold travL at h
    obtain ⟨e, he, ht⟩ := List.mem_flatMap.1 h
    have hok := ((validB_iff g).1 hv)
    have h1 := hok.2.2.1 e he
    have h2 := hok.1
    unfold EdOk at h1
    simp [both] at ht
    rcases ht with rfl | rfl
    · show 0 ≤ e.to ∧ e.to < 5; omega
    · show 0 ≤ e.fr ∧ e.fr < 5; omega
  · unfold travG at h
    rw [if_neg (by rw [hv]; decide)] at h
    simp at h
theorem endsL_small (g : Grf) (x y : Int) : ∀ z ∈ endsL g x y, 0 ≤ z ∧ z < 5 := by
  intro z hz
  unfold endsL at hz
  obtain ⟨t, ht, rfl⟩ := List.mem_map.1 hz
  exact travG_dst (List.mem_filter.1 (List.mem_filter.1 ht).1).1
end Go.Proofs.Ytpmkpeclfhmhlaa
