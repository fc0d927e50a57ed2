/- Rows and arrays of counts. -/
import Derived.Test.YtblmiocjhbpklaaDoorPm
import Derived.Laws.Rows
import Derived.Laws.Tables
namespace Go.Proofs.YtblmiocjhbpklaaDoor
set_option maxRecDepth 100000
open Go.ChangeShapes Go.WideShapes Go.ChangeAt Go.RowKit
set_option linter.unusedVariables false
set_option linter.unusedSimpArgs false

/-- The row of the first n values of a function. -/
def cntR (c : Nat → Nat) (n : Nat) : List Int := (List.range n).map fun k => ((c k : Nat) : Int)
theorem cntR_len (c : Nat → Nat) (n : Nat) : (cntR c n).length = n := by simp [cntR]
theorem cntR_at (c : Nat → Nat) (n k : Nat) (h : k < n) : (cntR c n)[k]'(by rw [cntR_len]; exact h) = ((c k : Nat) : Int) := by simp [cntR]
theorem cntR_set (c d : Nat → Nat) (n k : Nat) (h : ∀ j, j ≠ k → d j = c j) : (cntR c n).set k ((d k : Nat) : Int) = cntR d n := by
  refine List.ext_getElem (by simp [cntR_len]) fun i h1 h2 => ?_
  rw [List.length_set, cntR_len] at h1
  rw [List.getElem_set, cntR_at d n i h1]
  split
  · rename_i e; rw [e]
  · rename_i e; rw [cntR_at c n i h1, h i (fun e2 => e e2.symm)]
theorem cntR_zero (n : Nat) : cntR (fun _ => 0) n = List.replicate n 0 := by
  refine List.ext_getElem (by simp [cntR_len]) fun i h1 h2 => ?_
  rw [cntR_len] at h1
  rw [cntR_at _ n i h1]; simp
/-- Where a round stands: below k the state s is counted in, from k on it is not. -/
def mixC (p : Psn) (c : Nat → Nat) (l : Int) (s k j : Nat) : Nat := if j < k then cntK p c l j (s + 1) else cntK p c l j s
theorem mixC_zero (p : Psn) (c : Nat → Nat) (l : Int) (s : Nat) : mixC p c l s 0 = fun j => cntK p c l j s := by funext j; simp [mixC]
theorem mixC_at (p : Psn) (c : Nat → Nat) (l : Int) (s k : Nat) : mixC p c l s k k = cntK p c l k s := by simp [mixC]
theorem mixC_next (p : Psn) (c : Nat → Nat) (l : Int) (s k : Nat) : mixC p c l s (k + 1) k = cntK p c l k (s + 1) := by simp [mixC]
theorem mixC_else (p : Psn) (c : Nat → Nat) (l : Int) (s k j : Nat) (h : j ≠ k) : mixC p c l s (k + 1) j = mixC p c l s k j := by
  unfold mixC
  by_cases e : j < k
  · rw [if_pos e, if_pos (by omega)]
  · rw [if_neg e, if_neg (by omega)]
theorem mixC_skip (p : Psn) (c : Nat → Nat) (l : Int) (s k : Nat) (h : cntK p c l k (s + 1) = cntK p c l k s) : mixC p c l s (k + 1) = mixC p c l s k := by
  funext j
  by_cases e : j = k
  · subst e; rw [mixC_next, mixC_at, h]
  · exact mixC_else p c l s k j e
theorem mixC_le (p : Psn) (c : Nat → Nat) (l : Int) (s k j : Nat) : mixC p c l s k j ≤ 1000000 := by
  unfold mixC; split <;> exact cntK_le ..
/-- A round in which no run stands counts nothing. -/
theorem mixC_none (p : Psn) (c : Nat → Nat) (l : Int) (s : Nat) (h : ¬ 0 < c s) : (fun j => cntK p c l j (s + 1)) = fun j => cntK p c l j s := by
  funext j; exact cntK_pos p c l j s h
theorem mixC_end (p : Psn) (c : Nat → Nat) (l : Int) (s n : Nat) : cntR (mixC p c l s n) n = cntR (fun j => cntK p c l j (s + 1)) n := by
  unfold cntR
  refine List.map_congr_left fun j hj => ?_
  rw [List.mem_range] at hj
  unfold mixC; rw [if_pos hj]
theorem cntK_bit (p : Psn) (c : Nat → Nat) (l : Int) (k s : Nat) : cntK p c l k (s + 1) = if (aft p (2 ^ s) l).testBit k = true then min 1000000 (cntK p c l k s + c s) else cntK p c l k s := rfl
theorem cntR_in (c : Nat → Nat) (n : Nat) (h : ∀ k, c k ≤ 1000000) : ∀ x ∈ cntR c n, InI x := by
  intro x hx
  unfold cntR at hx
  obtain ⟨k, _, rfl⟩ := List.mem_map.1 hx
  have := h k
  unfold InI; omega
theorem c0C_row (n : Nat) : (cntR (fun _ => 0) n).set 0 1 = cntR c0C n := by
  have := cntR_set (fun _ => 0) c0C n 0 (fun j hj => by unfold c0C; rw [if_neg hj])
  simpa [c0C] using this
theorem pow_two_lt {p : Psn} (h : posB p = true) {s : Nat} (hs : s ≤ 21) : 2 ^ s < 4194305 := by
  have : 2 ^ s ≤ 2 ^ 21 := Nat.pow_le_pow_right (by decide) hs
  omega
theorem sumK_bit (p : Psn) (c : Nat → Nat) (s : Nat) : sumK p c (s + 1) = if accN p (2 ^ s) = true then min 1000000 (sumK p c s + c s) else sumK p c s := rfl
theorem own_set {base g N c : Nat} {w : World} {xs : List Int} (h : Own base w (.slice (some ⟨g, 0, none⟩) N c) xs) (hN : xs.length = N) (k : Nat) (x : Int) (hx : InI x) :
    Own base (w.setCell ⟨g, k, none⟩ (.int .i64 x)) (.slice (some ⟨g, 0, none⟩) N c) (xs.set k x) := by
  subst hN
  refine ⟨fun u hu => ?_, ?_⟩
  · rcases List.mem_or_eq_of_mem_set hu with h1 | h1
    · exact h.1 u h1
    · rw [h1]; exact hx
  · rw [List.length_set, List.map_set]
    exact (h.2.stored k (.int .i64 x)).1
theorem own_cell {base g N c : Nat} {w : World} {xs : List Int} (h : Own base w (.slice (some ⟨g, 0, none⟩) N c) xs) (hN : xs.length = N) (k : Nat) (hk : k < xs.length) : w.cell? ⟨g, k, none⟩ = some (.int .i64 xs[k]) := by
  subst hN
  have := h.2.cellAt k (by simpa using hk)
  rw [this, List.getElem?_map, List.getElem?_eq_getElem hk]; rfl
theorem own_cntR {base g M c : Nat} {w : World} {f : Nat → Nat} (h : Own base w (.slice (some ⟨g, 0, none⟩) M c) (cntR f M)) (k : Nat) (hk : k < M) : w.cell? ⟨g, k, none⟩ = some (.int .i64 ((f k : Nat) : Int)) := by
  have := own_cell h (cntR_len f M) k (by rw [cntR_len]; exact hk)
  rw [cntR_at f M k hk] at this
  exact this
theorem own_frozR {base g M c : Nat} {w : World} {f : Nat → Nat} (h : Own base w (.slice (some ⟨g, 0, none⟩) M c) (cntR f M)) (k : Nat) : w.frozen? ⟨g, k, none⟩ = false := by
  have h2 := h.2
  rw [cntR_len] at h2
  exact h2.frozenAt k
/-- A row made of zeros. -/
theorem own_made {base : Nat} {w2 : World} {v : Value} {n : Nat} (hown : w2.ownsRow base 3 1 v n (madeCells (Value.int IntKind.i64 0).cells (n * 1)).toList) : Own base w2 v (cntR (fun _ => 0) n) := by
  refine ⟨cntR_in _ _ (fun _ => by omega), ?_⟩
  rw [made_ints] at hown
  rw [cntR_len, cntR_zero, List.map_replicate]
  exact hown
theorem min_if (a b : Nat) : ((min 1000000 (a + b) : Nat) : Int) = if (a : Int) + (b : Int) < 1000000 then (a : Int) + (b : Int) else 1000000 := by
  split <;> omega
theorem min_if2 (a b : Nat) : ((min 1000000 (a + b) : Nat) : Int) = if 1000000 < (a : Int) + (b : Int) then 1000000 else (a : Int) + (b : Int) := by
  split <;> omega
end Go.Proofs.YtblmiocjhbpklaaDoor
