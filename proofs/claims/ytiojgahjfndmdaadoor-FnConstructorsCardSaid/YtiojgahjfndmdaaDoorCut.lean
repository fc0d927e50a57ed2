/- A list of bytes cut at each space; and as the library's SplitN cuts it. -/
import Derived.Lib.Split
import Derived.Lib.IndexBytes
import Derived.Lib.IndexLaws
import Derived.Test.YtiojgahjfndmdaaDoorK0
namespace Go.Proofs.YtiojgahjfndmdaaDoor
set_option maxRecDepth 100000

def cutL : List UInt8 → List (List UInt8)
  | [] => [[]]
  | c :: l => if c = 32 then [] :: cutL l else match cutL l with
    | p :: r => (c :: p) :: r
    | [] => [[c]]
theorem cutL_ne (l : List UInt8) : cutL l ≠ [] := by
  cases l with
  | nil => simp [cutL]
  | cons c l =>
    unfold cutL
    split
    · simp
    · split <;> simp
theorem cutL_pos (l : List UInt8) : 1 ≤ (cutL l).length := by
  have := cutL_ne l
  cases h : cutL l with
  | nil => exact absurd h this
  | cons => simp
theorem cutL_none {l : List UInt8} (h : (32 : UInt8) ∉ l) : cutL l = [l] := by
  induction l with
  | nil => rfl
  | cons c l ih =>
    simp only [List.mem_cons, not_or] at h
    rw [cutL, if_neg (fun e => h.1 e.symm), ih h.2]
theorem cutL_app {a : List UInt8} (b : List UInt8) (h : (32 : UInt8) ∉ a) : cutL (a ++ 32 :: b) = a :: cutL b := by
  induction a with
  | nil => rw [List.nil_append, cutL, if_pos rfl]
  | cons c a ih =>
    simp only [List.mem_cons, not_or] at h
    rw [List.cons_append, cutL, if_neg (fun e => h.1 e.symm), ih h.2]
theorem cutL_length_le (l : List UInt8) : (cutL l).length ≤ l.length + 1 := by
  induction l with
  | nil => simp [cutL]
  | cons c l ih =>
    rw [cutL]
    split
    · simp; omega
    · split
      · rename_i p r hp; rw [hp] at ih; simp at ih ⊢; omega
      · simp
theorem index32_miss {l : List UInt8} (h : Lib.index l [32] = -1) : (32 : UInt8) ∉ l := by
  rw [Lib.index_one] at h
  intro hm
  obtain ⟨k, hk⟩ := List.getElem?_of_mem hm
  exact Lib.indexByte_none h k hk
theorem index32_hit {l : List UInt8} {i : Nat} (h : Lib.index l [32] = (i : Int)) : l = l.take i ++ 32 :: l.drop (i + 1) ∧ (32 : UInt8) ∉ l.take i := by
  rw [Lib.index_one] at h
  obtain ⟨h1, h2⟩ := Lib.indexByte_some h
  obtain ⟨hi, he⟩ := List.getElem?_eq_some_iff.1 h1
  constructor
  · conv => lhs; rw [← List.take_append_drop i l]
    rw [List.drop_eq_getElem_cons hi, he]
  · intro hm
    obtain ⟨k, hk⟩ := List.getElem?_of_mem hm
    rw [List.getElem?_take] at hk
    split at hk
    · rename_i hlt; exact h2 k hlt hk
    · cases hk
theorem splitK_cut (k : Nat) : ∀ l : List UInt8, ((cutL l).length ≤ k + 1 → Lib.splitK [32] 0 k l = cutL l) ∧ (k + 1 < (cutL l).length → (Lib.splitK [32] 0 k l).length = k + 1) := by
  induction k with
  | zero =>
    intro l
    refine ⟨fun h => ?_, fun h => rfl⟩
    by_cases hi : Lib.index l [32] = -1
    · rw [cutL_none (index32_miss hi)]; rfl
    · exfalso
      have hg := Lib.index_ge l [32]
      obtain ⟨i, hh⟩ : ∃ i : Nat, Lib.index l [32] = (i : Int) := ⟨(Lib.index l [32]).toNat, by omega⟩
      obtain ⟨h1, h2⟩ := index32_hit hh
      rw [h1, cutL_app _ h2] at h
      have := cutL_pos (l.drop (i + 1))
      simp at h
      exact absurd h (cutL_ne _)
  | succ k ih =>
    intro l
    by_cases hi : Lib.index l [32] = -1
    · have e : Lib.splitK [32] 0 (k + 1) l = [l] := by rw [Lib.splitK, if_pos (by simp [hi])]
      rw [e, cutL_none (index32_miss hi)]
      exact ⟨fun _ => rfl, fun h => by simp at h⟩
    · have hg := Lib.index_ge l [32]
      obtain ⟨i, hh⟩ : ∃ i : Nat, Lib.index l [32] = (i : Int) := ⟨(Lib.index l [32]).toNat, by omega⟩
      obtain ⟨h1, h2⟩ := index32_hit hh
      have e : Lib.splitK [32] 0 (k + 1) l = l.take i :: Lib.splitK [32] 0 k (l.drop (i + 1)) := by
        rw [Lib.splitK, if_neg (by simp [hi]), hh]; simp
      have e2 : cutL l = l.take i :: cutL (l.drop (i + 1)) := by conv => lhs; rw [h1, cutL_app _ h2]
      rw [e, e2]
      obtain ⟨a, b⟩ := ih (l.drop (i + 1))
      refine ⟨fun h => ?_, fun h => ?_⟩
      · rw [a (by simp at h; omega)]
      · rw [List.length_cons, b (by simp at h; omega)]

def sp : ByteArray := ⟨#[32]⟩
def cutB (s : ByteArray) : List ByteArray := (cutL s.data.toList).map fun p => ⟨p.toArray⟩
theorem cutB_length (s : ByteArray) : (cutB s).length = (cutL s.data.toList).length := by simp [cutB]
theorem map_back (l : List ByteArray) : (l.map (·.data.toList)).map (fun p => (⟨p.toArray⟩ : ByteArray)) = l := by
  rw [List.map_map]; conv => rhs; rw [← List.map_id l]
  apply List.map_congr_left; intro a _; cases a; simp
/-- SplitN(s, " ", 9) against the whole cut. -/
theorem splitB_nine (s : ByteArray) : ((cutB s).length ≤ 8 → Lib.splitB sp 0 (min 9 (s.size + 1) - 1) s = cutB s) ∧ (8 < (cutB s).length → 8 < (Lib.splitB sp 0 (min 9 (s.size + 1) - 1) s).length) := by
  obtain ⟨k, hk⟩ : ∃ k, k = min 9 (s.size + 1) - 1 := ⟨_, rfl⟩
  rw [← hk]
  have hd := Lib.splitB_data sp 0 k s
  have hz : s.size = s.data.toList.length := rfl
  obtain ⟨a, b⟩ := splitK_cut k s.data.toList
  have hle := cutL_length_le s.data.toList
  have hlen : (Lib.splitB sp 0 k s).length = (Lib.splitK [32] 0 k s.data.toList).length := by
    have := congrArg List.length hd; rw [List.length_map] at this; exact this
  rw [cutB_length]
  refine ⟨fun h => ?_, fun h => ?_⟩
  · have a := a (by omega)
    rw [show sp.data.toList = [32] from rfl, a] at hd
    rw [← map_back (Lib.splitB sp 0 k s), hd]; rfl
  · rw [hlen]
    by_cases h9 : (cutL s.data.toList).length ≤ k + 1
    · rw [a h9]; omega
    · rw [b (by omega)]; omega
/-- The scan: from place f on no space up to i; at i a space, or the end. -/
theorem cut_scan {l : List UInt8} {f i : Nat} (h : ∀ j, f ≤ j → j < i → l[j]? ≠ some 32) (_hf : f ≤ i) : (32 : UInt8) ∉ (l.take i).drop f := by
  intro hm
  obtain ⟨k, hk⟩ := List.getElem?_of_mem hm
  rw [List.getElem?_drop, List.getElem?_take] at hk
  split at hk
  · rename_i hlt; exact h (f + k) (by omega) hlt hk
  · cases hk
theorem cut_at {l : List UInt8} {f i : Nat} (h : ∀ j, f ≤ j → j < i → l[j]? ≠ some 32) (hf : f ≤ i) (hi : l[i]? = some 32) : cutL (l.drop f) = (l.take i).drop f :: cutL (l.drop (i + 1)) := by
  obtain ⟨hl, he⟩ := List.getElem?_eq_some_iff.1 hi
  have e : l.drop f = (l.take i).drop f ++ 32 :: l.drop (i + 1) := by
    conv => lhs; rw [← List.take_append_drop i l, List.drop_append_of_le_length (by rw [List.length_take]; omega)]
    rw [List.drop_eq_getElem_cons hl, he]
  rw [e, cutL_app _ (cut_scan h hf)]
theorem cut_end {l : List UInt8} {f : Nat} (h : ∀ j, f ≤ j → j < l.length → l[j]? ≠ some 32) (hf : f ≤ l.length) : cutL (l.drop f) = [l.drop f] := by
  have := cut_scan h hf
  rw [List.take_length] at this
  exact cutL_none this
theorem cutL_part_le (l : List UInt8) : ∀ p ∈ cutL l, p.length ≤ l.length := by
  induction l with
  | nil => intro p hp; simp [cutL] at hp; subst hp; exact Nat.le_refl _
  | cons c l ih =>
    intro p hp
    rw [cutL] at hp
    split at hp
    · rcases List.mem_cons.1 hp with rfl | hp
      · simp
      · have := ih p hp; simp; omega
    · split at hp
      · rename_i q r hq
        rw [hq] at ih
        rcases List.mem_cons.1 hp with rfl | hp
        · have := ih q (by simp); simp; omega
        · have := ih p (by simp [hp]); simp; omega
      · simp at hp; subst hp; simp
theorem cutB_part_le (s : ByteArray) : ∀ p ∈ cutB s, p.size ≤ s.size := by
  intro p hp
  obtain ⟨q, hq, rfl⟩ := List.mem_map.1 hp
  exact cutL_part_le _ q hq
end Go.Proofs.YtiojgahjfndmdaaDoor
