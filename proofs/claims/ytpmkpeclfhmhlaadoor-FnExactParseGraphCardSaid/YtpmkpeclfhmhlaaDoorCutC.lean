/- A list of bytes cut at each colon (XCut.src, turned by program). -/
import Derived.Lib.Split
import Derived.Lib.IndexBytes
import Derived.Lib.IndexLaws
import Derived.Test.YtpmkpeclfhmhlaaDoorK0
namespace Go.Proofs.YtpmkpeclfhmhlaaDoor
set_option maxRecDepth 100000

def cutCL : List UInt8 → List (List UInt8)
  | [] => [[]]
  | c :: l => if c = 58 then [] :: cutCL l else match cutCL l with
    | p :: r => (c :: p) :: r
    | [] => [[c]]
theorem cutCL_ne (l : List UInt8) : cutCL l ≠ [] := by
  cases l with
  | nil => simp [cutCL]
  | cons c l =>
    unfold cutCL
    split
    · simp
    · split <;> simp
theorem cutCL_pos (l : List UInt8) : 1 ≤ (cutCL l).length := by
  have := cutCL_ne l
  cases h : cutCL l with
  | nil => exact absurd h this
  | cons => simp
theorem cutCL_none {l : List UInt8} (h : (58 : UInt8) ∉ l) : cutCL l = [l] := by
  induction l with
  | nil => rfl
  | cons c l ih =>
    simp only [List.mem_cons, not_or] at h
    rw [cutCL, if_neg (fun e => h.1 e.symm), ih h.2]
theorem cutCL_app {a : List UInt8} (b : List UInt8) (h : (58 : UInt8) ∉ a) : cutCL (a ++ 58 :: b) = a :: cutCL b := by
  induction a with
  | nil => rw [List.nil_append, cutCL, if_pos rfl]
  | cons c a ih =>
    simp only [List.mem_cons, not_or] at h
    rw [List.cons_append, cutCL, if_neg (fun e => h.1 e.symm), ih h.2]
theorem cutCL_length_le (l : List UInt8) : (cutCL l).length ≤ l.length + 1 := by
  induction l with
  | nil => simp [cutCL]
  | cons c l ih =>
    rw [cutCL]
    split
    · simp; omega
    · split
      · rename_i p r hp; rw [hp] at ih; simp at ih ⊢; omega
      · simp
theorem index58_miss {l : List UInt8} (h : Lib.index l [58] = -1) : (58 : UInt8) ∉ l := by
  rw [Lib.index_one] at h
  intro hm
  obtain ⟨k, hk⟩ := List.getElem?_of_mem hm
  exact Lib.indexByte_none h k hk
theorem index58_hit {l : List UInt8} {i : Nat} (h : Lib.index l [58] = (i : Int)) : l = l.take i ++ 58 :: l.drop (i + 1) ∧ (58 : UInt8) ∉ l.take i := by
  rw [Lib.index_one] at h
  obtain ⟨h1, h2⟩ := Lib.indexByte_some h
  obtain ⟨hi, he⟩ := List.getElem?_eq_some_iff.1 h1
  constructor
  · conv => lhs; rw [← List.take_append_drop i l]
    rw [List.drop_eq_getElem_cons hi, he]
  · intro hm
    obtain ⟨k, hk⟩ := List.getElem?_of_mem hm
    rw [List.getElem?_take] at hk
    split at hk
    · rename_i hlt; exact h2 k hlt hk
    · cases hk
def cutCB (s : ByteArray) : List ByteArray := (cutCL s.data.toList).map fun p => ⟨p.toArray⟩
theorem cutCB_length (s : ByteArray) : (cutCB s).length = (cutCL s.data.toList).length := by simp [cutCB]
/-- The scan: from place f on no space up to i; at i a space, or the end. -/
theorem cutC_scan {l : List UInt8} {f i : Nat} (h : ∀ j, f ≤ j → j < i → l[j]? ≠ some 58) (_hf : f ≤ i) : (58 : UInt8) ∉ (l.take i).drop f := by
  intro hm
  obtain ⟨k, hk⟩ := List.getElem?_of_mem hm
  rw [List.getElem?_drop, List.getElem?_take] at hk
  split at hk
  · rename_i hlt; exact h (f + k) (by omega) hlt hk
  · cases hk
theorem cutC_at {l : List UInt8} {f i : Nat} (h : ∀ j, f ≤ j → j < i → l[j]? ≠ some 58) (hf : f ≤ i) (hi : l[i]? = some 58) : cutCL (l.drop f) = (l.take i).drop f :: cutCL (l.drop (i + 1)) := by
  obtain ⟨hl, he⟩ := List.getElem?_eq_some_iff.1 hi
  have e : l.drop f = (l.take i).drop f ++ 58 :: l.drop (i + 1) := by
    conv => lhs; rw [← List.take_append_drop i l, List.drop_append_of_le_length (by rw [List.length_take]; omega)]
    rw [List.drop_eq_getElem_cons hl, he]
  rw [e, cutCL_app _ (cutC_scan h hf)]
theorem cutC_end {l : List UInt8} {f : Nat} (h : ∀ j, f ≤ j → j < l.length → l[j]? ≠ some 58) (hf : f ≤ l.length) : cutCL (l.drop f) = [l.drop f] := by
  have := cutC_scan h hf
  rw [List.take_length] at this
  exact cutCL_none this
theorem cutCL_part_le (l : List UInt8) : ∀ p ∈ cutCL l, p.length ≤ l.length := by
  induction l with
  | nil => intro p hp; simp [cutCL] at hp; subst hp; exact Nat.le_refl _
  | cons c l ih =>
    intro p hp
    rw [cutCL] at hp
    split at hp
    · rcases List.mem_cons.1 hp with rfl | hp
      · simp
      · have := ih p hp; simp; omega
    · split at hp
      · rename_i q r hq
        rw [hq] at ih
        rcases List.mem_cons.1 hp with rfl | hp
        · have := ih q (by simp); simp; omega
        · have := ih p (by simp [hp]); simp; omega
      · simp at hp; subst hp; simp
theorem cutCB_part_le (s : ByteArray) : ∀ p ∈ cutCB s, p.size ≤ s.size := by
  intro p hp
  obtain ⟨q, hq, rfl⟩ := List.mem_map.1 hp
  exact cutCL_part_le _ q hq
end Go.Proofs.YtpmkpeclfhmhlaaDoor
