/- slices.Sort and slices.Compact of ints of the call's own. -/
import Derived.Test.YtpmkpeclfhmhlaaNaM
import Derived.Test.YtpmkpeclfhmhlaaShelf
import Derived.Lib.OwnBridge
import Derived.Sort.OwnSortedInts
namespace Go.Proofs.Ytpmkpeclfhmhlaa
set_option maxRecDepth 100000
open Go.ChangeShapes Go.WideShapes Go.ChangeAt Go.RowKit Go.Sort Go.Lib
set_option linter.unusedVariables false

theorem own_holds {base : Nat} {w : World} {v : Value} {zs : List Int} (h : Own base w v zs) : (v = .slice none 0 0 ∧ zs = []) ∨ ∃ g cap cur, v = .slice (some ⟨g, 0, none⟩) zs.length cap ∧ base ≤ g ∧ g < w.heap.size ∧ zs.length ≤ cap ∧ cap ≤ maxLen ∧ cur.size = cap * 1 ∧ w.heap[g]? = some (.cells cur 3 (0, 0)) ∧ Holds (Value.int .i64) w g 0 zs.toArray := by
  rcases h.2.2 with ⟨hv, hn⟩ | ⟨g, cap, cur, rfl, hb, hg, hnc, hcm, hcs, hct⟩
  · exact .inl ⟨hv, List.eq_nil_of_length_eq_zero hn⟩
  · exact .inr ⟨g, cap, cur, rfl, hb, heap_lt hg, hnc, hcm, hcs, hg, holds_of_blockI hg (by rw [Nat.mul_one] at hct; exact hct)⟩
def SortOut (base : Nat) (w : World) (v : Value) (zs : List Int) (e : Ending) (w' : World) : Prop := e = .returned (.tuple #[]) ∧ Own base w' v zs ∧ w.grownBy w' v.ownBlock
theorem sort_any (base : Nat) (v : Value) (zs : List Int) (w : World) (h : Own base w v zs) (hl : zs.length < 4611686018427387904) :
    Calls Try.prog 75 #[v] w (SortOut base w v (zs.mergeSort fun x y => decide (x ≤ y))) := by
  have hin : ∀ x ∈ (zs.mergeSort fun x y => decide (x ≤ y)), InI x := fun x hx => h.1 x ((List.mergeSort_perm zs _).mem_iff.1 hx)
  rcases own_holds h with ⟨rfl, rfl⟩ | ⟨g, cap, cur, rfl, hb, hg, hnc, hcm, hcs, hgc, hH⟩
  · refine (Try.slices_Sort_int_none none 0 w).mono ?_
    rintro e w' ⟨rfl, rfl⟩
    exact ⟨rfl, by simpa using h, ⟨rfl, rfl, rfl, Nat.le_refl _, fun _ _ _ => rfl⟩⟩
  · refine (Try.slices_Sort_int g 0 cap zs w hH hg hl).mono ?_
    rintro e w' ⟨rfl, n, os, rfl⟩
    have hml : (zs.mergeSort fun x y => decide (x ≤ y)).length = zs.length := List.length_mergeSort zs
    refine ⟨rfl, ⟨hin, ?_⟩, grownBy_sortedI _⟩
    rw [hml]
    exact ownsRow_sortedI hml hb hgc hnc hcm hcs
def CompOut (base : Nat) (w : World) (zs : List Int) (e : Ending) (w' : World) : Prop := ∃ v', e = .returned v' ∧ Own base w' v' zs ∧ Below base w w'
theorem compact_any (base : Nat) (v : Value) (zs : List Int) (w : World) (h : Own base w v zs) (hl : zs.length ≤ 4194304) :
    Calls Try.prog 76 #[v] w (CompOut base w (compact zs)) := by
  have hin : ∀ x ∈ compact zs, InI x := fun x hx => h.1 x ((compact_mem zs x).1 hx)
  have hle := compact_le zs
  rcases own_holds h with ⟨rfl, rfl⟩ | ⟨g, cap, cur, rfl, hb, hg, hnc, hcm, hcs, hgc, hH⟩
  · refine (Try.slices_Compact_int_empty none 0 w).mono ?_
    rintro e w' ⟨rfl, rfl⟩
    exact ⟨_, rfl, h, Below.refl _ _⟩
  · refine (Try.slices_Compact_int g 0 cap zs w hH (by omega) hnc).mono ?_
    rintro e w' ⟨rfl, q, rfl⟩
    have hy : (compact zs ++ List.replicate (zs.length - (compact zs).length) 0).length = zs.length := by rw [List.length_append, List.length_replicate]; omega
    have hr := ownsRow_putRow (enc := Value.int .i64) (q := q) (k := (compact zs).length) h.2 hy hle
    rw [List.take_left] at hr
    exact ⟨_, rfl, ⟨hin, hr⟩, below_putRow (Below.refl _ _) hb⟩
end Go.Proofs.Ytpmkpeclfhmhlaa
