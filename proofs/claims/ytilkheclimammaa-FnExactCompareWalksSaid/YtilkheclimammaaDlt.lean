/- slices.Delete of one edge, in place. -/
import Derived.Test.YtilkheclimammaaDel
import Derived.Test.YtilkheclimammaaGB
import Derived.Deep.RegionLaw
import Derived.Lib.SliceRun
namespace Go.Proofs.Ytilkheclimammaa
set_option maxRecDepth 100000
open Go.ChangeShapes Go.WideShapes Go.ChangeAt Go.RowKit
set_option linter.unusedVariables false
set_option linter.unusedSimpArgs false

/-- Cells of a block written one after the other. -/
theorem Blk.sets {g : Nat} {t : TypeId} : ∀ (vs : List Value) (o : Nat) (w : World) (cur : Array Value), Blk w g t cur → ∃ cur', Blk (w.setCells g o vs) g t cur' ∧ cur'.size = cur.size ∧
    (∀ j, j < o ∨ o + vs.length ≤ j → cur'[j]? = cur[j]?) ∧ (∀ j, j < vs.length → o + j < cur.size → cur'[o + j]? = vs[j]?)
  | [], o, w, cur, h => ⟨cur, h, rfl, fun _ _ => rfl, fun j hj => by simp at hj⟩
  | v :: r, o, w, cur, h => by
    obtain ⟨cur', h1, h2, h3, h4⟩ := Blk.sets r (o + 1) (w.setCell ⟨g, o, none⟩ v) _ (h.set o v)
    refine ⟨cur', h1, by rw [h2]; simp, fun j hj => ?_, fun j hj hs => ?_⟩
    · rw [List.length_cons] at hj
      rw [h3 j (by omega), Array.getElem?_setIfInBounds_ne (by omega)]
    · cases j with
      | zero =>
        rw [h3 (o + 0) (by omega), Nat.add_zero, Array.getElem?_setIfInBounds_self_of_lt (by omega)]; rfl
      | succ j =>
        rw [List.length_cons] at hj
        rw [show o + (j + 1) = o + 1 + j from by omega, h4 j (by omega) (by simp; omega)]; rfl
theorem grown_sets (g : Nat) : ∀ (vs : List Value) (o : Nat) (w : World), w.grownBy (w.setCells g o vs) (some g)
  | [], _, w => World.grownBy.refl w _
  | v :: r, o, w => by
    have h := grown_sets g r (o + 1) (w.setCell ⟨g, o, none⟩ v)
    have k := Within.cell w ⟨g, o, none⟩ v
    exact ⟨h.os.trans k.os, h.tape.trans k.tape, h.output.trans k.output, Nat.le_trans k.size h.size, fun i hi hn => (h.block i (Nat.lt_of_lt_of_le hi k.size) hn).trans (k.block i hi (by simp only; have : i ≠ g := fun e => hn (by rw [e]); omega))⟩
theorem run_clear_edge (w : World) (ty : TypeId) (b o n c : Nat) (hn : n = 1) (hc : ∀ j, j < 4 → (w.cell? ⟨b, o + j, none⟩).isSome = true) (hf : ∀ j, j < 4 → w.frozen? ⟨b, o + j, none⟩ = false) :
    (Builtin.clear_ #[25] ty #[.slice (some ⟨b, o, none⟩) n c]).run Try.prog w = .ok (.tuple #[]) (w.setCells b o [.int .i64 0, .int .i64 0, .int .i64 0, .int .i64 0]) := by
  subst hn
  have hz : ∀ w, (zeroValue 108).run Try.prog w = .ok (ev zeroE) w := fun w => by
    obtain ⟨i0, hi, h0, _, _⟩ := info_parts info_edge
    simp [zeroValue, typeInfo, hi, h0]
  have hzc : (Builtin.zeroCells (ev zeroE).cells 1).toList = [.int .i64 0, .int .i64 0, .int .i64 0, .int .i64 0] := by kernel_rfl
  have hst := run_storeCells_cells (P := Try.prog) b o [.int .i64 0, .int .i64 0, .int .i64 0, .int .i64 0] 0 w (by simpa using hc) (by simpa using hf) (by intro v hv; simp at hv; subst hv; rfl)
  simp only [Nat.add_zero] at hst
  simp [Builtin.clear_, run_underlying Try.underlying25, hz, hzc, hst]
def DelOut (w : World) (base g cap p : Nat) (ys : List Edg) (e : Ending) (w' : World) : Prop := e = .returned (.slice (some ⟨g, 0, none⟩) p cap) ∧ OwnE base w' (.slice (some ⟨g, 0, none⟩) p cap) ys ∧ w.grownBy w' (some g)
theorem delL_cells (xs : List Edg) (k : Nat) : ecells (delL xs k) = (ecells xs).take (k * 4) ++ (ecells xs).drop ((k + 1) * 4) := by
  unfold delL
  rw [ecells_append, ecells_take, ecells_drop]
theorem delL_length (xs : List Edg) (k p : Nat) (hk : k < xs.length) (hp : p + 1 = xs.length) : (delL xs k).length = p := by unfold delL; simp; omega
theorem delL_in {xs : List Edg} (h : ∀ x ∈ xs, x.In) (k : Nat) : ∀ x ∈ delL xs k, x.In := by
  intro x hx
  unfold delL at hx
  rcases List.mem_append.1 hx with h1 | h1
  · exact h x (List.mem_of_mem_take h1)
  · exact h x (List.mem_of_mem_drop h1)

end Go.Proofs.Ytilkheclimammaa
