/- The table of the letters' formats, out of a row's condition. -/
import Derived.Test.YtblmiocjhbpklaaDoorLetF
import Derived.LaidSub
import Derived.OpenVars
namespace Go.Proofs.YtblmiocjhbpklaaDoor
set_option maxRecDepth 100000
open Go.ChangeShapes Go.WideShapes Go.ChangeAt Go.RowKit

def fmtRows : List (List Int) := [[97, 0], [97, 45], [98, 0], [98, 45], [99, 0], [99, 45], [48, 0], [49, 0], [50, 0]]
theorem fmtRows_laid {H : Type} : (Rows.laid_loop_example_g01922_impl_letterFormats : DataW H) = .agg (fmtRows.map fun r => Lib.tabData .u8 r) := rfl
theorem gFmt : Tryd.prog.globalNamed "loop.example/g01922/impl.letterFormats" = some 1 := by kernel_rfl
theorem gFmtType : (Tryd.prog.globals[1]?).map (·.type) = some 176 := by kernel_rfl
theorem cellsF9 : Tryd.prog.cellsOf 176 = 18 := by kernel_rfl
theorem cellsF2 : Tryd.prog.cellsOf 175 = 2 := by kernel_rfl
theorem cellsF1 : Tryd.prog.cellsOf 5 = 1 := by kernel_rfl
theorem fmts_of {W : World} (h : laidMet Tryd.prog [("loop.example/g01922/impl.letterFormats", Rows.laid_loop_example_g01922_impl_letterFormats)] W) : Fmts W := by
  obtain ⟨ps, ⟨g', t', cs, fuel, p, q, hg', ht', hvar, hd, _, _⟩, _⟩ := h
  obtain rfl := Option.some.inj (gFmt.symm.trans hg')
  obtain rfl := Option.some.inj (gFmtType.symm.trans ht')
  have hcell := fun i => World.var?_cell gFmt hvar i
  have hsz : 1 < W.heap.size := by
    unfold World.var? at hvar
    rw [gFmt] at hvar
    simp only [Option.bind_some] at hvar
    cases hh : W.heap[1]? with
    | none => rw [hh] at hvar; cases hvar
    | some o => exact (Array.getElem?_eq_some_iff.1 hh).1
  refine ⟨hsz, ?_⟩
  cases fuel with
  | zero => simp [DataW.trod] at hd
  | succ fuel =>
    simp only [DataW.trod, Tryd.underlying176, cellsF9, cellsF2] at hd
    split at hd
    · rename_i hl
      obtain ⟨xs, hm, hx⟩ := Option.map_eq_some_iff.1 hd
      have hxs : xs.map (·.1) = fmtRows.map fun r => (Lib.tabData .u8 r : DataW Unit) := by
        have := congrArg Prod.fst hx
        rw [fmtRows_laid] at this
        simpa using this
      have key : ∀ a r, fmtRows[a]? = some r → a < 9 → (cs.toList.drop (a * 2)).take 2 = r.map fun z => Value.int .u8 z := by
        intro a r hr ha
        obtain ⟨b, hb, hf⟩ := Lib.mapM_at hm a a (by simp [ha])
        have h2 : (xs.map (·.1))[a]? = some b.1 := by simp [hb]
        rw [hxs, List.getElem?_map, hr] at h2
        have h3 : b = (Lib.tabData .u8 r, b.2) := by
          have := Option.some.inj h2
          exact Prod.ext this.symm rfl
        rw [h3] at hf
        exact Lib.cells_of_tab (n := 2) Tryd.underlying175 Tryd.underlying5 cellsF1 cellsF2 hf
      have two : ∀ a c r z, fmtRows[a]? = some r → a < 9 → r[c]? = some z → c < 2 → W.cell? ⟨1, a * 2 + c, none⟩ = some (.int .u8 z) := by
        intro a c r z hr ha hz hc
        have hk := key a r hr ha
        have := congrArg (·[c]?) hk
        simp only [List.getElem?_map, hz, Option.map_some] at this
        rw [List.getElem?_take_of_lt hc, List.getElem?_drop] at this
        rw [hcell, ← Array.getElem?_toList]
        exact this
      intro i hi
      obtain ⟨a, c, rfl, ha, hc⟩ : ∃ a c, i = a * 2 + c ∧ a ≤ 8 ∧ c < 2 := ⟨i / 2, i % 2, by omega, by omega, by omega⟩
      have hc' : c = 0 ∨ c = 1 := by omega
      rcases nine ha with rfl | rfl | rfl | rfl | rfl | rfl | rfl | rfl | rfl <;> rcases hc' with rfl | rfl <;> exact two _ _ _ _ rfl (by omega) rfl (by omega)
    · cases hd
end Go.Proofs.YtblmiocjhbpklaaDoor
