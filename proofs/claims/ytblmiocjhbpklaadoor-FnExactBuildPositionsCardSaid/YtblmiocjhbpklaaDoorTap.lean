/- The methods of a tree's node: its tokens appended, its expression, its reversal in place. -/
import Derived.Test.YtblmiocjhbpklaaDoorTof8
import Derived.Test.YtblmiocjhbpklaaDoorWord
import Derived.Test.YtblmiocjhbpklaaDoorXf
namespace Go.Proofs.YtblmiocjhbpklaaDoor
set_option maxRecDepth 100000
open Go.ChangeShapes Go.WideShapes Go.ChangeAt Go.RowKit
set_option linter.unusedVariables false
set_option linter.unusedSimpArgs false

theorem Blk.all6 {w : World} {g : Nat} {t : TypeId} {a b c d e f : Value} (h : Blk w g t #[a, b, c, d, e, f]) : (w.cell? ⟨g, 0, none⟩ = some a ∧ w.cell? ⟨g, 1, none⟩ = some b ∧ w.cell? ⟨g, 2, none⟩ = some c ∧ w.cell? ⟨g, 3, none⟩ = some d ∧ w.cell? ⟨g, 4, none⟩ = some e ∧ w.cell? ⟨g, 5, none⟩ = some f) ∧
    (w.frozen? ⟨g, 0, none⟩ = false ∧ w.frozen? ⟨g, 1, none⟩ = false ∧ w.frozen? ⟨g, 4, none⟩ = false ∧ w.frozen? ⟨g, 5, none⟩ = false) :=
  ⟨⟨h.cell 0, h.cell 1, h.cell 2, h.cell 3, h.cell 4, h.cell 5⟩, h.frozen 0, h.frozen 1, h.frozen 4, h.frozen 5⟩
/-- What appendTo answers: the tokens with those of the tree behind them; blocks below base and blocks of other types stand. -/
def ApOut (base : Nat) (w : World) (ys : List Tok) (e : Ending) (w' : World) : Prop := ∃ u', e = .returned u' ∧ OwnK base w' u' ys ∧ KeepK base w w'
/-- What reverse leaves. -/
def RvOut (w : World) (T : Tr) (lo hi : Nat) (v : Value) (e : Ending) (w' : World) : Prop := e = .returned (.tuple #[]) ∧ TreeAt w' T lo hi v ∧ Within lo hi w w'
theorem turnT_in {t : Tok} (h : t.In) : (turnT t).In := by
  unfold turnT
  split
  · exact ⟨h.1, invL_in _ h.2.1, h.2.2.1, h.2.2.2⟩
  · exact h
end Go.Proofs.YtblmiocjhbpklaaDoor
