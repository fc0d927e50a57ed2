/- The program's stepsOf; what it reads of traversals. -/
import Derived.Test.YtfcghdfcimnpoabTrvD
namespace Go.Proofs.Ytfcghdfcimnpoab
set_option maxRecDepth 100000
open Go.ChangeShapes Go.WideShapes Go.ChangeAt Go.RowKit
set_option linter.unusedVariables false
set_option linter.unusedSimpArgs false

theorem filledS_get (xs : List Stp) (k i : Nat) (hk : k ≤ xs.length) (hi : i < xs.length) : i < (filled xs zeroS k).length := by rw [filled_length xs zeroS k hk]; exact hi
theorem row_set2 {w : World} {base g n cap : Nat} {xs : List Stp} (h : w.ownsRow base 43 2 (.slice (some ⟨g, 0, none⟩) n cap) n (scells xs)) (k : Nat) (hk : k < xs.length) (e : Stp) :
    ((w.setCell ⟨g, k * 2, none⟩ (.int .i64 e.id)).setCell ⟨g, k * 2 + 1, none⟩ (.bool e.inv)).ownsRow base 43 2 (.slice (some ⟨g, 0, none⟩) n cap) n (scells (xs.set k e)) := by
  rw [← scells_set xs k hk e]
  exact ((h.stored _ _).1.stored _ _).1
theorem OwnSt.row {base n : Nat} {w : World} {v : Value} {xs : List Stp} (h : OwnSt base w v xs) (hn : n = xs.length) : w.ownsRow base 43 2 v n (scells xs) := by subst hn; exact h
theorem OwnSt.ofRow {base n : Nat} {w : World} {v : Value} {xs : List Stp} (h : w.ownsRow base 43 2 v n (scells xs)) (hn : n = xs.length) : OwnSt base w v xs := by subst hn; exact h
def fromS (g : Grf) (x : Int) : List Stp := ((travG g).filter (kpF x)).map Trv.st
def withS (g : Grf) (x y : Int) : List Stp := (((travG g).filter (kpF x)).filter (kpW y)).map Trv.st
theorem fromS_len (g : Grf) (x : Int) (h2 : g.es.length ≤ 1048577) : (fromS g x).length ≤ 2097154 := by
  unfold fromS; rw [List.length_map]
  exact Nat.le_trans (List.length_filter_le _ _) (travG_len g h2)
theorem withS_len (g : Grf) (x y : Int) (h2 : g.es.length ≤ 1048577) : (withS g x y).length ≤ 2097154 := by
  unfold withS; rw [List.length_map]
  exact Nat.le_trans (List.length_filter_le _ _) (Nat.le_trans (List.length_filter_le _ _) (travG_len g h2))
end Go.Proofs.Ytfcghdfcimnpoab
