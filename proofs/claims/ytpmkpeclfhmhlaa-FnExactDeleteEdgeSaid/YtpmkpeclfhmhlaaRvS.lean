/- ReverseGraph, the model's. -/
import Derived.Test.YtpmkpeclfhmhlaaCopyS
import Derived.Test.YtpmkpeclfhmhlaaK2
namespace Go.Proofs.Ytpmkpeclfhmhlaa
set_option maxRecDepth 100000
open Go.ChangeShapes Go.WideShapes Go.ChangeAt Go.RowKit
set_option linter.unusedVariables false
set_option linter.unusedSimpArgs false

theorem revE_in {e : Edg} (h : e.In) : (revE e).In := ⟨h.1, h.2.2.1, h.2.1, h.2.2.2⟩
theorem map_snocE (f : Edg → Edg) {xs : List Edg} {k : Nat} (h : k < xs.length) : (xs.take (k + 1)).map f = (xs.take k).map f ++ [f xs[k]] := by
  rw [List.take_succ_eq_append_getElem h, List.map_append]; rfl
theorem Blk.grown {w w' : World} {g : Nat} {t : TypeId} {cs : Array Value} {row : Option Nat} (h : Blk w g t cs) (k : w.grownBy w' row) (hd : some g ≠ row) : Blk w' g t cs := (k.block g h.lt hd).trans h
theorem OwnE.len' {base : Nat} {w : World} {v : Value} {xs : List Edg} (h : OwnE base w v xs) (n : Nat) (hn : xs.length = n) : ∃ ao cap, v = .slice ao n cap := by
  obtain ⟨ao, cap, e⟩ := h.len; exact ⟨ao, cap, by rw [e, hn]⟩
theorem EdgesAt.mem {w : World} {v : Value} {xs : List Edg} (h : EdgesAt w v xs) {k : Nat} (hk : k < xs.length) : (xs[k]).In := h.1 _ (List.getElem_mem hk)

end Go.Proofs.Ytpmkpeclfhmhlaa
