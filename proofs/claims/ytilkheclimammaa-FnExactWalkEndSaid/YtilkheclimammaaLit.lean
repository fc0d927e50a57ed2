/- Empty literals: rows of the call's own. -/
import Derived.Test.YtilkheclimammaaBlk
namespace Go.Proofs.Ytilkheclimammaa
set_option maxRecDepth 100000
open Go.ChangeShapes Go.WideShapes Go.ChangeAt Go.RowKit
theorem own_lit (w w1 : World) (h : Since w w1) (b : Nat) (hb : b = w1.heap.size) : Own w.heap.size (w1.alloc (.cells #[] 3)) (.slice (some ⟨b, 0, none⟩) 0 0) [] := by
  subst hb; exact ⟨fun x hx => by simp at hx, World.ownsRow_lit w1 #[] 0 h.size (Nat.zero_le _) rfl⟩
theorem ownE_lit (w w1 : World) (h : Since w w1) (b : Nat) (hb : b = w1.heap.size) : OwnE w.heap.size (w1.alloc (.cells #[] 108)) (.slice (some ⟨b, 0, none⟩) 0 0) [] := by
  subst hb; exact ⟨fun x hx => by simp at hx, World.ownsRow_lit w1 #[] 0 h.size (Nat.zero_le _) rfl⟩
theorem ownE_one (w w1 : World) (h : Since w w1) (e : Edg) (he : e.In) (b : Nat) (hb : b = w1.heap.size) : OwnE w.heap.size (w1.alloc (.cells #[.int .i64 e.id, .int .i64 e.fr, .int .i64 e.to, .int .i64 e.lb] 108)) (.slice (some ⟨b, 0, none⟩) 1 1) [e] := by
  subst hb; exact ⟨fun x hx => by simp at hx; subst hx; exact he, World.ownsRow_lit w1 #[.int .i64 e.id, .int .i64 e.fr, .int .i64 e.to, .int .i64 e.lb] 1 h.size (by unfold maxLen; omega) rfl⟩
theorem Own.grownX {base : Nat} {w w' : World} {v : Value} {xs : List Int} {row : Option Nat} (h : Own base w v xs) (k : w.grownBy w' row) (hr : v.ownBlock = none ∨ v.ownBlock ≠ row) : Own base w' v xs := ⟨h.1, h.2.kept k hr⟩
theorem OwnE.grownX {base : Nat} {w w' : World} {v : Value} {xs : List Edg} {row : Option Nat} (h : OwnE base w v xs) (k : w.grownBy w' row) (hr : v.ownBlock = none ∨ v.ownBlock ≠ row) : OwnE base w' v xs := ⟨h.1, h.2.kept k hr⟩
theorem Own.lt' {base : Nat} {w : World} {v : Value} {xs : List Int} (h : Own base w v xs) : ∀ k, v.ownBlock = some k → base ≤ k ∧ k < w.heap.size := h.2.lt
end Go.Proofs.Ytilkheclimammaa
