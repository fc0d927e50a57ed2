/- What a function answers that gives back a graph and a yes or no. -/
import Derived.Test.YtilkheclimammaaBlk
namespace Go.Proofs.Ytilkheclimammaa
set_option maxRecDepth 100000
open Go.ChangeShapes Go.WideShapes Go.ChangeAt Go.RowKit

def GBOut (w : World) (r : Grf) (c : Bool) (e : Ending) (w' : World) : Prop := ∃ v, e = .returned (.tuple #[v, .bool c]) ∧ OwnG w.heap.size w'.heap.size w' v r ∧ Since w w'
theorem gbOut_mk {w w' : World} {a b : Value} {r : Grf} {c d : Bool} {vs : List Int} {es : List Edg} (hc : c = d) (hr : r = ⟨vs, es⟩) (h1 : Own w.heap.size w' a vs) (h2 : OwnE w.heap.size w' b es) (hs : Since w w') :
    GBOut w r c (.returned (.tuple #[.agg #[a, b], .bool d])) w' := by
  subst hc; subst hr
  exact ⟨_, rfl, OwnG.mk h1 h2, hs⟩
theorem inB_bounds {x lo hi : Int} (h : inB x lo hi = true) : lo ≤ x ∧ x ≤ hi := by unfold inB at h; simpa using h
theorem own_block {w : World} {base size n : Nat} {e : TypeId} {v : Value} {xs : List Value} (h : w.ownsRow base e size v n xs) (hn : 0 < n) : ∃ g cap, v = .slice (some ⟨g, 0, none⟩) n cap ∧ base ≤ g := by
  rcases h.2 with ⟨_, h0⟩ | ⟨g, cap, cur, a, b, _⟩
  · omega
  · exact ⟨g, cap, a, b⟩
end Go.Proofs.Ytilkheclimammaa
