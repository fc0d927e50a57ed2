/- A number picked from a literal list: it is one of the list's. -/
import Derived.Test.YtilkheclimammaaDraw1
import Derived.Test.YtilkheclimammaaK0
namespace Go.Proofs.Ytilkheclimammaa
set_option maxRecDepth 100000
set_option linter.unusedVariables false
open Go.ChangeShapes Go.WideShapes Go.ChangeAt Go.RowKit

def PickOut (l : List Int) (B cb : Nat) (w : World) (e : Ending) (w' : World) : Prop := ∃ x : Int, x ∈ l ∧ e = .returned (.int .i64 x) ∧ Cur B w' cb ∧ Turn cb w w'
/-- l1PickInt over the literal l, laid in world w: one of l comes out. -/
theorem pick_any (l : List Int) (B cb n : Nat) (A : Array Value) (w : World) (hc : Cur B w cb) (hn : n = l.length) (h0 : 0 < n) (h9 : n ≤ 1000) (hA : A = (l.map icell).toArray) :
    Calls Try.prog 92 #[.pointer (some ⟨cb, 0, none⟩), .slice (some ⟨w.heap.size, 0, none⟩) n n] (w.alloc (.cells A 3)) (PickOut l B cb w) := by
  have hcy : Hid (∀ j (hj : j < l.length), (w.alloc (.cells A 3)).cell? ⟨w.heap.size, j, none⟩ = some (.int .i64 l[j])) := by
    intro j hj
    rw [World.cell?_alloc_at _ _ _ _ rfl, hA, List.getElem?_toArray, List.getElem?_map, List.getElem?_eq_getElem hj]; rfl
  have hne : Hid (w.heap.size ≠ cb) := by have := hc.2.1; unfold Hid; omega
  have hlt : Hid (w.heap.size < (w.alloc (.cells A 3)).heap.size) := by unfold Hid; simp
  have hs : Since w (w.alloc (.cells A 3)) := (Since.refl w).alloc _
  have HC := Lib.hid (hc.since hs)
  have HT := Lib.hid (Turn.of_since (cb := cb) hs)
  have HN := Lib.hid hn
  obtain ⟨lb, hlb⟩ : ∃ lb, lb = w.heap.size := ⟨_, rfl⟩
  rw [← hlb] at hcy hne hlt ⊢
  clear hlb hA hc hn hs
  generalize (w.alloc (.cells A 3)) = y at hcy hlt HC HT ⊢
  go_enter Try.func92, Try.ntmps92
  go_wp2_with fail
  refine (l1Below_any B cb n _ HC.out (by omega) (by omega)).mono ?_
  rintro e w1 ⟨x, hx0, hx9, rfl, hc1, ht1⟩
  obtain ⟨x, rfl⟩ := Int.eq_ofNat_of_zero_le hx0
  have hxn : x < n := by omega
  have hxl : x < l.length := by have := HN.out; omega
  have hy1 : w1.cell? ⟨lb, x, none⟩ = some (.int .i64 l[x]) := (World.cell?_of_block (w := y) (w' := w1) (a := ⟨lb, x, none⟩) (ht1.block lb hlt.out (fun e => hne.out (by injection e)))).trans (hcy.out x hxl)
  have HC1 := Lib.hid hc1
  have HT1 := Lib.hid (HT.out.trans ht1)
  have HM := Lib.hid (List.getElem_mem hxl)
  generalize l[x] = z at hy1 HM
  clear hc1 ht1
  go_wp2_with fail
  go_ret
  exact ⟨z, HM.out, rfl, HC1.out, HT1.out⟩
end Go.Proofs.Ytilkheclimammaa
