/- A block that is known whole. -/
import Derived.Test.YtilkheclimammaaWithin
namespace Go.Proofs.Ytilkheclimammaa
set_option maxRecDepth 100000
open Go.ChangeShapes Go.WideShapes Go.ChangeAt Go.RowKit
set_option linter.unusedVariables false

/-- Block g is just these cells, none of them frozen. -/
def Blk (w : World) (g : Nat) (t : TypeId) (cs : Array Value) : Prop := w.heap[g]? = some (.cells cs t (0, 0))
section
variable {w w' : World} {g : Nat} {t : TypeId} {cs : Array Value}
theorem Blk.lt (h : Blk w g t cs) : g < w.heap.size := heap_lt h
theorem Blk.cell (h : Blk w g t cs) (i : Nat) : w.cell? ⟨g, i, none⟩ = cs[i]? := cell_of_row w g i cs t (0, 0) h
theorem Blk.frozen (h : Blk w g t cs) (i : Nat) : w.frozen? ⟨g, i, none⟩ = false := frozen_of_row w g i cs t h
theorem Blk.new (h : g = w.heap.size) (t : TypeId) (cs : Array Value) : Blk (w.alloc (.cells cs t)) g t cs := by subst h; exact heap_alloc_new w _
theorem Blk.alloc (h : Blk w g t cs) (o : Obj) : Blk (w.alloc o) g t cs := (Below.heap_alloc w o g h.lt).trans h
theorem Blk.drew (h : Blk w g t cs) : Blk w.drew g t cs := h
theorem Blk.drewN (h : Blk w g t cs) (n : Nat) : Blk (w.drewN n) g t cs := h
theorem Blk.set (h : Blk w g t cs) (i : Nat) (u : Value) : Blk (w.setCell ⟨g, i, none⟩ u) g t (cs.setIfInBounds i u) := heap_setCell_same w g i cs t u h
theorem Blk.far (h : Blk w g t cs) {p : Addr} (hp : g ≠ p.block) (u : Value) : Blk (w.setCell p u) g t cs := (Below.heap_setCell w p u g hp).trans h
theorem Blk.since (h : Blk w g t cs) (k : Since w w') : Blk w' g t cs := (k.block g h.lt).trans h
theorem Blk.within {lo hi : Nat} (h : Blk w g t cs) (k : Within lo hi w w') (hd : g < lo ∨ hi ≤ g) : Blk w' g t cs := (k.block g h.lt hd).trans h
theorem Blk.one {a : Value} (h : Blk w g t #[a]) : w.cell? ⟨g, 0, none⟩ = some a ∧ w.frozen? ⟨g, 0, none⟩ = false := ⟨h.cell 0, h.frozen 0⟩
theorem Blk.two {a b : Value} (h : Blk w g t #[a, b]) : w.cell? ⟨g, 0, none⟩ = some a ∧ w.cell? ⟨g, 1, none⟩ = some b ∧ w.frozen? ⟨g, 0, none⟩ = false ∧ w.frozen? ⟨g, 1, none⟩ = false := ⟨h.cell 0, h.cell 1, h.frozen 0, h.frozen 1⟩
theorem Blk.four {a b c d : Value} (h : Blk w g t #[a, b, c, d]) : w.cell? ⟨g, 0, none⟩ = some a ∧ w.cell? ⟨g, 1, none⟩ = some b ∧ w.cell? ⟨g, 2, none⟩ = some c ∧ w.cell? ⟨g, 3, none⟩ = some d ∧
    w.frozen? ⟨g, 0, none⟩ = false ∧ w.frozen? ⟨g, 1, none⟩ = false ∧ w.frozen? ⟨g, 2, none⟩ = false ∧ w.frozen? ⟨g, 3, none⟩ = false :=
  ⟨h.cell 0, h.cell 1, h.cell 2, h.cell 3, h.frozen 0, h.frozen 1, h.frozen 2, h.frozen 3⟩
end
theorem Own.len {base : Nat} {w : World} {v : Value} {xs : List Int} (h : Own base w v xs) : ∃ ao cap, v = .slice ao xs.length cap := by
  obtain ⟨ao, cap, e, _⟩ := h.at.row; exact ⟨ao, cap, e⟩
theorem OwnE.len {base : Nat} {w : World} {v : Value} {xs : List Edg} (h : OwnE base w v xs) : ∃ ao cap, v = .slice ao xs.length cap := h.at.len

def GrfOut (w : World) (g : Grf) (e : Ending) (w' : World) : Prop := ∃ v, e = .returned v ∧ OwnG w.heap.size w'.heap.size w' v g ∧ Since w w'
theorem grfOut_mk {w w' : World} {a b : Value} {g : Grf} (h1 : Own w.heap.size w' a g.vs) (h2 : OwnE w.heap.size w' b g.es) (hs : Since w w') : GrfOut w g (.returned (.agg #[a, b])) w' :=
  ⟨_, rfl, OwnG.mk h1 h2, hs⟩
theorem Own.far {base : Nat} {w : World} {v : Value} {xs : List Int} (h : Own base w v xs) {p : Addr} (hp : p.block < base) (u : Value) : Own base (w.setCell p u) v xs := ⟨h.1, ownsRow_setCell_below h.2 hp u⟩
theorem OwnE.far {base : Nat} {w : World} {v : Value} {xs : List Edg} (h : OwnE base w v xs) {p : Addr} (hp : p.block < base) (u : Value) : OwnE base (w.setCell p u) v xs := ⟨h.1, ownsRow_setCell_below h.2 hp u⟩
theorem OwnG.far {lo hi : Nat} {w : World} {v : Value} {g : Grf} (h : OwnG lo hi w v g) {p : Addr} (hp : p.block < lo) (u : Value) : OwnG lo hi (w.setCell p u) v g := by
  obtain ⟨a, b, rfl, h1, r1, h2, r2⟩ := h; exact ⟨a, b, rfl, h1.far hp u, r1, h2.far hp u, r2⟩
set_option maxRecDepth 100000 in
theorem toGraph_any (v : Value) (g : Grf) (w : World) (h : GrfAt w v g) (h1 : g.vs.length ≤ 1048577) (h2 : g.es.length ≤ 1048577) :
    Calls Try.prog 29 #[v] w (GrfOut w g) := by
  obtain ⟨a, b, rfl, ha, hb⟩ := h
  have HA := Lib.hid ha
  have HB := Lib.hid hb
  clear ha hb
  obtain ⟨ao, ca, rfl, _⟩ := HA.out.row
  obtain ⟨bo, cb, rfl⟩ := HB.out.len
  have hs0 : Since w (((w.alloc (.cells #[.slice ao g.vs.length ca, .slice bo g.es.length cb] 44)).alloc (.cells #[.slice none 0 0, .slice none 0 0] 27)).alloc (.cells #[.slice none 0 0, .slice none 0 0] 27)) := (((Since.refl w).alloc _).alloc _).alloc _
  have B0 : Hid (Blk (((w.alloc (.cells #[.slice ao g.vs.length ca, .slice bo g.es.length cb] 44)).alloc (.cells #[.slice none 0 0, .slice none 0 0] 27)).alloc (.cells #[.slice none 0 0, .slice none 0 0] 27)) w.heap.size 44 #[.slice ao g.vs.length ca, .slice bo g.es.length cb]) := ((Blk.new rfl _ _).alloc _).alloc _
  have B1 : Hid (Blk (((w.alloc (.cells #[.slice ao g.vs.length ca, .slice bo g.es.length cb] 44)).alloc (.cells #[.slice none 0 0, .slice none 0 0] 27)).alloc (.cells #[.slice none 0 0, .slice none 0 0] 27)) (w.heap.size + 1) 27 #[.slice none 0 0, .slice none 0 0]) := (Blk.new (by simp) _ _).alloc _
  have B2 : Hid (Blk (((w.alloc (.cells #[.slice ao g.vs.length ca, .slice bo g.es.length cb] 44)).alloc (.cells #[.slice none 0 0, .slice none 0 0] 27)).alloc (.cells #[.slice none 0 0, .slice none 0 0] 27)) (w.heap.size + 1 + 1) 27 #[.slice none 0 0, .slice none 0 0]) := Blk.new (by simp) _ _
  go_enter Try.func29, Try.ntmps29
  go_wp2_with fail
  refine (toIntS_any _ g.vs _ (HA.out.since hs0) h1).mono ?_
  rintro e w1 ⟨v1, rfl, ho1, hs1⟩
  obtain ⟨ao1, cap1, rfl⟩ := ho1.len
  have HO1 := Lib.hid ho1
  clear ho1
  have hs01 := hs0.trans hs1
  have b0 := Lib.hid (B0.out.since hs1)
  have b1 := Lib.hid (B1.out.since hs1)
  have b2 := Lib.hid (B2.out.since hs1)
  clear B0 B1 B2
  obtain ⟨p0, p1, q0, q1⟩ := b0.out.two
  obtain ⟨r0, r1, s0, s1⟩ := b2.out.two
  go_wp2_with fail
  clear p0 p1 q0 q1 r0 r1 s0 s1
  have hs02 := hs01.setCell (a := ⟨w.heap.size + 1 + 1, 0, none⟩) (by simp; omega) (.slice ao1 g.vs.length cap1)
  have HO2 := Lib.hid (HO1.out.far (p := ⟨w.heap.size + 1 + 1, 0, none⟩) (by simp) (.slice ao1 g.vs.length cap1))
  have b3 := Lib.hid (b0.out.far (p := ⟨w.heap.size + 1 + 1, 0, none⟩) (by simp; omega) (.slice ao1 g.vs.length cap1))
  have b4 := Lib.hid (b1.out.far (p := ⟨w.heap.size + 1 + 1, 0, none⟩) (by simp) (.slice ao1 g.vs.length cap1))
  have b5 := Lib.hid (b2.out.set 0 (.slice ao1 g.vs.length cap1))
  clear HO1 b0 b1 b2
  refine (toEdgeS_any _ g.es _ (HB.out.since hs02) h2).mono ?_
  rintro e w2 ⟨v2, rfl, ho2, hs2⟩
  obtain ⟨ao2, cap2, rfl⟩ := ho2.len
  have HOE := Lib.hid ho2
  clear ho2
  have hs03 := hs02.trans hs2
  have HO3 := Lib.hid (HO2.out.since hs2)
  have b6 := Lib.hid (b4.out.since hs2)
  have b7 := Lib.hid (b5.out.since hs2)
  have hw1 : w.heap.size + 3 ≤ w1.heap.size := by have := hs1.size; simp at this; omega
  clear HO2 b3 b4 b5
  obtain ⟨r0, r1, s0, s1⟩ := b7.out.two
  obtain ⟨p0, p1, q0, q1⟩ := b6.out.two
  go_wp2_with fail
  refine bodyPost_ret (v := .agg #[.slice ao1 g.vs.length cap1, .slice ao2 g.es.length cap2]) (by simp [results, Try.results29, go_sem, *]) rfl ?_
  refine grfOut_mk (((((HO3.out.far (by simp) _).far (by simp) _).far (by simp) _)).mono (by simp; omega)) ?_ ?_
  · exact ((((HOE.out.far (by simp; omega) _).far (by simp; omega) _).far (by simp; omega) _)).mono (by simp; omega)
  · exact ((hs03.setCell (by simp; omega) _).setCell (by simp) _).setCell (by simp) _
end Go.Proofs.Ytilkheclimammaa
