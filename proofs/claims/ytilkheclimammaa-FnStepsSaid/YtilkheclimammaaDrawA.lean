/- The drawing of any graph (l3Any): what holds of the memory while a drawn graph, in a local variable (block G), is changed. -/
import Derived.Test.YtilkheclimammaaDrawW
import Derived.Test.YtilkheclimammaaK1
namespace Go.Proofs.Ytilkheclimammaa
set_option maxRecDepth 100000
set_option linter.unusedVariables false
open Go.ChangeShapes Go.WideShapes Go.ChangeAt Go.RowKit

/-- A graph of the call's own, at most five values and eleven edges; the cursor stands, nothing else of the old memory has turned. -/
def GAOut (B cb : Nat) (w : World) (e : Ending) (w' : World) : Prop := ∃ v g, e = .returned v ∧ OwnG w.heap.size w'.heap.size w' v g ∧ g.vs.length ≤ 5 ∧ g.es.length ≤ 11 ∧ Cur B w' cb ∧ Turn cb w w'
structure DA (B cb G : Nat) (w0 w : World) (v v2 : Value) (xs : List Int) (es : List Edg) : Prop where
  cur : Cur B w cb
  trn : Turn cb w0 w
  blk : Blk w G 27 #[v, v2]
  res : Blk w w0.heap.size 27 #[.slice none 0 0, .slice none 0 0]
  own : Own (w0.heap.size + 1) w v xs
  ownE : OwnE (w0.heap.size + 1) w v2 es
  nv : v.ownBlock ≠ some G
  nv2 : v2.ownBlock ≠ some G
  hG : w0.heap.size < G
  hcb : cb < w0.heap.size
section
variable {B cb G : Nat} {w0 w w' : World} {v v2 : Value} {xs : List Int} {es : List Edg}
theorem DA.since (h : DA B cb G w0 w v v2 xs es) (k : Since w w') : DA B cb G w0 w' v v2 xs es :=
  ⟨h.cur.since k, h.trn.trans (Turn.of_since k), h.blk.since k, h.res.since k, h.own.since k, h.ownE.since k, h.nv, h.nv2, h.hG, h.hcb⟩
theorem DA.turn (h : DA B cb G w0 w v v2 xs es) (hc : Cur B w' cb) (k : Turn cb w w') : DA B cb G w0 w' v v2 xs es :=
  ⟨hc, h.trn.trans k, h.blk.grownQ k (fun e => by injection e; have := h.hG; have := h.hcb; omega), h.res.grownQ k (fun e => by injection e; have := h.hcb; omega), h.own.grownX k (own_block_not h.own (by have := h.hcb; omega)), h.ownE.grownX k (ownE_block_not h.ownE (by have := h.hcb; omega)), h.nv, h.nv2, h.hG, h.hcb⟩
/-- a new row of edges stands beside -/
structure DAE (B cb G : Nat) (w0 w : World) (v v2 u : Value) (xs : List Int) (zs : List Edg) : Prop where
  cur : Cur B w cb
  trn : Turn cb w0 w
  blk : Blk w G 27 #[v, v2]
  res : Blk w w0.heap.size 27 #[.slice none 0 0, .slice none 0 0]
  own : Own (w0.heap.size + 1) w v xs
  ownE : OwnE (w0.heap.size + 1) w u zs
  nv : v.ownBlock ≠ some G
  nv2 : u.ownBlock ≠ some G
  hG : w0.heap.size < G
  hcb : cb < w0.heap.size
theorem DA.pushE (h : DA B cb G w0 w v v2 xs es) {u : Value} {zs : List Edg} (ho : OwnE (w0.heap.size + 1) w' u zs) (k : w.grownBy w' v2.ownBlock) (hb : u.ownBlock = v2.ownBlock ∨ u.ownBlock = some w.heap.size) : DAE B cb G w0 w' v v2 u xs zs :=
  ⟨h.cur.grown k (fun j e => by have := (h.ownE.2.lt j e).1; have := h.hcb; omega), h.trn.grown k (fun j e => by have := (h.ownE.2.lt j e).1; omega), h.blk.grownQ k (fun e => h.nv2 e.symm), h.res.grownQ k (fun e => by have := (h.ownE.2.lt _ e.symm).1; omega), h.own.grownX k (own_apart h.own h.ownE), ho, h.nv, by
    rcases hb with e | e
    · rw [e]; exact h.nv2
    · rw [e]; intro e2; injection e2 with e2; have := h.blk.lt; omega, h.hG, h.hcb⟩
theorem DAE.set1 {u : Value} {zs : List Edg} (h : DAE B cb G w0 w v v2 u xs zs) : DA B cb G w0 (w.setCell ⟨G, 1, none⟩ u) v u xs zs := by
  have k := grown_set w G 1 u
  have h1 := h.hG
  have h2 := h.hcb
  exact ⟨h.cur.grown k (fun j e => by injection e; omega), h.trn.grown k (fun j e => by injection e; omega), h.blk.set 1 u, h.res.grownQ k (fun e => by injection e; omega), h.own.grownX k (.inr h.nv), h.ownE.grownX k (.inr h.nv2), h.nv, h.nv2, h1, h2⟩
theorem DA.none0 (h : DA B cb G w0 w v v2 xs es) : DA B cb G w0 (w.setCell ⟨G, 0, none⟩ (.slice none 0 0)) (.slice none 0 0) v2 [] es := by
  have k := grown_set w G 0 (.slice none 0 0)
  have h1 := h.hG
  have h2 := h.hcb
  exact ⟨h.cur.grown k (fun j e => by injection e; omega), h.trn.grown k (fun j e => by injection e; omega), h.blk.set 0 (.slice none 0 0), h.res.grownQ k (fun e => by injection e; omega), ⟨fun x hx => by simp at hx, World.ownsRow_nil _ _ _ _⟩, h.ownE.grownX k (.inr h.nv2), (by intro e; cases e), h.nv2, h1, h2⟩
theorem DA.first {b c n : Nat} (h : DA B cb G w0 w (.slice (some ⟨b, 0, none⟩) n c) v2 xs es) (hn : n = xs.length) (x : Int) (hx : InI x) : DA B cb G w0 (w.setCell ⟨b, 0, none⟩ (.int .i64 x)) (.slice (some ⟨b, 0, none⟩) n c) v2 (xs.set 0 x) es := by
  subst hn
  have hst := h.own.2.stored 0 (.int .i64 x)
  have hr : ∀ j, some b = some j → w0.heap.size + 1 ≤ j ∧ j < w.heap.size := fun j e => h.own.2.lt j e
  have hb := hr b rfl
  have h1 := h.hG
  have h2 := h.hcb
  have hnv := h.nv
  have hbG : b ≠ G := fun e => hnv (by rw [e]; rfl)
  refine ⟨h.cur.grown hst.2 (fun j e => by injection e; omega), h.trn.grown hst.2 (fun j e => by injection e; omega), h.blk.grownQ hst.2 (fun e => by injection e with e; exact hbG e.symm), h.res.grownQ hst.2 (fun e => by injection e; omega), ⟨?_, ?_⟩, h.ownE.grownX hst.2 ?_, hnv, h.nv2, h1, h2⟩
  · intro y hy
    rcases List.mem_or_eq_of_mem_set hy with hy | rfl
    · exact h.own.1 y hy
    · exact hx
  · have e : (xs.set 0 x).map icell = (xs.map icell).set 0 (.int .i64 x) := by rw [List.map_set]; rfl
    rw [e, List.length_set]
    exact hst.1
  · exact own_apart' h.own h.ownE
theorem DA.one (h : DA B cb G w0 w v v2 xs es) (hn : 0 < xs.length) : ∃ b c, v = .slice (some ⟨b, 0, none⟩) xs.length c := by
  rcases h.own.2.2 with ⟨_, h0⟩ | ⟨g, c, cur, hv, _⟩
  · omega
  · exact ⟨g, c, hv⟩
end
end Go.Proofs.Ytilkheclimammaa
