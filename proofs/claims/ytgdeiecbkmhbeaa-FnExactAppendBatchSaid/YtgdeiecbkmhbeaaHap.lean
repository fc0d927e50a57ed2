/- append of one graph onto graphs of the call's own; make in a drawn region. -/
import Derived.Test.YtgdeiecbkmhbeaaHsL
import Derived.Test.YtgdeiecbkmhbeaaK1
namespace Go.Proofs.Ytgdeiecbkmhbeaa
set_option maxRecDepth 100000
open Go.ChangeShapes Go.WideShapes Go.ChangeAt Go.RowKit
set_option linter.unusedVariables false
set_option linter.unusedSimpArgs false

theorem Blk.grwG {w w' : World} {g : Nat} {t : TypeId} {cs : Array Value} {row : Option Nat} (h : Blk w g t cs) (k : w.grownBy w' row) (hd : some g ≠ row) : Blk w' g t cs := (k.block g h.lt hd).trans h
theorem wp_make_full {P : Program} (w : World) {o : Oper} {a : Act} {K : Act → World → Prop} {Q : Exit → Act → World → Prop}
    (l c : Operand) (t : TypeId) (hop : o.op = Op.makeSlice t l c)
    (base : Nat) (e : TypeId) (i : TypeInfo) (z : Value) (size : Nat) (h1 : P.underlying t = some (.slice e)) (h2 : P.info? e = some i) (h3 : i.zero = some z) (h4 : i.size = size)
    (kl kc : IntKind) (L C : Int) (n : Nat) (hl : a.eval l = .int kl L) (hc : a.eval c = .int kc C) (hL : L = (n : Int)) (hC : C = (n : Int)) (b2 : i.bytes * n ≤ 281474976710656) (b3 : n ≤ maxLen) (b4 : base ≤ w.heap.size)
    (hK : ∀ w', w'.ownsRow base e size (.slice (some ⟨w.heap.size, 0, none⟩) n n) n (madeCells z.cells (n * size)).toList → w.grownBy w' none → K (a.put o.dst (.slice (some ⟨w.heap.size, 0, none⟩) n n)) w') :
    o.wp P a w K Q := by
  obtain ⟨w', hrun, r1, r2⟩ := run_make_full (P := P) w base t e i z size h1 h2 h3 h4 kl kc n b2 b3 b4
  subst hL
  subst hC
  unfold Oper.wp
  simp [execOp, hop, hl, hc, hrun, Result.andThen]
  exact hK w' r1 r2
/-- What an append of one graph leaves. -/
theorem ownR_snoc {lo hi : Nat} {y w' : World} {v v' p q : Value} {gs : List Grf} {g : Grf} {ps : List (Value × Value)} (hlo : lo ≤ hi) (hN : Nest y lo hi ps gs) (hr : y.ownsRow lo 39 2 v gs.length (gcells ps)) (hl : ps.length = gs.length)
    (ho : OwnG hi y.heap.size y (.agg #[p, q]) g) (hz : hi ≤ y.heap.size) (h1 : w'.ownsRow lo 39 2 v' (gs.length + 1) (gcells ps ++ [p, q])) (hg : y.grownBy w' v.ownBlock) : OwnR lo w'.heap.size w' v' (gs ++ [g]) := by
  refine ⟨ps ++ [(p, q)], ?_, by simp [hl], fun k hk => h1.lt k hk, ?_⟩
  · rw [List.length_append, gcells_append]; exact h1
  · have h2 : Nest y lo y.heap.size (ps ++ [(p, q)]) (gs ++ [g]) := Nest.snoc hN ho hz
    exact (h2.grown hg (row_block hr)).wider (Nat.le_refl _) hg.size
theorem wpList_append_gr {lo hi : Nat} {wr : World} {ops : Array Oper} {rest : List Oper} {o : Oper} {a : Act} {Q : Exit → Act → World → Prop} (hgd : o.guard = none) (s x : Operand)
    (ho : o.op = .call { callee := .builtin .append, args := #[s, x], argTypes := #[24, 24] }) (v : Value) (gs : List Grf) (hs : a.eval s = v) (hown : OwnR lo hi wr v gs) (hlo : lo ≤ hi) (hhi : hi ≤ wr.heap.size)
    (po qo : Option Addr) (pn pc qn qc : Nat) (g : Grf) (hO : OwnG hi wr.heap.size wr (.agg #[.slice po pn pc, .slice qo qn qc]) g) (hx : a.eval x = .slice (some ⟨wr.heap.size, 0, none⟩) 1 1) (hlen : gs.length ≤ 2097154)
    (h : ∀ v' w', OwnR lo w'.heap.size w' v' (gs ++ [g]) → (wr.alloc (.cells #[.slice po pn pc, .slice qo qn qc] 39)).grownBy w' v.ownBlock → wpList Try.prog ops Q rest (a.put o.dst v') w') :
    wpList Try.prog ops Q (o :: rest) a (wr.alloc (.cells #[.slice po pn pc, .slice qo qn qc] 39)) := by
  obtain ⟨ps, hr, hl, hin, hN⟩ := hown
  obtain ⟨i0, hi0, hz0, hz1, hz2⟩ := info_parts info_graph
  have hsx : Since wr (wr.alloc (.cells #[.slice po pn pc, .slice qo qn qc] 39)) := (Since.refl wr).alloc _
  have hB : Blk (wr.alloc (.cells #[.slice po pn pc, .slice qo qn qc] 39)) wr.heap.size 39 #[.slice po pn pc, .slice qo qn qc] := Blk.new rfl _ _
  have hr2 := row_since hr hsx
  have hlo2 : lo ≤ (wr.alloc (.cells #[.slice po pn pc, .slice qo qn qc] 39)).heap.size := by have := hsx.size; omega
  refine wpList_append_own _ hgd s x 24 ho lo 39 i0 (.agg #[nilV, nilV]) 2 48 Try.underlying24 hi0 hz0 hz1 hz2 rfl (by decide) v gs.length (gcells ps) hs hr2 ⟨wr.heap.size, 0, none⟩ 1 1 [.slice po pn pc, .slice qo qn qc] hx rfl ?_ (by intro u hu; simp at hu; rcases hu with rfl | rfl <;> rfl) (by unfold maxLen; omega) (by omega) hlo2 ?_
  · intro j u hj
    rw [add_plain, Nat.zero_add, hB.cell, ← hj, ← Array.getElem?_toList]
  · intro v' w' h1 h2 _
    refine h v' w' (ownR_snoc hlo (hN.since hsx) hr2 hl ((hO.since hsx).wider (Nat.le_refl _) hsx.size) (by have := hsx.size; omega) h1 h2) h2
end Go.Proofs.Ytgdeiecbkmhbeaa
