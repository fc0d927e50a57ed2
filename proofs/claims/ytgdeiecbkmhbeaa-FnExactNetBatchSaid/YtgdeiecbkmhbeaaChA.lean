/- append onto changes of the call's own; a change's opposite. -/
import Derived.Test.YtgdeiecbkmhbeaaRvC
import Derived.Test.YtgdeiecbkmhbeaaBchM
import Derived.Test.YtgdeiecbkmhbeaaK1
namespace Go.Proofs.Ytgdeiecbkmhbeaa
set_option maxRecDepth 100000
open Go.ChangeShapes Go.WideShapes Go.ChangeAt Go.RowKit
set_option linter.unusedVariables false
set_option linter.unusedSimpArgs false

theorem Blk.grwC {w w' : World} {g : Nat} {t : TypeId} {cs : Array Value} {row : Option Nat} (h : Blk w g t cs) (k : w.grownBy w' row) (hd : some g ≠ row) : Blk w' g t cs := (k.block g h.lt hd).trans h
theorem run_append_chgs (w : World) (base : Nat) (ty : TypeId) (v : Value) (xs : List Chg) (hown : OwnC base w v xs) (ao : Option Addr) (m c : Nat) (ys : List Chg) (hy : ChgsAt w (.slice ao m c) ys)
    (hlen : xs.length + ys.length ≤ 4194304) (hbase : base ≤ w.heap.size) :
    ∃ v' w', (Builtin.append_ #[27, 27] ty #[v, .slice ao m c]).run Try.prog w = .ok v' w' ∧ OwnC base w' v' (xs ++ ys) ∧ w.grownBy w' v.ownBlock ∧ (v'.ownBlock = v.ownBlock ∨ v'.ownBlock = some w.heap.size) := by
  have hyi := hy.1
  obtain ⟨hs, rfl⟩ := chgs_src hy
  obtain ⟨v', w', hr, h1, h2, h3⟩ := run_append_src w base 27 ty 98 (cv zeroC) 5 40 Try.underlying27 info_chg rfl (by decide) v xs.length (ccells xs) hown.2 ao ys.length c (ccells ys) (by rw [ccells_length]) hs
    (ccells_oneCell ys) (by unfold maxLen; omega) (by omega) hbase
  refine ⟨v', w', hr, ⟨fun x hx => ?_, ?_⟩, h2, h3⟩
  · rcases List.mem_append.1 hx with hx | hx
    · exact hown.1 x hx
    · exact hyi x hx
  · rw [List.length_append, ccells_append]; exact h1
theorem wp_append_chgs {w : World} {o : Oper} {a : Act} {K : Act → World → Prop} {Q : Exit → Act → World → Prop} (s x : Operand)
    (ho : o.op = .call { callee := .builtin .append, args := #[s, x], argTypes := #[27, 27] }) (base : Nat) (v : Value) (xs : List Chg) (hs : a.eval s = v) (hown : OwnC base w v xs) (ao : Option Addr) (m c : Nat) (hx : a.eval x = .slice ao m c)
    (ys : List Chg) (hy : ChgsAt w (.slice ao m c) ys) (hlen : xs.length + ys.length ≤ 4194304) (hbase : base ≤ w.heap.size)
    (h : ∀ v' w', OwnC base w' v' (xs ++ ys) → w.grownBy w' v.ownBlock → (v'.ownBlock = v.ownBlock ∨ v'.ownBlock = some w.heap.size) → K (a.put o.dst v') w') : o.wp Try.prog a w K Q := by
  obtain ⟨v', w', hr, h1, h2, h3⟩ := run_append_chgs w base o.type v xs hown ao m c ys hy hlen hbase
  exact wp_of_run_append s x _ ho v _ v' w' hs hx hr (h v' w' h1 h2 h3)
theorem wpList_append_chgs {w : World} {ops : Array Oper} {rest : List Oper} {o : Oper} {a : Act} {Q : Exit → Act → World → Prop} (hgd : o.guard = none) (s x : Operand)
    (ho : o.op = .call { callee := .builtin .append, args := #[s, x], argTypes := #[27, 27] }) (base : Nat) (v : Value) (xs : List Chg) (hs : a.eval s = v) (hown : OwnC base w v xs) (ao : Option Addr) (m c : Nat) (hx : a.eval x = .slice ao m c)
    (ys : List Chg) (hy : ChgsAt w (.slice ao m c) ys) (hlen : xs.length + ys.length ≤ 4194304) (hbase : base ≤ w.heap.size)
    (h : ∀ v' w', OwnC base w' v' (xs ++ ys) → w.grownBy w' v.ownBlock → (v'.ownBlock = v.ownBlock ∨ v'.ownBlock = some w.heap.size) → wpList Try.prog ops Q rest (a.put o.dst v') w') : wpList Try.prog ops Q (o :: rest) a w := by
  refine wpList_plain hgd fun K hK => ?_
  exact wp_append_chgs s x ho base v xs hs hown ao m c hx ys hy hlen hbase fun v' w' a b d => hK _ _ (h v' w' a b d)
/-- a literal slice of one change -/
theorem chg_lit (wr : World) (c : Chg) (hc : c.ed.In) : ChgsAt (wr.alloc (.cells #[.bool c.ins, .int .i64 c.ed.id, .int .i64 c.ed.fr, .int .i64 (Edg.to c.ed), .int .i64 c.ed.lb] 98)) (.slice (some ⟨wr.heap.size, 0, none⟩) 1 1) [c] := by
  have hB : Blk (wr.alloc (.cells #[.bool c.ins, .int .i64 c.ed.id, .int .i64 c.ed.fr, .int .i64 (Edg.to c.ed), .int .i64 c.ed.lb] 98)) wr.heap.size 98 #[.bool c.ins, .int .i64 c.ed.id, .int .i64 c.ed.fr, .int .i64 (Edg.to c.ed), .int .i64 c.ed.lb] := Blk.new rfl _ _
  refine ⟨fun x hx => by simp at hx; subst hx; exact hc, some ⟨wr.heap.size, 0, none⟩, 1, rfl, fun i hi => ?_⟩
  have hi0 : i = 0 := by simp at hi; exact hi
  subst hi0
  obtain ⟨⟨c0, c1, c2, c3, c4⟩, _⟩ := hB.fiveC
  exact ⟨wr.heap.size, 0, rfl, hB.lt, c0, c1, c2, c3, c4⟩
set_option maxRecDepth 100000 in
theorem inverse_any (c : Chg) (w : World) : Calls Try.prog 108 #[cv c] w fun en w' => en = .returned (cv (turnC c)) ∧ Since w w' := by
  obtain ⟨ci, ⟨d0, d1, d2, d3⟩⟩ := c
  unfold cv turnC
  dsimp only
  go_enter Try.func108, Try.ntmps108
  go_wp2
  refine bodyPost_ret (v := .agg #[.bool (!ci), .int .i64 d0, .int .i64 d1, .int .i64 d2, .int .i64 d3]) (by simp [results, Try.results108, go_sem, *]) rfl ⟨rfl, ?_⟩
  first
  | exact ((Since.refl w).alloc _).alloc _
  | (iterate 5 (with_reducible refine Since.setCell ?_ (by (first | omega | (simp; omega) | simp)) _)
     exact ((Since.refl w).alloc _).alloc _)
end Go.Proofs.Ytgdeiecbkmhbeaa
