/- The map's four operations, for the walk. -/
import Derived.Test.YtgdeiecbkmhbeaaNetR
namespace Go.Proofs.Ytgdeiecbkmhbeaa
set_option maxRecDepth 100000
open Go.ChangeShapes Go.WideShapes Go.ChangeAt Go.RowKit
set_option linter.unusedVariables false
set_option linter.unusedSimpArgs false

theorem wp_lookup_chg {w : World} {o : Oper} {a : Act} {K : Act → World → Prop} {Q : Exit → Act → World → Prop} (m x : Operand) (hop : o.op = Op.lookup 136 m x false)
    (b : Nat) (f : Chg → Value) (c : Chg) (hm : a.eval m = .map (some b)) (hx : a.eval x = cv c) (h : MapF w b f) (hK : K (a.put o.dst (f c)) w) : o.wp Try.prog a w K Q := by
  have hrun := run_lookup_chg w b f c h
  unfold Oper.wp
  simp only [execOp, hop, hm, hx, Sem.run_bind, hrun, Result.andThen_ok, Sem.run_pure]
  exact hK
theorem wpList_lookup_chg {w : World} {ops : Array Oper} {rest : List Oper} {o : Oper} {a : Act} {Q : Exit → Act → World → Prop} (hg : o.guard = none) (m x : Operand) (hop : o.op = Op.lookup 136 m x false)
    (b : Nat) (f : Chg → Value) (c : Chg) (hm : a.eval m = .map (some b)) (hx : a.eval x = cv c) (h : MapF w b f) (hK : wpList Try.prog ops Q rest (a.put o.dst (f c)) w) : wpList Try.prog ops Q (o :: rest) a w :=
  wpList_plain hg fun _ hk => wp_lookup_chg m x hop b f c hm hx h (hk _ _ hK)
theorem wp_mapUpdate_chg {w : World} {o : Oper} {a : Act} {K : Act → World → Prop} {Q : Exit → Act → World → Prop} (m x v : Operand) (hop : o.op = Op.mapUpdate 136 m x v)
    (b : Nat) (f : Chg → Value) (c : Chg) (u : Value) (hm : a.eval m = .map (some b)) (hx : a.eval x = cv c) (hv : a.eval v = u) (h : MapF w b f)
    (hK : ∀ ob, MapF (setB w b ob) b (updF f c u) → K (a.put o.dst undef) (setB w b ob)) : o.wp Try.prog a w K Q := by
  obtain ⟨ob, hrun, h2⟩ := run_mapUpdate_chg w b f c u h
  unfold Oper.wp
  simp only [execOp, hop, hm, hx, hv, Sem.run_bind, hrun, Result.andThen_ok, Sem.run_pure]
  exact hK ob h2
theorem wpList_mapEntry_chg {w : World} {ops : Array Oper} {rest : List Oper} {o : Oper} {a : Act} {Q : Exit → Act → World → Prop} (hg : o.guard = none) (m x : Operand) (hop : o.op = Op.mapEntry 136 m x)
    (b : Nat) (f : Chg → Value) (c : Chg) (hm : a.eval m = .map (some b)) (hx : a.eval x = cv c) (h : MapF w b f)
    (hK : ∀ (ob : Obj) (st : Nat), MapE (setB w b ob) b f c st → wpList Try.prog ops Q rest (a.put o.dst (.tuple #[f c, goInt st])) (setB w b ob)) : wpList Try.prog ops Q (o :: rest) a w := by
  refine wpList_plain hg fun K hk => ?_
  obtain ⟨ob, st, hrun, h2⟩ := run_mapEntry_chg w b f c h
  unfold Oper.wp
  simp only [execOp, hop, hm, hx, Sem.run_bind, hrun, Result.andThen_ok, Sem.run_pure]
  exact hk _ _ (hK ob st h2)
theorem wpList_entryStore_chg {w : World} {ops : Array Oper} {rest : List Oper} {o : Oper} {a : Act} {Q : Exit → Act → World → Prop} (hg : o.guard = none) (m s v : Operand) (hop : o.op = Op.entryStore 136 m s v)
    (b st : Nat) (f : Chg → Value) (c : Chg) (u : Value) (hm : a.eval m = .map (some b)) (hs : a.eval s = goInt st) (hv : a.eval v = u) (h : MapE w b f c st)
    (hK : ∀ ob, MapF (setB w b ob) b (updF f c u) → wpList Try.prog ops Q rest (a.put o.dst undef) (setB w b ob)) : wpList Try.prog ops Q (o :: rest) a w := by
  refine wpList_plain hg fun K hk => ?_
  obtain ⟨ob, hrun, h2⟩ := run_entryStore_chg w b st f c u h
  unfold Oper.wp
  simp only [execOp, hop, hm, hs, hv, Sem.run_bind, hrun, Result.andThen_ok, Sem.run_pure]
  exact hk _ _ (hK ob h2)
end Go.Proofs.Ytgdeiecbkmhbeaa
