/- Maps from states to their numbers; rows of states of whatever type. -/
import Derived.Test.YtcokggjekleabaaAuB
import Derived.Test.YtcokggjekleabaaAuW
import Derived.Maps.OwnSet
import Derived.Maps.OwnOps
import Derived.Maps.RangeWalk
import Derived.Maps.Ext
namespace Go.Proofs.Ytcokggjekleabaa
set_option maxRecDepth 100000
open Go.ChangeShapes Go.WideShapes Go.ChangeAt Go.RowKit Go.Maps
set_option linter.unusedVariables false
set_option linter.unusedSimpArgs false

abbrev DU := DataW Unit
abbrev KY (x : Int) : Lit := .int .i64 x
/-- D holds the states of fs, each with its place. -/
structure NumD (fs : List Int) (D : DU) : Prop where
  tidy : Maps.Tidy D
  size : Maps.size D = fs.length
  has : ∀ x, Maps.has D (KY x) = decide (x ∈ fs)
  at' : ∀ i (h : i < fs.length) z, D.atKey (KY fs[i]) z = .lit (.int .i64 (i : Int))
theorem ky_key (x : Int) : WideAt.IsKeyLit (KY x) := trivial
theorem KY_ne {x y : Int} (h : x ≠ y) : KY x ≠ KY y := fun e => h (by injection e)
theorem NumD.nil : NumD [] (.map [] : DU) := ⟨Maps.tidy_empty, rfl, fun x => rfl, fun i h => by simp at h⟩
theorem NumD.snoc {fs : List Int} {D : DU} (h : NumD fs D) {x : Int} (hx : x ∉ fs) : NumD (fs ++ [x]) (D.put (KY x) (.lit (.int .i64 (fs.length : Int)))) := by
  refine ⟨h.tidy.put (ky_key x) _, ?_, fun y => ?_, fun i hi z => ?_⟩
  · rw [Maps.size_put h.tidy, h.has x]
    simp [hx, h.size]
  · by_cases e : y = x
    · subst e; rw [Maps.has_put_same h.tidy.isMap (ky_key _)]; simp
    · rw [Maps.has_put_other (KY_ne e), h.has y]; simp [e]
  · by_cases e : i < fs.length
    · rw [List.getElem_append_left e]
      have hne : fs[i] ≠ x := fun k => hx (by rw [← k]; exact List.getElem_mem e)
      rw [Maps.atKey_put_other (KY_ne hne), h.at' i e z]
    · have e2 : i = fs.length := by simp at hi; omega
      subst e2
      have : (fs ++ [x])[fs.length] = x := by rw [List.getElem_append_right (Nat.le_refl _)]; simp
      rw [this, Maps.atKey_put_same h.tidy.isMap (ky_key _)]
theorem NumD.look {fs : List Int} {D : DU} (h : NumD fs D) {x c : Int} (hx : x ∈ fs) (hc : D.atKey (KY x) (.lit (.int .i64 0)) = .lit (.int .i64 c)) : ∃ i, ∃ hi : i < fs.length, fs[i] = x ∧ c = (i : Int) := by
  obtain ⟨i, hi, rfl⟩ := List.getElem_of_mem hx
  rw [h.at' i hi] at hc
  injection hc with hc
  injection hc with _ hc
  exact ⟨i, hi, rfl, hc.symm⟩
theorem NumD.mem_of {fs : List Int} {D : DU} (h : NumD fs D) {x c : Int} (hc : ∀ zd, D.atKey (KY x) zd = .lit (.int .i64 c)) : x ∈ fs := by
  refine Decidable.byContradiction fun hx => ?_
  have h1 : Maps.has D (KY x) = false := by rw [h.has x]; simp [hx]
  have h2 := hc (.lit (.bool true))
  rw [Maps.atKey_of_not_has h1] at h2
  cases h2
/-- v is a slice of the call's own that reads as the numbers xs, whatever the elements' type is called. -/
def OwnNt (e : TypeId) (base : Nat) (w : World) (v : Value) (xs : List Int) : Prop := (∀ x ∈ xs, InI x) ∧ w.ownsRow base e 1 v xs.length (xs.map icell)
section
variable {e : TypeId} {base : Nat} {w w' : World} {v : Value} {xs : List Int}
theorem OwnNt.since (h : OwnNt e base w v xs) (k : Since w w') : OwnNt e base w' v xs := ⟨h.1, row_since h.2 k⟩
theorem OwnNt.len (h : OwnNt e base w v xs) (hn : 0 < xs.length) : ∃ g cap, v = .slice (some ⟨g, 0, none⟩) xs.length cap ∧ base ≤ g ∧ g < w.heap.size := by
  obtain ⟨g, cap, e1, hg⟩ := own_block h.2 hn
  exact ⟨g, cap, e1, hg, (h.2.lt g (by rw [e1]; rfl)).2⟩
theorem OwnNt.cell {g cap n : Nat} (h : OwnNt e base w (.slice (some ⟨g, 0, none⟩) n cap) xs) (hn : n = xs.length) (i : Nat) (hi : i < xs.length) : w.cell? ⟨g, i, none⟩ = some (.int .i64 xs[i]) := by
  subst hn
  rw [h.2.cellAt i (by omega)]
  simp [hi, icell]
theorem OwnNt.kept {row : Option Nat} (h : OwnNt e base w v xs) (k : w.grownBy w' row) (hr : v.ownBlock = none ∨ v.ownBlock ≠ row) : OwnNt e base w' v xs := ⟨h.1, h.2.kept k hr⟩
end
theorem ownT_lit (e : TypeId) (base : Nat) (w1 : World) (h : base ≤ w1.heap.size) (z : Int) (hz : InI z) : OwnNt e base (w1.alloc (.cells #[.int .i64 z] e)) (.slice (some ⟨w1.heap.size, 0, none⟩) 1 1) [z] :=
  ⟨fun x hx => by simp at hx; subst hx; exact hz, World.ownsRow_lit w1 #[.int .i64 z] 1 h (by unfold maxLen; omega) rfl⟩
/-- append of one number. -/
theorem wpList_append_T {wr : World} {ops : Array Oper} {rest : List Oper} {o : Oper} {a : Act} {Q : Exit → Act → World → Prop} (hgd : o.guard = none) (s x : Operand) (t e : TypeId)
    (ho : o.op = .call { callee := .builtin .append, args := #[s, x], argTypes := #[t, t] }) (hu : Try.prog.underlying t = some (.slice e)) (hinfo : (Try.prog.info? e).map (fun i => (i.zero, i.size, i.bytes)) = some (some (.int .i64 0), 1, 8)) (base : Nat) (v : Value) (xs : List Int) (hs : a.eval s = v) (hown : OwnNt e base wr v xs)
    (z : Int) (hx : a.eval x = .slice (some ⟨wr.heap.size, 0, none⟩) 1 1) (hz : InI z) (hlen : xs.length ≤ 4194304) (hb : base ≤ wr.heap.size)
    (h : ∀ v' w', OwnNt e base w' v' (xs ++ [z]) → wr.grownBy w' v.ownBlock → wpList Try.prog ops Q rest (a.put o.dst v') w') : wpList Try.prog ops Q (o :: rest) a (wr.alloc (.cells #[.int .i64 z] e)) := by
  obtain ⟨i0, hi, hz0, hz1, hz2⟩ := info_parts hinfo
  have hown' : OwnNt e base (wr.alloc (.cells #[.int .i64 z] e)) v xs := hown.since ((Since.refl wr).alloc _)
  have hB : Blk (wr.alloc (.cells #[.int .i64 z] e)) wr.heap.size e #[.int .i64 z] := Blk.new rfl _ _
  refine wpList_append_own _ hgd s x t ho base e i0 (.int .i64 0) 1 8 hu hi hz0 hz1 hz2 rfl (by decide) v xs.length (xs.map icell) hs hown'.2 ⟨wr.heap.size, 0, none⟩ 1 1 [icell z] hx rfl ?_ (by intro u hu; simp at hu; subst hu; rfl) (by unfold maxLen; omega) (by omega) (by simp; omega) ?_
  · intro j u hj
    rw [add_plain, Nat.zero_add, hB.cell, ← hj, ← Array.getElem?_toList]; rfl
  · intro v' w' h1 h2 _
    refine h v' w' ⟨fun y hy => ?_, ?_⟩ ?_
    · rcases List.mem_append.1 hy with hy | hy
      · exact hown.1 y hy
      · simp at hy; subst hy; exact hz
    · rw [List.length_append, List.map_append]; exact h1
    · refine ⟨h2.os, h2.tape, h2.output, Nat.le_trans (by simp) h2.size, fun i hi2 hn2 => ?_⟩
      exact (h2.block i (by simp; omega) hn2).trans (Below.heap_alloc wr _ i hi2)
/-- An entry of a map literal. -/
theorem wpList_insert_own {H : Type} {P : Program} (w : World) {ops : Array Oper} {rest : List Oper} {o : Oper} {a : Act} {Q : Exit → Act → World → Prop}
    (hg : o.guard = none) (m x v : Operand) (t : TypeId) (hop : o.op = Op.insert t m x v)
    (k e : TypeId) (K : Keyed P k) (ht : P.underlying t = some (.map k e)) (R : Value → Option (DataW H × List MemPlace)) (b n : Nat) (D : DataW H)
    (hm : a.eval m = .map (some b)) (hown : w.ownsMap P k R b n D) (hn : n < maxLen) (key val : Value) (kl : Lit) (hx : a.eval x = key) (hv : a.eval v = val) (hkey : keyOf P k key = some kl)
    (d : DataW H) (ps : List MemPlace) (hval : R val = some (d, ps))
    (hK : ∀ w', w'.ownsMap P k R b (n + 1) (D.put kl d) → w.grownBy w' (some b) → wpList P ops Q rest (a.put o.dst undef) w') :
    wpList P ops Q (o :: rest) a w := by
  refine wpList_plain hg fun K' hK' => ?_
  obtain ⟨w', hrun, r1, r2⟩ := hown.update K ht hn hkey hval
  unfold Oper.wp
  simp [execOp, hop, hm, hx, hv, hrun, Result.andThen]
  exact hK' _ _ (hK w' r1 r2)
theorem wf_in {x : Int} (h : InI x) : (Lit.int .i64 x).wf = true := by
  simp [Lit.wf]
  have e1 : IntKind.i64.min = -9223372036854775808 := by decide
  rw [e1]; exact h
theorem Since.keptMap {w w' : World} {P : Program} {k : TypeId} {R : Value → Option (DU × List MemPlace)} {b n : Nat} {D : DU} (h : w.ownsMap P k R b n D) (s : Since w w') : w'.ownsMap P k R b n D :=
  h.kept (row := none) ⟨s.os, s.tape, s.output, s.size, fun i hi _ => s.block i hi⟩ (by simp)
end Go.Proofs.Ytcokggjekleabaa
