/- slices.Concat of lists of tokens; the small functions of chapter 8: copies, single tokens, the constructors of the program. -/
import Derived.Test.YthnppgcmmabolaaGreatDoorTokL
import Derived.Test.YthnppgcmmabolaaGreatDoorExM
import Derived.Test.YthnppgcmmabolaaGreatDoorEeS
namespace Go.Proofs.YthnppgcmmabolaaGreatDoor
set_option maxRecDepth 100000
open Go.ChangeShapes Go.WideShapes Go.ChangeAt Go.RowKit
set_option linter.unusedVariables false
set_option linter.unusedSimpArgs false

theorem wpList_of_run_append2K {w : World} {ops : Array Oper} {rest : List Oper} {o : Oper} {a : Act} {Q : Exit → Act → World → Prop} (hgd : o.guard = none) (s x : Operand) (t tn : TypeId)
    (ho : o.op = .call { callee := .builtin .append, args := #[s, x], argTypes := #[t, tn] }) (v y v' : Value) (w' : World) (hs : a.eval s = v) (hx : a.eval x = y)
    (hr : (Builtin.append_ #[t, tn] o.type #[v, y]).run Tryz.prog w = .ok v' w') (h : wpList Tryz.prog ops Q rest (a.put o.dst v') w') : wpList Tryz.prog ops Q (o :: rest) a w := by
  refine wpList_plain hgd fun K hK => ?_
  unfold Oper.wp execOp
  simp only [ho, resolve, invoke, builtin, Sem.run_bind, Sem.run_pure, Result.andThen_ok, List.map_toArray, List.map_cons, List.map_nil, hs, hx, hr]
  exact hK _ _ h
set_option maxRecDepth 100000 in
/-- append of m zero values onto nothing. -/
theorem run_append_zerosK (w : World) (t tn e : TypeId) (i : TypeInfo) (z : Value) (kn : IntKind) (ht : Tryz.prog.underlying t = some (.slice e)) (htn : Tryz.prog.underlying tn = some (.int kn)) (hi : Tryz.prog.info? e = some i) (hz : i.zero = some z) (hzc : z.cells.size = i.size)
    (n : Nat) (h0 : 0 < n * i.size) (hn9 : n ≤ 4194304) (hb : i.bytes ≤ 64) :
    ∃ C, n ≤ C ∧ C ≤ maxLen ∧ ∀ ty, (Builtin.append_ #[t, tn] ty #[.slice none 0 0, .int kn n]).run Tryz.prog w =
      .ok (.slice (some ⟨w.heap.size, 0, none⟩) n C)
        (w.drew.alloc (.cells (Builtin.zeroCells z.cells n ++ Builtin.zeroCells z.cells (C - n)) e)) := by
  refine ⟨grownCap w n 0 e, grownCap_ge w _ _ e, grownCap_le_maxLen w _ _ e (by unfold maxLen; omega), fun ty => ?_⟩
  have hn : ¬ (n = 0) := by intro h; subst h; omega
  have hbn : n * i.bytes ≤ 4194304 * 64 := Nat.mul_le_mul (by omega) hb
  have h63' : ¬ (9223372036854775807 < (n : Int)) := by omega
  have hfit : Builtin.nextslicecap n 0 * i.bytes ≤ 281474976710656 := growslice_fits (by omega) (by have : n * i.bytes ≤ 4194304 * 64 := Nat.mul_le_mul (by omega) hb; omega)
  have h48' : ¬ (281474976710656 < Builtin.nextslicecap n 0 * i.bytes) := by omega
  have hw : IntKind.i64.wrap (n : Int) = (n : Int) := by rw [IntKind.wrap_i64]; omega
  have hl0 : ¬ ((n : Int) < 0) := by omega
  have hlb : ¬ (281474976710656 < (n : Int) * (i.bytes : Int)) := by
    rw [← Int.natCast_mul]
    obtain ⟨q, hq⟩ : ∃ q, q = n * i.bytes := ⟨_, rfl⟩
    rw [← hq] at hbn ⊢
    omega
  have hne : n * i.size ≠ 0 := by omega
  have hai : ∀ w, (asInt (.int kn (n : Int))).run Tryz.prog w = .ok (n : Int) w := fun w => by simp [asInt, asIntOf]
  simp [Builtin.append_, run_underlying ht, run_underlying htn, sizeOf, typeInfo, zeroValue, hi, hz, hai, hw, hl0, hlb, hn, h63', h48', Question.forced, newRow, grownCap, hne, Builtin.firstCells]
def GrowKOut (w : World) (e : Ending) (w' : World) : Prop := ∃ v, e = .returned v ∧ OwnK w.heap.size w' v [] ∧ Since w w'
/-- The first k lists, one behind the other. -/
def catK (ys : List (List Tok)) (k : Nat) : List Tok := (ys.take k).flatten
theorem catK_step (ys : List (List Tok)) (k : Nat) (h : k < ys.length) : catK ys (k + 1) = catK ys k ++ ys[k] := by
  unfold catK; rw [List.take_succ_eq_append_getElem h, List.flatten_append]; simp only [List.flatten_cons, List.flatten_nil, List.append_nil]
theorem catK_le (ys : List (List Tok)) (k : Nat) : (catK ys k).length ≤ (catK ys ys.length).length := by
  unfold catK
  rw [List.take_length]
  have : ys.flatten = (ys.take k).flatten ++ (ys.drop k).flatten := by rw [← List.flatten_append, List.take_append_drop]
  rw [this]; simp
/-- The values of a block read as these lists. -/
def PartsK (w : World) (vs : List Value) (ys : List (List Tok)) : Prop := vs.length = ys.length ∧ ∀ k (h : k < ys.length), ∃ v, vs[k]? = some v ∧ ToksAt w v ys[k]
theorem PartsK.since {w w' : World} {vs : List Value} {ys : List (List Tok)} (h : PartsK w vs ys) (k : Since w w') : PartsK w' vs ys :=
  ⟨h.1, fun j hj => by obtain ⟨v, e, hv⟩ := h.2 j hj; exact ⟨v, e, hv.since k⟩⟩
end Go.Proofs.YthnppgcmmabolaaGreatDoor
