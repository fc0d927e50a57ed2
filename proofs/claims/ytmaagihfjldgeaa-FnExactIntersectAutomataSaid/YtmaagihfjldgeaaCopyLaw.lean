/- copy into a row of the call's own, of whatever element size: the law for the walk. -/
import Derived.Test.YtmaagihfjldgeaaK1
import Derived.Laws.CopyOwn
namespace Go.Proofs.Ytmaagihfjldgeaa
set_option maxRecDepth 100000
open Go.ChangeShapes Go.WideShapes Go.ChangeAt Go.RowKit
set_option linter.unusedVariables false

/-- copy of as many elements as there are, into a row that is filled by them. -/
theorem run_copy_full (w : World) (dT ty elem : TypeId) (size : Nat) (hsz : 0 < size) (hu : Try.prog.underlying dT = some (.slice elem)) (hs : (Try.prog.info? elem).map (·.size) = some size)
    (base g n dcap : Nat) (xs : List Value) (hown : w.ownsRow base elem size (.slice (some ⟨g, 0, none⟩) n dcap) n xs) (ao : Option Addr) (sc : Nat) (cs : List Value) (hl : cs.length = n * size)
    (hsrc : SrcAt w ao cs) (h1 : ∀ u ∈ cs, u.oneCell' = true) :
    ∃ w', (Builtin.copy_ #[dT, dT] ty #[.slice (some ⟨g, 0, none⟩) n dcap, .slice ao n sc]).run Try.prog w = .ok (goInt n) w' ∧ w'.ownsRow base elem size (.slice (some ⟨g, 0, none⟩) n dcap) n cs ∧ w.grownBy w' (some g) := by
  obtain ⟨i, hi, hisz⟩ : ∃ i, Try.prog.info? elem = some i ∧ i.size = size := by
    cases hq : Try.prog.info? elem with
    | none => rw [hq] at hs; cases hs
    | some i => rw [hq] at hs; exact ⟨i, rfl, by simpa using hs⟩
  subst hisz
  rcases hown.2 with ⟨e, _⟩ | ⟨g', cap', cur, e, hb, hg, hnc, hcm, hcs, htake⟩
  · cases e
  · injection e with e1 e2 e3
    injection e1 with e1
    injection e1 with e1
    subst e1; subst e3
    have hst := run_storeCells_at Try.prog g 0 elem cs 0 cur w hg (by rw [hl, hcs]; simp; exact Nat.mul_le_mul_right _ hnc) h1
    cases hn : ao with
    | none =>
      have hn0 : n = 0 := by
        rcases Nat.eq_zero_or_pos n with h | h
        · exact h
        · obtain ⟨ad, e1, _⟩ := hsrc (by rw [hl]; exact Nat.mul_pos h hsz)
          rw [hn] at e1; cases e1
      subst hn0
      obtain rfl : cs = [] := List.eq_nil_of_length_eq_zero (by omega)
      refine ⟨w, ?_, ⟨by simp, .inr ⟨g, dcap, cur, rfl, hb, hg, hnc, hcm, hcs, by simp⟩⟩, ⟨rfl, rfl, rfl, Nat.le_refl _, fun _ _ _ => rfl⟩⟩
      simp [Builtin.copy_, run_underlying hu, sizeOf, typeInfo, hi, Builtin.lenOf, Builtin.firstCells, storeCells]
    | some ad =>
      have hc : ∀ j u, cs[j]? = some u → w.cell? (ad.add j) = some u := by
        intro j u hj
        obtain ⟨ad', e1, h⟩ := hsrc (by have := (List.getElem?_eq_some_iff.1 hj).1; omega)
        rw [hn] at e1; injection e1 with e1; subst e1
        exact h j u hj
      have hld := run_loadCells_list (P := Try.prog) w ad cs hc
      rw [hl] at hld
      have hmin : Nat.min n n = n := Nat.min_self n
      refine ⟨w.setRow g (cs ++ cur.toList.drop cs.length).toArray, ?_, ⟨by rw [hl], .inr ⟨g, dcap, _, rfl, hb, setRow_heap w g cur _ elem _ hg, hnc, hcm, ?_, ?_⟩⟩, ⟨rfl, rfl, rfl, by simp [World.setRow], fun k hk hne => setRow_other w g k _ (fun e => hne (by rw [e]))⟩⟩
      · simp [Builtin.copy_, run_underlying hu, sizeOf, typeInfo, hi, Builtin.lenOf, Builtin.firstCells, hmin, hld, hst]
      · simp only [List.size_toArray, List.length_append, List.length_drop, Array.length_toList]
        rw [hl, hcs]
        have : n * i.size ≤ dcap * i.size := Nat.mul_le_mul_right _ hnc
        omega
      · rw [← hl]; simp
theorem wpList_of_run_copy {w : World} {ops : Array Oper} {rest : List Oper} {o : Oper} {a : Act} {Q : Exit → Act → World → Prop} (hgd : o.guard = none) (d s : Operand) (dT : TypeId)
    (ho : o.op = .call { callee := .builtin .copy, args := #[d, s], argTypes := #[dT, dT] }) (x y : Value) (n : Nat) (w' : World) (hd : a.eval d = x) (hs : a.eval s = y)
    (hr : (Builtin.copy_ #[dT, dT] o.type #[x, y]).run Try.prog w = .ok (goInt n) w') (h : wpList Try.prog ops Q rest (a.put o.dst (goInt n)) w') : wpList Try.prog ops Q (o :: rest) a w := by
  refine wpList_plain hgd fun K hK => ?_
  unfold Oper.wp
  simp [execOp, ho, resolve, invoke, builtin, hd, hs, hr, Result.andThen]
  exact hK _ _ h
theorem size_intE : (Try.prog.info? 3).map (·.size) = some 1 := by kernel_rfl
theorem wpList_copyI {w : World} {ops : Array Oper} {rest : List Oper} {o : Oper} {a : Act} {Q : Exit → Act → World → Prop} (hgd : o.guard = none) (d s : Operand)
    (ho : o.op = .call { callee := .builtin .copy, args := #[d, s], argTypes := #[24, 24] }) (base g n cap : Nat) (zs : List Value) (hd : a.eval d = .slice (some ⟨g, 0, none⟩) n cap) (hown : w.ownsRow base 3 1 (.slice (some ⟨g, 0, none⟩) n cap) n zs)
    (ao : Option Addr) (k c : Nat) (hs : a.eval s = .slice ao n c) (xs : List Int) (hx : IntsAt w (.slice ao n c) xs) (hn : xs.length = n)
    (h : ∀ w', Own base w' (.slice (some ⟨g, 0, none⟩) n cap) xs → w.grownBy w' (some g) → wpList Try.prog ops Q rest (a.put o.dst (goInt n)) w') : wpList Try.prog ops Q (o :: rest) a w := by
  obtain ⟨hsrc, _⟩ := ints_src hx
  obtain ⟨w', hr, h2, h3⟩ := run_copy_full w 24 o.type 3 1 (by decide) Try.underlying24 size_intE base g n cap zs hown ao c (xs.map icell) (by simp [hn]) hsrc (by intro u hu; obtain ⟨x, _, rfl⟩ := List.mem_map.1 hu; rfl)
  exact wpList_of_run_copy hgd d s _ ho _ _ n w' hd hs hr (h w' ⟨hx.1, by rw [hn]; exact h2⟩ h3)
end Go.Proofs.Ytmaagihfjldgeaa
