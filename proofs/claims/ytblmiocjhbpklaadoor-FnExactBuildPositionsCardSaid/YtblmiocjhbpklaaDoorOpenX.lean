/- Arguments opened: a list of tokens, an expression. -/
import Derived.Test.YtblmiocjhbpklaaDoorOpenI
import Derived.Test.YtblmiocjhbpklaaDoorTok
import Derived.Lib.SmallJoins
import Derived.Deep.Slices
namespace Go.Proofs.YtblmiocjhbpklaaDoor
set_option maxRecDepth 100000
open Go.ChangeShapes Go.WideShapes Go.ChangeAt Go.RowKit Go.Joins Go.Deep
set_option linter.unusedVariables false
set_option linter.unusedSimpArgs false


theorem cells_ltok : Tryd.prog.cellsOf 155 = 4 := by kernel_rfl
theorem under_ltok : ∃ f0 f1 f2 f3 : Field, Tryd.prog.underlying 155 = some (.struct #[f0, f1, f2, f3]) ∧ f0.type = 3 ∧ f1.type = 3 ∧ f2.type = 3 ∧ f3.type = 3 ∧
    f0.offset = 0 ∧ f1.offset = 1 ∧ f2.offset = 2 ∧ f3.offset = 3 ∧ oneCellFields Tryd.prog #[f0, f1, f2, f3] = true :=
  ⟨_, _, _, _, Tryd.underlying155, rfl, rfl, rfl, rfl, rfl, rfl, rfl, rfl, by kernel_rfl⟩
instance : Inhabited Tok := ⟨zeroK⟩
theorem toks_of {H : Type} {enc : TypeId × Value → H} {W : World} {fuel : Nat} {v : Value} {x : DataW H × List MemPlace}
    (hf : DataW.trod enc Tryd.prog W 0 (fun _ => true) true fuel 52 [v] = some x) : ∃ xs, ToksAt W v xs ∧ xs.length ≤ maxLen := by
  rcases open_slice Tryd.underlying52 hf with ⟨hcs, _⟩ | ⟨a, len, cap, m, n, D, Pl, hcs, _, hl, hm, hmm, _, hi⟩
  · injection hcs with hcs; subst hcs
    exact ⟨[], ToksAt.nil _ _ _, Nat.zero_le _⟩
  · injection hcs with hcs; subst hcs
    have hmm' : m = cap := by simpa using hmm
    obtain ⟨f0, f1, f2, f3, hu, t0, t1, t2, t3, o0, o1, o2, o3, hone⟩ := under_ltok
    have each : ∀ i, i < len → ∃ e : Tok, e.In ∧ W.cell? (a.add (i * 4)) = some (.int .i64 e.kd) ∧ W.cell? ((a.add (i * 4)).add 1) = some (.int .i64 e.lr) ∧
        W.cell? ((a.add (i * 4)).add 2) = some (.int .i64 e.lo) ∧ W.cell? ((a.add (i * 4)).add 3) = some (.int .i64 e.hi) := by
      intro i hi'
      obtain ⟨cs', h1, h2⟩ := hi i (by omega)
      rw [cells_ltok] at h1
      obtain ⟨_, hlen, hat⟩ := World.cells?_some h1
      obtain ⟨y0, y1, y2, y3, k, _, _, g0, g1, g2, g3⟩ := trod_struct4 hu h2
      match cs', hlen with
      | [c0, c1, c2, c3], _ =>
        have ci : Tryd.prog.cellsOf 3 = 1 := cells_int
        rw [t0, o0, ci] at g0
        rw [t1, o1, ci] at g1
        rw [t2, o2, ci] at g2
        rw [t3, o3, ci] at g3
        obtain ⟨x0, e0, _, w0⟩ := DataW.trod_int Tryd.underlying3 g0
        obtain ⟨x1, e1, _, w1⟩ := DataW.trod_int Tryd.underlying3 g1
        obtain ⟨x2, e2, _, w2⟩ := DataW.trod_int Tryd.underlying3 g2
        obtain ⟨x3, e3, _, w3⟩ := DataW.trod_int Tryd.underlying3 g3
        simp at e0 e1 e2 e3
        subst e0 e1 e2 e3
        have a0 := hat 0 (by omega)
        rw [show ∀ x : Addr, x.add 0 = x from fun x => by simp [Addr.add]] at a0
        exact ⟨⟨x0, x1, x2, x3⟩, ⟨wf_i64 w0, wf_i64 w1, wf_i64 w2, wf_i64 w3⟩, a0, hat 1 (by omega), hat 2 (by omega), hat 3 (by omega)⟩
    obtain ⟨f, hf'⟩ := choose_lt each
    by_cases h0 : len = 0
    · subst h0
      exact ⟨[], ToksAt.nil _ _ _, Nat.zero_le _⟩
    · obtain ⟨b, off, spot⟩ := a
      have hspot : spot = none := by simpa [Addr.add] using World.cell?_spot (hf' 0 (by omega)).2.1
      subst hspot
      have hb : b < W.heap.size := by
        have := World.block_lt_of_cell? _ _ (hf' 0 (by omega)).2.1
        simpa [Addr.add] using this
      refine ⟨(List.range len).map f, ⟨fun e he => ?_, .inr ⟨b, off, cap, by simp, hb, fun i hi' => ?_⟩⟩, by simp; omega⟩
      · obtain ⟨i, hi', rfl⟩ := List.mem_map.1 he
        exact (hf' i (by simpa using hi')).1
      · have hil : i < len := by simpa using hi'
        have hh := (hf' i hil).2
        rw [add_plain, add_plain, add_plain, add_plain] at hh
        simpa using hh
theorem tok_open {H : Type} {enc : TypeId × Value → H} {W : World} {base : Nat} {v : Value} {d : DataW H} {ps : List MemPlace} (hk : Value.okWide Tryd.prog W .any base 155 v)
    (h : DataW.Trod enc Tryd.prog W 0 (fun _ => true) true 155 v d ps) : ∃ e : Tok, v = kv e ∧ e.In := by
  obtain ⟨f0, f1, f2, f3, hu, t0, t1, t2, t3, _, _, _, _, hone⟩ := under_ltok
  obtain ⟨v0, v1, v2, v3, y0, y1, y2, y3, n, rfl, _, _, g0, g1, g2, g3⟩ := open_agg4 hu hone cells_ltok hk h
  rw [t0] at g0
  rw [t1] at g1
  rw [t2] at g2
  rw [t3] at g3
  obtain ⟨x0, e0, _, w0⟩ := DataW.trod_int Tryd.underlying3 g0
  obtain ⟨x1, e1, _, w1⟩ := DataW.trod_int Tryd.underlying3 g1
  obtain ⟨x2, e2, _, w2⟩ := DataW.trod_int Tryd.underlying3 g2
  obtain ⟨x3, e3, _, w3⟩ := DataW.trod_int Tryd.underlying3 g3
  injection e0 with e0; injection e1 with e1; injection e2 with e2; injection e3 with e3
  subst e0 e1 e2 e3
  exact ⟨⟨x0, x1, x2, x3⟩, rfl, wf_i64 w0, wf_i64 w1, wf_i64 w2, wf_i64 w3⟩
theorem array1X {α : Type} {cs : Array α} (h : cs.size = 1) : ∃ c0, cs = #[c0] := by
  obtain ⟨l⟩ := cs
  match l, h with
  | [c0], _ => exact ⟨c0, rfl⟩
theorem cells_lexpr : Tryd.prog.cellsOf 54 = 1 := by kernel_rfl
theorem under_lexpr : ∃ f0 : Field, Tryd.prog.underlying 54 = some (.struct #[f0]) ∧ f0.type = 52 ∧ oneCellFields Tryd.prog #[f0] = true :=
  ⟨_, Tryd.underlying54, rfl, by kernel_rfl⟩
theorem expr_open {H : Type} {enc : TypeId × Value → H} {W : World} {base : Nat} {v : Value} {d : DataW H} {ps : List MemPlace} (hk : Value.okWide Tryd.prog W .any base 54 v)
    (h : DataW.Trod enc Tryd.prog W 0 (fun _ => true) true 54 v d ps) : ∃ x : List Tok, ExAt W v x ∧ x.length ≤ maxLen := by
  obtain ⟨f0, hu, t0, hone⟩ := under_lexpr
  obtain ⟨cs, rfl, hsz⟩ := okWide_struct hu hk
  obtain ⟨c0, rfl⟩ := array1X (hsz.trans cells_lexpr)
  obtain ⟨fuel, hf⟩ := h
  obtain ⟨y0, n, hx, _, h0⟩ := trod_struct1 hu hf
  obtain ⟨o0, k0⟩ := hone_of hone 0 f0 rfl
  have g0 : DataW.trod enc Tryd.prog W 0 (fun _ => true) true n f0.type [c0] = some y0 := by simpa [Value.cells, o0, k0] using h0
  rw [t0] at g0
  obtain ⟨xs, hx, hxl⟩ := toks_of g0
  exact ⟨xs, ⟨_, rfl, hx⟩, hxl⟩
end Go.Proofs.YtblmiocjhbpklaaDoor
