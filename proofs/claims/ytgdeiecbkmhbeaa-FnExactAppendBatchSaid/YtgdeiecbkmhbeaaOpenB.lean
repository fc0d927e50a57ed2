/- Arguments opened: a list of changes, a batch. -/
import Derived.Test.YtgdeiecbkmhbeaaOpenG
import Derived.Test.YtgdeiecbkmhbeaaChg
namespace Go.Proofs.Ytgdeiecbkmhbeaa
set_option maxRecDepth 100000
open Go.ChangeShapes Go.WideShapes Go.ChangeAt Go.RowKit Go.Joins Go.Deep
set_option linter.unusedVariables false

theorem cells_lchange : Try.prog.cellsOf 134 = 5 := by kernel_rfl
theorem cells_lbatch : Try.prog.cellsOf 50 = 1 := by kernel_rfl
theorem under_lchange : ∃ f0 f1 : Field, Try.prog.underlying 134 = some (.struct #[f0, f1]) ∧ f0.type = 4 ∧ f1.type = 132 ∧ f0.offset = 0 ∧ f1.offset = 1 :=
  ⟨_, _, Try.underlying134, rfl, rfl, rfl, rfl⟩
theorem under_lbatch : ∃ f0 : Field, Try.prog.underlying 50 = some (.struct #[f0]) ∧ f0.type = 48 ∧ oneCellFields Try.prog #[f0] = true :=
  ⟨_, Try.underlying50, rfl, by kernel_rfl⟩
instance : Inhabited Chg := ⟨zeroC⟩
theorem changes_of {H : Type} {enc : TypeId × Value → H} {W : World} {fuel : Nat} {v : Value} {x : DataW H × List MemPlace}
    (hf : DataW.trod enc Try.prog W 0 (fun _ => true) true fuel 48 [v] = some x) : ∃ xs, ChgsAt W v xs ∧ xs.length ≤ maxLen := by
  rcases open_slice Try.underlying48 hf with ⟨hcs, _⟩ | ⟨a, len, cap, m, n, D, Pl, hcs, _, hl, hm, hmm, _, hi⟩
  · injection hcs with hcs; subst hcs
    exact ⟨[], ChgsAt.nil _ _ _, Nat.zero_le _⟩
  · injection hcs with hcs; subst hcs
    have hmm' : m = cap := by simpa using hmm
    obtain ⟨f0, f1, hu, t0, t1, o0, o1⟩ := under_lchange
    obtain ⟨g0, g1, g2, g3, hug, u0, u1, u2, u3, p0, p1, p2, p3, _⟩ := under_ledge
    have each : ∀ i, i < len → ∃ c : Chg, c.ed.In ∧ W.cell? (a.add (i * 5)) = some (.bool c.ins) ∧ W.cell? ((a.add (i * 5)).add 1) = some (.int .i64 c.ed.id) ∧
        W.cell? ((a.add (i * 5)).add 2) = some (.int .i64 c.ed.fr) ∧ W.cell? ((a.add (i * 5)).add 3) = some (.int .i64 (Edg.to c.ed)) ∧ W.cell? ((a.add (i * 5)).add 4) = some (.int .i64 c.ed.lb) := by
      intro i hi'
      obtain ⟨cs', h1, h2⟩ := hi i (by omega)
      rw [cells_lchange] at h1
      obtain ⟨_, hlen, hat⟩ := World.cells?_some h1
      obtain ⟨y0, y1, k, _, _, q0, q1⟩ := trod_struct2 hu h2
      match cs', hlen with
      | [c0, c1, c2, c3, c4], _ =>
        have ci : Try.prog.cellsOf 3 = 1 := cells_int
        have cb : Try.prog.cellsOf 4 = 1 := by kernel_rfl
        rw [t0, o0, cb] at q0
        rw [t1, o1, cells_ledge] at q1
        obtain ⟨z0, z1, z2, z3, k2, _, _, r0, r1, r2, r3⟩ := trod_struct4 hug q1
        rw [u0, p0, ci] at r0
        rw [u1, p1, ci] at r1
        rw [u2, p2, ci] at r2
        rw [u3, p3, ci] at r3
        obtain ⟨x0, e0, _⟩ := DataW.trod_bool Try.underlying4 q0
        obtain ⟨x1, e1, _, w1⟩ := DataW.trod_int Try.underlying3 r0
        obtain ⟨x2, e2, _, w2⟩ := DataW.trod_int Try.underlying3 r1
        obtain ⟨x3, e3, _, w3⟩ := DataW.trod_int Try.underlying3 r2
        obtain ⟨x4, e4, _, w4⟩ := DataW.trod_int Try.underlying3 r3
        simp at e0 e1 e2 e3 e4
        subst e0 e1 e2 e3 e4
        have a0 := hat 0 (by omega)
        rw [show ∀ x : Addr, x.add 0 = x from fun x => by simp [Addr.add]] at a0
        exact ⟨⟨x0, ⟨x1, x2, x3, x4⟩⟩, ⟨wf_i64 w1, wf_i64 w2, wf_i64 w3, wf_i64 w4⟩, a0, hat 1 (by omega), hat 2 (by omega), hat 3 (by omega), hat 4 (by omega)⟩
    obtain ⟨f, hf'⟩ := choose_lt each
    by_cases h0 : len = 0
    · subst h0
      exact ⟨[], ChgsAt.nil _ _ _, Nat.zero_le _⟩
    · obtain ⟨b, off, spot⟩ := a
      have hspot : spot = none := by simpa [Addr.add] using World.cell?_spot (hf' 0 (by omega)).2.1
      subst hspot
      have hb : b < W.heap.size := by
        have := World.block_lt_of_cell? _ _ (hf' 0 (by omega)).2.1
        simpa [Addr.add] using this
      refine ⟨(List.range len).map f, ⟨fun e he => ?_, some ⟨b, off, none⟩, cap, by simp, fun i hi' => ?_⟩, by simp; omega⟩
      · obtain ⟨i, hi', rfl⟩ := List.mem_map.1 he
        exact (hf' i (by simpa using hi')).1
      · have hil : i < len := by simpa using hi'
        have hh := (hf' i hil).2
        rw [add_plain, add_plain, add_plain, add_plain, add_plain] at hh
        exact ⟨b, off, rfl, hb, by simpa using hh⟩
theorem array1 {α : Type} {cs : Array α} (h : cs.size = 1) : ∃ c0, cs = #[c0] := by
  obtain ⟨l⟩ := cs
  match l, h with
  | [c0], _ => exact ⟨c0, rfl⟩
theorem batch_open {H : Type} {enc : TypeId × Value → H} {W : World} {base : Nat} {v : Value} {d : DataW H} {ps : List MemPlace} (hk : Value.okWide Try.prog W .any base 50 v)
    (h : DataW.Trod enc Try.prog W 0 (fun _ => true) true 50 v d ps) : ∃ x : List Chg, BchAt W v x ∧ x.length ≤ maxLen := by
  obtain ⟨f0, hu, t0, hone⟩ := under_lbatch
  obtain ⟨cs, rfl, hsz⟩ := okWide_struct hu hk
  obtain ⟨c0, rfl⟩ := array1 (hsz.trans cells_lbatch)
  obtain ⟨fuel, hf⟩ := h
  obtain ⟨y0, n, hx, _, h0⟩ := trod_struct1 hu hf
  obtain ⟨o0, k0⟩ := hone_of hone 0 f0 rfl
  have g0 : DataW.trod enc Try.prog W 0 (fun _ => true) true n f0.type [c0] = some y0 := by simpa [Value.cells, o0, k0] using h0
  rw [t0] at g0
  obtain ⟨xs, hx, hxl⟩ := changes_of g0
  exact ⟨xs, ⟨_, rfl, hx⟩, hxl⟩
end Go.Proofs.Ytgdeiecbkmhbeaa
