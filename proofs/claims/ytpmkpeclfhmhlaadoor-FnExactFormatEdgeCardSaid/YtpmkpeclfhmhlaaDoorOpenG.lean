/- Arguments opened: an edge, a graph. -/
import Derived.Test.YtpmkpeclfhmhlaaDoorOpenI
import Derived.Test.YtpmkpeclfhmhlaaDoorK0
import Derived.Lib.SmallJoins
import Derived.Deep.Slices
namespace Go.Proofs.YtpmkpeclfhmhlaaDoor
set_option maxRecDepth 100000
open Go.ChangeShapes Go.WideShapes Go.ChangeAt Go.RowKit Go.Joins Go.Deep
set_option linter.unusedVariables false

theorem cells_ledge : Tryd.prog.cellsOf 23 = 4 := by kernel_rfl
theorem cells_lgraph : Tryd.prog.cellsOf 35 = 2 := by kernel_rfl
theorem under_ledge : ∃ f0 f1 f2 f3 : Field, Tryd.prog.underlying 23 = some (.struct #[f0, f1, f2, f3]) ∧ f0.type = 3 ∧ f1.type = 3 ∧ f2.type = 3 ∧ f3.type = 3 ∧
    f0.offset = 0 ∧ f1.offset = 1 ∧ f2.offset = 2 ∧ f3.offset = 3 ∧ oneCellFields Tryd.prog #[f0, f1, f2, f3] = true :=
  ⟨_, _, _, _, Tryd.underlying23, rfl, rfl, rfl, rfl, rfl, rfl, rfl, rfl, by kernel_rfl⟩
theorem under_lgraph : ∃ f0 f1 : Field, Tryd.prog.underlying 35 = some (.struct #[f0, f1]) ∧ f0.type = 32 ∧ f1.type = 33 ∧ oneCellFields Tryd.prog #[f0, f1] = true :=
  ⟨_, _, Tryd.underlying35, rfl, rfl, by kernel_rfl⟩

theorem ints_of {H : Type} {enc : TypeId × Value → H} {W : World} {fuel : Nat} {v : Value} {x : DataW H × List MemPlace}
    (hf : DataW.trod enc Tryd.prog W 0 (fun _ => true) true fuel 32 [v] = some x) : ∃ xs, IntsAt W v xs ∧ xs.length ≤ maxLen := by
  rcases open_ints Tryd.underlying32 Tryd.underlying3 cells_int hf with ⟨hcs, _⟩ | ⟨a, len', cap', zs, hcs, _, hl, hm, hz, _, hcell, hwz⟩
  · injection hcs with hcs; subst hcs
    exact ⟨[], ⟨fun x hx => by simp at hx, .inl ⟨rfl, _, _, rfl⟩⟩, Nat.zero_le _⟩
  · injection hcs with hcs; subst hcs
    have hz' : zs.length = cap' := by simpa using hz
    have hin : ∀ x ∈ zs.take len', InI x := fun x hx => wf_i64 (hwz x (List.mem_of_mem_take hx))
    have htl : (zs.take len').length = len' := by rw [List.length_take]; omega
    by_cases h0 : len' = 0
    · subst h0
      exact ⟨[], ⟨fun x hx => by simp at hx, .inl ⟨rfl, _, _, rfl⟩⟩, Nat.zero_le _⟩
    · obtain ⟨b, off, rfl, hc⟩ := ints_at hcell (by omega)
      have hb := World.block_lt_of_cell? _ _ (hc 0 (by omega))
      refine ⟨zs.take len', ⟨hin, .inr ⟨b, off, cap', by rw [htl], hb, fun i hi => ?_⟩⟩, ?_⟩
      · rw [hc i (by omega), List.getD_eq_getElem?_getD, List.getElem?_eq_getElem (by omega : i < zs.length)]
        simp
      · rw [htl]; omega
instance : Inhabited Edg := ⟨zeroE⟩
theorem edges_of {H : Type} {enc : TypeId × Value → H} {W : World} {fuel : Nat} {v : Value} {x : DataW H × List MemPlace}
    (hf : DataW.trod enc Tryd.prog W 0 (fun _ => true) true fuel 33 [v] = some x) : ∃ xs, EdgesAt W v xs ∧ xs.length ≤ maxLen := by
  rcases open_slice Tryd.underlying33 hf with ⟨hcs, _⟩ | ⟨a, len, cap, m, n, D, Pl, hcs, _, hl, hm, hmm, _, hi⟩
  · injection hcs with hcs; subst hcs
    exact ⟨[], EdgesAt.nil _ _ _, Nat.zero_le _⟩
  · injection hcs with hcs; subst hcs
    have hmm' : m = cap := by simpa using hmm
    obtain ⟨f0, f1, f2, f3, hu, t0, t1, t2, t3, o0, o1, o2, o3, hone⟩ := under_ledge
    have each : ∀ i, i < len → ∃ e : Edg, e.In ∧ W.cell? (a.add (i * 4)) = some (.int .i64 e.id) ∧ W.cell? ((a.add (i * 4)).add 1) = some (.int .i64 e.fr) ∧
        W.cell? ((a.add (i * 4)).add 2) = some (.int .i64 e.to) ∧ W.cell? ((a.add (i * 4)).add 3) = some (.int .i64 e.lb) := by
      intro i hi'
      obtain ⟨cs', h1, h2⟩ := hi i (by omega)
      rw [cells_ledge] at h1
      obtain ⟨_, hlen, hat⟩ := World.cells?_some h1
      obtain ⟨y0, y1, y2, y3, k, _, _, g0, g1, g2, g3⟩ := trod_struct4 hu h2
      match cs', hlen with
      | [c0, c1, c2, c3], _ =>
        have ci : Tryd.prog.cellsOf 3 = 1 := cells_int
        rw [t0, o0, ci] at g0
        rw [t1, o1, ci] at g1
        rw [t2, o2, ci] at g2
        rw [t3, o3, ci] at g3
        obtain ⟨x0, e0, _, w0⟩ := DataW.trod_int Tryd.underlying3 g0
        obtain ⟨x1, e1, _, w1⟩ := DataW.trod_int Tryd.underlying3 g1
        obtain ⟨x2, e2, _, w2⟩ := DataW.trod_int Tryd.underlying3 g2
        obtain ⟨x3, e3, _, w3⟩ := DataW.trod_int Tryd.underlying3 g3
        simp at e0 e1 e2 e3
        subst e0 e1 e2 e3
        have a0 := hat 0 (by omega)
        rw [show ∀ x : Addr, x.add 0 = x from fun x => by simp [Addr.add]] at a0
        exact ⟨⟨x0, x1, x2, x3⟩, ⟨wf_i64 w0, wf_i64 w1, wf_i64 w2, wf_i64 w3⟩, a0, hat 1 (by omega), hat 2 (by omega), hat 3 (by omega)⟩
    obtain ⟨f, hf'⟩ := choose_lt each
    by_cases h0 : len = 0
    · subst h0
      exact ⟨[], EdgesAt.nil _ _ _, Nat.zero_le _⟩
    · obtain ⟨b, off, spot⟩ := a
      have hspot : spot = none := by simpa [Addr.add] using World.cell?_spot (hf' 0 (by omega)).2.1
      subst hspot
      have hb : b < W.heap.size := by
        have := World.block_lt_of_cell? _ _ (hf' 0 (by omega)).2.1
        simpa [Addr.add] using this
      refine ⟨(List.range len).map f, ⟨fun e he => ?_, .inr ⟨b, off, cap, by simp, hb, fun i hi' => ?_⟩⟩, by simp; omega⟩
      · obtain ⟨i, hi', rfl⟩ := List.mem_map.1 he
        exact (hf' i (by simpa using hi')).1
      · have hil : i < len := by simpa using hi'
        have hh := (hf' i hil).2
        rw [add_plain, add_plain, add_plain, add_plain] at hh
        simpa using hh
theorem edge_open {H : Type} {enc : TypeId × Value → H} {W : World} {base : Nat} {v : Value} {d : DataW H} {ps : List MemPlace} (hk : Value.okWide Tryd.prog W .any base 23 v)
    (h : DataW.Trod enc Tryd.prog W 0 (fun _ => true) true 23 v d ps) : ∃ e : Edg, v = ev e ∧ e.In := by
  obtain ⟨f0, f1, f2, f3, hu, t0, t1, t2, t3, _, _, _, _, hone⟩ := under_ledge
  obtain ⟨v0, v1, v2, v3, y0, y1, y2, y3, n, rfl, _, _, g0, g1, g2, g3⟩ := open_agg4 hu hone cells_ledge hk h
  rw [t0] at g0
  rw [t1] at g1
  rw [t2] at g2
  rw [t3] at g3
  obtain ⟨x0, e0, _, w0⟩ := DataW.trod_int Tryd.underlying3 g0
  obtain ⟨x1, e1, _, w1⟩ := DataW.trod_int Tryd.underlying3 g1
  obtain ⟨x2, e2, _, w2⟩ := DataW.trod_int Tryd.underlying3 g2
  obtain ⟨x3, e3, _, w3⟩ := DataW.trod_int Tryd.underlying3 g3
  injection e0 with e0; injection e1 with e1; injection e2 with e2; injection e3 with e3
  subst e0 e1 e2 e3
  exact ⟨⟨x0, x1, x2, x3⟩, rfl, wf_i64 w0, wf_i64 w1, wf_i64 w2, wf_i64 w3⟩
theorem graph_open {H : Type} {enc : TypeId × Value → H} {W : World} {base : Nat} {v : Value} {d : DataW H} {ps : List MemPlace} (hk : Value.okWide Tryd.prog W .any base 35 v)
    (h : DataW.Trod enc Tryd.prog W 0 (fun _ => true) true 35 v d ps) : ∃ g : Grf, GrfAt W v g ∧ (g.vs.length ≤ maxLen ∧ g.es.length ≤ maxLen) := by
  obtain ⟨f0, f1, hu, t0, t1, hone⟩ := under_lgraph
  obtain ⟨v0, v1, y0, y1, n, rfl, _, _, g0, g1⟩ := open_agg2 hu hone cells_lgraph hk h
  rw [t0] at g0
  rw [t1] at g1
  obtain ⟨xs, hx, hxl⟩ := ints_of g0
  obtain ⟨es, he, hel⟩ := edges_of g1
  exact ⟨⟨xs, es⟩, ⟨_, _, rfl, hx, he⟩, hxl, hel⟩
end Go.Proofs.YtpmkpeclfhmhlaaDoor
