/- Arguments opened: a history. -/
import Derived.Test.YtgdeiecbkmhbeaaOpenG
import Derived.Test.YtgdeiecbkmhbeaaHsM
namespace Go.Proofs.Ytgdeiecbkmhbeaa
set_option maxRecDepth 100000
open Go.ChangeShapes Go.WideShapes Go.ChangeAt Go.RowKit Go.Joins Go.Deep
set_option linter.unusedVariables false

theorem cells_lhist : Try.prog.cellsOf 59 = 2 := by kernel_rfl
theorem under_lhist : ∃ f0 f1 : Field, Try.prog.underlying 59 = some (.struct #[f0, f1]) ∧ f0.type = 3 ∧ f1.type = 57 ∧ oneCellFields Try.prog #[f0, f1] = true :=
  ⟨_, _, Try.underlying59, rfl, rfl, by kernel_rfl⟩
theorem under_lgraphO : ∃ f0 f1 : Field, Try.prog.underlying 65 = some (.struct #[f0, f1]) ∧ f0.type = 36 ∧ f1.type = 63 ∧ f0.offset = 0 ∧ f1.offset = 1 :=
  ⟨_, _, Try.underlying65, rfl, rfl, rfl, rfl⟩
instance : Inhabited Grf := ⟨zeroGr⟩
theorem grs_of {H : Type} {enc : TypeId × Value → H} {W : World} {fuel : Nat} {v : Value} {x : DataW H × List MemPlace}
    (hf : DataW.trod enc Try.prog W 0 (fun _ => true) true fuel 57 [v] = some x) : ∃ gs, GrsAt W v gs ∧ gs.length ≤ maxLen ∧ ∀ k (hk : k < gs.length), (gs[k]).vs.length ≤ maxLen ∧ (gs[k]).es.length ≤ maxLen := by
  rcases open_slice Try.underlying57 hf with ⟨hcs, _⟩ | ⟨a, len, cap, m, n, D, Pl, hcs, _, hl, hm, hmm, _, hi⟩
  · injection hcs with hcs; subst hcs
    exact ⟨[], GrsAt.nil _ _ _, Nat.zero_le _, fun k hk => by simp at hk⟩
  · injection hcs with hcs; subst hcs
    have hmm' : m = cap := by simpa using hmm
    obtain ⟨f0, f1, hu, t0, t1, o0, o1⟩ := under_lgraphO
    have each : ∀ i, i < len → ∃ g : Grf, (g.vs.length ≤ maxLen ∧ g.es.length ≤ maxLen) ∧ ∃ p q, W.cell? (a.add (i * 2)) = some p ∧ W.cell? ((a.add (i * 2)).add 1) = some q ∧ GrfAt W (.agg #[p, q]) g := by
      intro i hi'
      obtain ⟨cs', h1, h2⟩ := hi i (by omega)
      rw [cells_lgraph] at h1
      obtain ⟨_, hlen, hat⟩ := World.cells?_some h1
      obtain ⟨y0, y1, k, _, _, g0, g1⟩ := trod_struct2 hu h2
      match cs', hlen with
      | [c0, c1], _ =>
        have ci : Try.prog.cellsOf 36 = 1 := by kernel_rfl
        have cb : Try.prog.cellsOf 63 = 1 := by kernel_rfl
        rw [t0, o0, ci] at g0
        rw [t1, o1, cb] at g1
        obtain ⟨xs, hx, hxl⟩ := ints_of g0
        obtain ⟨es, he, hel⟩ := edges_of g1
        have a0 := hat 0 (by omega)
        rw [show ∀ x : Addr, x.add 0 = x from fun x => by simp [Addr.add]] at a0
        exact ⟨⟨xs, es⟩, ⟨hxl, hel⟩, c0, c1, a0, hat 1 (by omega), ⟨_, _, rfl, hx, he⟩⟩
    obtain ⟨f, hf'⟩ := choose_lt each
    by_cases h0 : len = 0
    · subst h0
      exact ⟨[], GrsAt.nil _ _ _, Nat.zero_le _, fun k hk => by simp at hk⟩
    · obtain ⟨b, off, spot⟩ := a
      obtain ⟨_, p0, _, hc0, _⟩ := hf' 0 (by omega)
      have hspot : spot = none := by simpa [Addr.add] using World.cell?_spot hc0
      subst hspot
      have hb : b < W.heap.size := by
        have := World.block_lt_of_cell? _ _ hc0
        simpa [Addr.add] using this
      refine ⟨(List.range len).map f, ⟨some ⟨b, off, none⟩, cap, by simp, fun i hi' => ?_⟩, by simp; omega, fun k hk => ?_⟩
      · have hil : i < len := by simpa using hi'
        obtain ⟨_, p, q, hp, hq, hg⟩ := hf' i hil
        rw [add_plain] at hp
        rw [add_plain, add_plain] at hq
        exact ⟨b, off, p, q, rfl, hb, hp, hq, by simpa using hg⟩
      · have hil : k < len := by simpa using hk
        have := (hf' k hil).1
        simpa using this
theorem hist_open {H : Type} {enc : TypeId × Value → H} {W : World} {base : Nat} {v : Value} {d : DataW H} {ps : List MemPlace} (hk : Value.okWide Try.prog W .any base 59 v)
    (h : DataW.Trod enc Try.prog W 0 (fun _ => true) true 59 v d ps) : ∃ x : Hst, HstAt W v x ∧ MxH x := by
  obtain ⟨f0, f1, hu, t0, t1, hone⟩ := under_lhist
  obtain ⟨v0, v1, y0, y1, n, rfl, _, _, g0, g1⟩ := open_agg2 hu hone cells_lhist hk h
  rw [t0] at g0
  rw [t1] at g1
  obtain ⟨x0, e0, _, w0⟩ := DataW.trod_int Try.underlying3 g0
  injection e0 with e0
  subst e0
  obtain ⟨gs, hg, hl, hk⟩ := grs_of g1
  exact ⟨⟨x0, gs⟩, ⟨_, rfl, hg⟩, hl, hk⟩
end Go.Proofs.Ytgdeiecbkmhbeaa
