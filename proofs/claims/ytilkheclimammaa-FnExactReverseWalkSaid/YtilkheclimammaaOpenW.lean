/- Arguments opened: a list of steps, a walk. -/
import Derived.Test.YtilkheclimammaaOpenS
import Derived.Test.YtilkheclimammaaWlk
namespace Go.Proofs.Ytilkheclimammaa
set_option maxRecDepth 100000
open Go.ChangeShapes Go.WideShapes Go.ChangeAt Go.RowKit Go.Joins Go.Deep
set_option linter.unusedVariables false

theorem cells_lwalk : Try.prog.cellsOf 47 = 2 := by kernel_rfl
theorem under_lwalk : ∃ f0 f1 : Field, Try.prog.underlying 47 = some (.struct #[f0, f1]) ∧ f0.type = 3 ∧ f1.type = 45 ∧ oneCellFields Try.prog #[f0, f1] = true :=
  ⟨_, _, Try.underlying47, rfl, rfl, by kernel_rfl⟩
theorem under_lstep2 : ∃ f0 f1 : Field, Try.prog.underlying 122 = some (.struct #[f0, f1]) ∧ f0.type = 3 ∧ f1.type = 4 ∧ f0.offset = 0 ∧ f1.offset = 1 :=
  ⟨_, _, Try.underlying122, rfl, rfl, rfl, rfl⟩
instance : Inhabited Stp := ⟨zeroS⟩
theorem StpsAt.nil (w : World) (ao : Option Addr) (cap : Nat) : StpsAt w (.slice ao 0 cap) [] := ⟨ao, cap, rfl, fun i hi => by simp at hi⟩
theorem steps_of {H : Type} {enc : TypeId × Value → H} {W : World} {fuel : Nat} {v : Value} {x : DataW H × List MemPlace}
    (hf : DataW.trod enc Try.prog W 0 (fun _ => true) true fuel 45 [v] = some x) : ∃ xs, StpsAt W v xs ∧ xs.length ≤ maxLen := by
  rcases open_slice Try.underlying45 hf with ⟨hcs, _⟩ | ⟨a, len, cap, m, n, D, Pl, hcs, _, hl, hm, hmm, _, hi⟩
  · injection hcs with hcs; subst hcs
    exact ⟨[], StpsAt.nil _ _ _, Nat.zero_le _⟩
  · injection hcs with hcs; subst hcs
    have hmm' : m = cap := by simpa using hmm
    obtain ⟨f0, f1, hu, t0, t1, o0, o1⟩ := under_lstep2
    have each : ∀ i, i < len → ∃ s : Stp, W.cell? (a.add (i * 2)) = some (.int .i64 s.id) ∧ W.cell? ((a.add (i * 2)).add 1) = some (.bool s.inv) := by
      intro i hi'
      obtain ⟨cs', h1, h2⟩ := hi i (by omega)
      rw [cells_lstep] at h1
      obtain ⟨_, hlen, hat⟩ := World.cells?_some h1
      obtain ⟨y0, y1, k, _, _, g0, g1⟩ := trod_struct2 hu h2
      match cs', hlen with
      | [c0, c1], _ =>
        have ci : Try.prog.cellsOf 3 = 1 := cells_int
        have cb : Try.prog.cellsOf 4 = 1 := by kernel_rfl
        rw [t0, o0, ci] at g0
        rw [t1, o1, cb] at g1
        obtain ⟨x0, e0, _, w0⟩ := DataW.trod_int Try.underlying3 g0
        obtain ⟨x1, e1, _⟩ := DataW.trod_bool Try.underlying4 g1
        simp at e0 e1
        subst e0 e1
        have a0 := hat 0 (by omega)
        rw [show ∀ x : Addr, x.add 0 = x from fun x => by simp [Addr.add]] at a0
        exact ⟨⟨x0, x1⟩, a0, hat 1 (by omega)⟩
    obtain ⟨f, hf'⟩ := choose_lt each
    by_cases h0 : len = 0
    · subst h0
      exact ⟨[], StpsAt.nil _ _ _, Nat.zero_le _⟩
    · obtain ⟨b, off, spot⟩ := a
      have hspot : spot = none := by simpa [Addr.add] using World.cell?_spot (hf' 0 (by omega)).1
      subst hspot
      have hb : b < W.heap.size := by
        have := World.block_lt_of_cell? _ _ (hf' 0 (by omega)).1
        simpa [Addr.add] using this
      refine ⟨(List.range len).map f, ⟨some ⟨b, off, none⟩, cap, by simp, fun i hi' => ?_⟩, by simp; omega⟩
      have hil : i < len := by simpa using hi'
      have hh := hf' i hil
      rw [add_plain, add_plain] at hh
      exact ⟨b, off, rfl, hb, by simpa using hh⟩
theorem walk_open {H : Type} {enc : TypeId × Value → H} {W : World} {base : Nat} {v : Value} {d : DataW H} {ps : List MemPlace} (hk : Value.okWide Try.prog W .any base 47 v)
    (h : DataW.Trod enc Try.prog W 0 (fun _ => true) true 47 v d ps) : ∃ x : Wlk, WlkAt W v x ∧ x.ss.length ≤ maxLen := by
  obtain ⟨f0, f1, hu, t0, t1, hone⟩ := under_lwalk
  obtain ⟨v0, v1, y0, y1, n, rfl, _, _, g0, g1⟩ := open_agg2 hu hone cells_lwalk hk h
  rw [t0] at g0
  rw [t1] at g1
  obtain ⟨x0, e0, _, w0⟩ := DataW.trod_int Try.underlying3 g0
  injection e0 with e0
  subst e0
  obtain ⟨ss, hs, hsl⟩ := steps_of g1
  exact ⟨⟨x0, ss⟩, ⟨_, rfl, hs⟩, hsl⟩
end Go.Proofs.Ytilkheclimammaa
