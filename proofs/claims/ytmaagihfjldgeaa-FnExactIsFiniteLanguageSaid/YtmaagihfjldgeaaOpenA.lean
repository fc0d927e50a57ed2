/- Arguments opened: an automaton. -/
import Derived.Test.YtmaagihfjldgeaaOpenG
import Derived.Test.YtmaagihfjldgeaaPsE
import Derived.Test.YtmaagihfjldgeaaA1
namespace Go.Proofs.Ytmaagihfjldgeaa
set_option maxRecDepth 100000
open Go.ChangeShapes Go.WideShapes Go.ChangeAt Go.RowKit Go.Joins Go.Deep
set_option linter.unusedVariables false

theorem cells_bool : Try.prog.cellsOf 4 = 1 := by kernel_rfl
theorem cells_intsA : Try.prog.cellsOf 24 = 1 := by kernel_rfl
theorem bos_of {H : Type} {enc : TypeId × Value → H} {W : World} {fuel : Nat} {v : Value} {x : DataW H × List MemPlace}
    (hf : DataW.trod enc Try.prog W 0 (fun _ => true) true fuel 36 [v] = some x) : ∃ xs, BosAt W v xs ∧ xs.length ≤ maxLen := by
  rcases open_slice Try.underlying36 hf with ⟨hcs, _⟩ | ⟨a, len, cap, m, n, D, Pl, hcs, _, hl, hm, hmm, _, hi⟩
  · injection hcs with hcs; subst hcs
    exact ⟨[], BosAt.nil _ _ _, Nat.zero_le _⟩
  · injection hcs with hcs; subst hcs
    have hmm' : m = cap := by simpa using hmm
    have each : ∀ i, i < len → ∃ g : Bool, W.cell? (a.add (i * 1)) = some (.bool g) := by
      intro i hi'
      obtain ⟨cs', h1, h2⟩ := hi i (by omega)
      rw [cells_bool] at h1
      obtain ⟨_, hlen, hat⟩ := World.cells?_some h1
      match cs', hlen with
      | [c0], _ =>
        obtain ⟨b, e, _⟩ := DataW.trod_bool Try.underlying4 h2
        have a0 := hat 0 (by omega)
        rw [show ∀ x : Addr, x.add 0 = x from fun x => by simp [Addr.add]] at a0
        simp at e a0
        subst e
        exact ⟨b, by simpa using a0⟩
    obtain ⟨f, hf'⟩ := choose_lt each
    by_cases h0 : len = 0
    · subst h0
      exact ⟨[], BosAt.nil _ _ _, Nat.zero_le _⟩
    · obtain ⟨b, off, spot⟩ := a
      have hc0 := hf' 0 (by omega)
      have hspot : spot = none := by simpa [Addr.add] using World.cell?_spot hc0
      subst hspot
      have hb : b < W.heap.size := by
        have := World.block_lt_of_cell? _ _ hc0
        simpa [Addr.add] using this
      refine ⟨(List.range len).map f, ⟨some ⟨b, off, none⟩, cap, by simp, fun i hi' => ?_⟩, by simp; omega⟩
      have hil : i < len := by simpa using hi'
      have hp := hf' i hil
      rw [add_plain, Nat.mul_one] at hp
      exact ⟨b, off, rfl, hb, by simpa using hp⟩
theorem iss_of {H : Type} {enc : TypeId × Value → H} {W : World} {fuel : Nat} {v : Value} {x : DataW H × List MemPlace}
    (hf : DataW.trod enc Try.prog W 0 (fun _ => true) true fuel 37 [v] = some x) : ∃ xs, IssAt W v xs ∧ xs.length ≤ maxLen ∧ ∀ i (h : i < xs.length), (xs[i]).length ≤ maxLen := by
  rcases open_slice Try.underlying37 hf with ⟨hcs, _⟩ | ⟨a, len, cap, m, n, D, Pl, hcs, _, hl, hm, hmm, _, hi⟩
  · injection hcs with hcs; subst hcs
    exact ⟨[], IssAt.nil _ _ _, Nat.zero_le _, fun k hk => by simp at hk⟩
  · injection hcs with hcs; subst hcs
    have hmm' : m = cap := by simpa using hmm
    have each : ∀ i, i < len → ∃ g : List Int, g.length ≤ maxLen ∧ ∃ p, W.cell? (a.add (i * 1)) = some p ∧ IntsAt W p g := by
      intro i hi'
      obtain ⟨cs', h1, h2⟩ := hi i (by omega)
      rw [cells_intsA] at h1
      obtain ⟨_, hlen, hat⟩ := World.cells?_some h1
      match cs', hlen with
      | [c0], _ =>
        obtain ⟨xs, hx, hxl⟩ := ints_of h2
        have a0 := hat 0 (by omega)
        rw [show ∀ x : Addr, x.add 0 = x from fun x => by simp [Addr.add]] at a0
        exact ⟨xs, hxl, c0, by simpa using a0, hx⟩
    obtain ⟨f, hf'⟩ := choose_lt each
    by_cases h0 : len = 0
    · subst h0
      exact ⟨[], IssAt.nil _ _ _, Nat.zero_le _, fun k hk => by simp at hk⟩
    · obtain ⟨b, off, spot⟩ := a
      obtain ⟨_, p0, hc0, _⟩ := hf' 0 (by omega)
      have hspot : spot = none := by simpa [Addr.add] using World.cell?_spot hc0
      subst hspot
      have hb : b < W.heap.size := by
        have := World.block_lt_of_cell? _ _ hc0
        simpa [Addr.add] using this
      refine ⟨(List.range len).map f, ⟨some ⟨b, off, none⟩, cap, by simp, fun i hi' => ?_⟩, by simp; omega, fun k hk => ?_⟩
      · have hil : i < len := by simpa using hi'
        obtain ⟨_, p, hp, hg⟩ := hf' i hil
        rw [add_plain, Nat.mul_one] at hp
        exact ⟨b, off, p, rfl, hb, hp, by simpa using hg⟩
      · have hil : k < len := by simpa using hk
        have := (hf' k hil).1
        simpa using this
theorem cells_laut : Try.prog.cellsOf 58 = 3 := by kernel_rfl
theorem under_laut : ∃ f0 f1 f2 : Field, Try.prog.underlying 58 = some (.struct #[f0, f1, f2]) ∧ (f0.type = 3 ∧ f1.type = 36 ∧ f2.type = 37) ∧ oneCellFields Try.prog #[f0, f1, f2] = true :=
  ⟨_, _, _, Try.underlying58, ⟨rfl, rfl, rfl⟩, by kernel_rfl⟩
theorem array3 {α : Type} {cs : Array α} (h : cs.size = 3) : ∃ c0 c1 c2, cs = #[c0, c1, c2] := by
  obtain ⟨l⟩ := cs
  match l, h with
  | [c0, c1, c2], _ => exact ⟨c0, c1, c2, rfl⟩
theorem aut_open {H : Type} {enc : TypeId × Value → H} {W : World} {base : Nat} {v : Value} {d : DataW H} {ps : List MemPlace} (hk : Value.okWide Try.prog W .any base 58 v)
    (h : DataW.Trod enc Try.prog W 0 (fun _ => true) true 58 v d ps) : ∃ A : Aut, AutAt W v A ∧ MxA A := by
  obtain ⟨f0, f1, f2, hu, ⟨t0, t1, t2⟩, hone⟩ := under_laut
  obtain ⟨cs, rfl, hsz⟩ := okWide_struct hu hk
  obtain ⟨c0, c1, c2, rfl⟩ := array3 (hsz.trans cells_laut)
  obtain ⟨fuel, hf⟩ := h
  obtain ⟨xs, n, _, hz, _, hxl, hx⟩ := DataW.trod_struct hu hf
  clear hz
  obtain ⟨o0, k0⟩ := hone_of hone 0 f0 rfl
  obtain ⟨o1, k1⟩ := hone_of hone 1 f1 rfl
  obtain ⟨o2, k2⟩ := hone_of hone 2 f2 rfl
  have g0 := hx 0 f0 rfl
  have g1 := hx 1 f1 rfl
  have g2 := hx 2 f2 rfl
  simp only [o0, k0, o1, k1, o2, k2] at g0 g1 g2
  match xs, hxl with
  | [y0, y1, y2], _ =>
    simp [Value.cells] at g0 g1 g2
    rw [t0] at g0
    rw [t1] at g1
    rw [t2] at g2
    obtain ⟨x0, e0, _, w0⟩ := DataW.trod_int Try.underlying3 g0
    obtain ⟨ac, h1, l1⟩ := bos_of g1
    obtain ⟨nx, h2, l2, l3⟩ := iss_of g2
    simp at e0
    subst e0
    exact ⟨⟨x0, ac, nx⟩, ⟨_, _, rfl, wf_i64 w0, h1, h2⟩, l1, l2, l3⟩
end Go.Proofs.Ytmaagihfjldgeaa
