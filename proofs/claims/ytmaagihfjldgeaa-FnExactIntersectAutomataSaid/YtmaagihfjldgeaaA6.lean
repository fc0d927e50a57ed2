/- OpenG, OpenA, Head: small words and contracts that the other texts use. -/
import Derived.Test.YtmaagihfjldgeaaOpenI
import Derived.Test.YtmaagihfjldgeaaK0
import Derived.Lib.SmallJoins
import Derived.Deep.Slices
import Derived.Test.YtmaagihfjldgeaaA1
import Derived.Test.YtmaagihfjldgeaaProg
import Derived.Test.YtmaagihfjldgeaaChecked
import Derived.Test.YtmaagihfjldgeaaRows
/- Arguments opened: an edge, a graph. -/
namespace Go.Proofs.Ytmaagihfjldgeaa
set_option maxRecDepth 100000
open Go.ChangeShapes Go.WideShapes Go.ChangeAt Go.RowKit Go.Joins Go.Deep
set_option linter.unusedVariables false
theorem ints_of {H : Type} {enc : TypeId × Value → H} {W : World} {fuel : Nat} {v : Value} {x : DataW H × List MemPlace}
    (hf : DataW.trod enc Try.prog W 0 (fun _ => true) true fuel 24 [v] = some x) : ∃ xs, IntsAt W v xs ∧ xs.length ≤ maxLen := by
  rcases open_ints Try.underlying24 Try.underlying3 cells_int hf with ⟨hcs, _⟩ | ⟨a, len', cap', zs, hcs, _, hl, hm, hz, _, hcell, hwz⟩
  · injection hcs with hcs; subst hcs
    exact ⟨[], ⟨fun x hx => by simp at hx, .inl ⟨rfl, _, _, rfl⟩⟩, Nat.zero_le _⟩
  · injection hcs with hcs; subst hcs
    have hz' : zs.length = cap' := by simpa using hz
    have hin : ∀ x ∈ zs.take len', InI x := fun x hx => wf_i64 (hwz x (List.mem_of_mem_take hx))
    have htl : (zs.take len').length = len' := by rw [List.length_take]; omega
    by_cases h0 : len' = 0
    · subst h0
      exact ⟨[], ⟨fun x hx => by simp at hx, .inl ⟨rfl, _, _, rfl⟩⟩, Nat.zero_le _⟩
    · obtain ⟨b, off, rfl, hc⟩ := ints_at hcell (by omega)
      have hb := World.block_lt_of_cell? _ _ (hc 0 (by omega))
      refine ⟨zs.take len', ⟨hin, .inr ⟨b, off, cap', by rw [htl], hb, fun i hi => ?_⟩⟩, ?_⟩
      · rw [hc i (by omega), List.getD_eq_getElem?_getD, List.getElem?_eq_getElem (by omega : i < zs.length)]
        simp
      · rw [htl]; omega
instance : Inhabited Edg := ⟨zeroE⟩
end Go.Proofs.Ytmaagihfjldgeaa

/- Arguments opened: an automaton. -/
namespace Go.Proofs.Ytmaagihfjldgeaa
set_option maxRecDepth 100000
open Go.ChangeShapes Go.WideShapes Go.ChangeAt Go.RowKit Go.Joins Go.Deep
set_option linter.unusedVariables false

theorem cells_bool : Try.prog.cellsOf 4 = 1 := by kernel_rfl
theorem cells_intsA : Try.prog.cellsOf 24 = 1 := by kernel_rfl
theorem bos_of {H : Type} {enc : TypeId × Value → H} {W : World} {fuel : Nat} {v : Value} {x : DataW H × List MemPlace}
    (hf : DataW.trod enc Try.prog W 0 (fun _ => true) true fuel 36 [v] = some x) : ∃ xs, BosAt W v xs ∧ xs.length ≤ maxLen := by
  rcases open_slice Try.underlying36 hf with ⟨hcs, _⟩ | ⟨a, len, cap, m, n, D, Pl, hcs, _, hl, hm, hmm, _, hi⟩
  · injection hcs with hcs; subst hcs
    exact ⟨[], BosAt.nil _ _ _, Nat.zero_le _⟩
  · injection hcs with hcs; subst hcs
    have hmm' : m = cap := by simpa using hmm
    have each : ∀ i, i < len → ∃ g : Bool, W.cell? (a.add (i * 1)) = some (.bool g) := by
      intro i hi'
      obtain ⟨cs', h1, h2⟩ := hi i (by omega)
      rw [cells_bool] at h1
      obtain ⟨_, hlen, hat⟩ := World.cells?_some h1
      match cs', hlen with
      | [c0], _ =>
        obtain ⟨b, e, _⟩ := DataW.trod_bool Try.underlying4 h2
        have a0 := hat 0 (by omega)
        rw [show ∀ x : Addr, x.add 0 = x from fun x => by simp [Addr.add]] at a0
        simp at e a0
        subst e
        exact ⟨b, by simpa using a0⟩
    obtain ⟨f, hf'⟩ := choose_lt each
    by_cases h0 : len = 0
    · subst h0
      exact ⟨[], BosAt.nil _ _ _, Nat.zero_le _⟩
    · obtain ⟨b, off, spot⟩ := a
      have hc0 := hf' 0 (by omega)
      have hspot : spot = none := by simpa [Addr.add] using World.cell?_spot hc0
      subst hspot
      have hb : b < W.heap.size := by
        have := World.block_lt_of_cell? _ _ hc0
        simpa [Addr.add] using this
      refine ⟨(List.range len).map f, ⟨some ⟨b, off, none⟩, cap, by simp, fun i hi' => ?_⟩, by simp; omega⟩
      have hil : i < len := by simpa using hi'
      have hp := hf' i hil
      rw [add_plain, Nat.mul_one] at hp
      exact ⟨b, off, rfl, hb, by simpa using hp⟩
theorem iss_of {H : Type} {enc : TypeId × Value → H} {W : World} {fuel : Nat} {v : Value} {x : DataW H × List MemPlace}
    (hf : DataW.trod enc Try.prog W 0 (fun _ => true) true fuel 37 [v] = some x) : ∃ xs, IssAt W v xs ∧ xs.length ≤ maxLen ∧ ∀ i (h : i < xs.length), (xs[i]).length ≤ maxLen := by
  rcases open_slice Try.underlying37 hf with ⟨hcs, _⟩ | ⟨a, len, cap, m, n, D, Pl, hcs, _, hl, hm, hmm, _, hi⟩
  · injection hcs with hcs; subst hcs
    exact ⟨[], IssAt.nil _ _ _, Nat.zero_le _, fun k hk => by simp at hk⟩
  · injection hcs with hcs; subst hcs
    have hmm' : m = cap := by simpa using hmm
    have each : ∀ i, i < len → ∃ g : List Int, g.length ≤ maxLen ∧ ∃ p, W.cell? (a.add (i * 1)) = some p ∧ IntsAt W p g := by
      intro i hi'
      obtain ⟨cs', h1, h2⟩ := hi i (by omega)
      rw [cells_intsA] at h1
      obtain ⟨_, hlen, hat⟩ := World.cells?_some h1
      match cs', hlen with
      | [c0], _ =>
        obtain ⟨xs, hx, hxl⟩ := ints_of h2
        have a0 := hat 0 (by omega)
        rw [show ∀ x : Addr, x.add 0 = x from fun x => by simp [Addr.add]] at a0
        exact ⟨xs, hxl, c0, by simpa using a0, hx⟩
    obtain ⟨f, hf'⟩ := choose_lt each
    by_cases h0 : len = 0
    · subst h0
      exact ⟨[], IssAt.nil _ _ _, Nat.zero_le _, fun k hk => by simp at hk⟩
    · obtain ⟨b, off, spot⟩ := a
      obtain ⟨_, p0, hc0, _⟩ := hf' 0 (by omega)
      have hspot : spot = none := by simpa [Addr.add] using World.cell?_spot hc0
      subst hspot
      have hb : b < W.heap.size := by
        have := World.block_lt_of_cell? _ _ hc0
        simpa [Addr.add] using this
      refine ⟨(List.range len).map f, ⟨some ⟨b, off, none⟩, cap, by simp, fun i hi' => ?_⟩, by simp; omega, fun k hk => ?_⟩
      · have hil : i < len := by simpa using hi'
        obtain ⟨_, p, hp, hg⟩ := hf' i hil
        rw [add_plain, Nat.mul_one] at hp
        exact ⟨b, off, p, rfl, hb, hp, by simpa using hg⟩
      · have hil : k < len := by simpa using hk
        have := (hf' k hil).1
        simpa using this
theorem cells_laut : Try.prog.cellsOf 58 = 3 := by kernel_rfl
theorem under_laut : ∃ f0 f1 f2 : Field, Try.prog.underlying 58 = some (.struct #[f0, f1, f2]) ∧ (f0.type = 3 ∧ f1.type = 36 ∧ f2.type = 37) ∧ oneCellFields Try.prog #[f0, f1, f2] = true :=
  ⟨_, _, _, Try.underlying58, ⟨rfl, rfl, rfl⟩, by kernel_rfl⟩
theorem array3 {α : Type} {cs : Array α} (h : cs.size = 3) : ∃ c0 c1 c2, cs = #[c0, c1, c2] := by
  obtain ⟨l⟩ := cs
  match l, h with
  | [c0, c1, c2], _ => exact ⟨c0, c1, c2, rfl⟩
theorem aut_open {H : Type} {enc : TypeId × Value → H} {W : World} {base : Nat} {v : Value} {d : DataW H} {ps : List MemPlace} (hk : Value.okWide Try.prog W .any base 58 v)
    (h : DataW.Trod enc Try.prog W 0 (fun _ => true) true 58 v d ps) : ∃ A : Aut, AutAt W v A ∧ MxA A := by
  obtain ⟨f0, f1, f2, hu, ⟨t0, t1, t2⟩, hone⟩ := under_laut
  obtain ⟨cs, rfl, hsz⟩ := okWide_struct hu hk
  obtain ⟨c0, c1, c2, rfl⟩ := array3 (hsz.trans cells_laut)
  obtain ⟨fuel, hf⟩ := h
  obtain ⟨xs, n, _, hz, _, hxl, hx⟩ := DataW.trod_struct hu hf
  clear hz
  obtain ⟨o0, k0⟩ := hone_of hone 0 f0 rfl
  obtain ⟨o1, k1⟩ := hone_of hone 1 f1 rfl
  obtain ⟨o2, k2⟩ := hone_of hone 2 f2 rfl
  have g0 := hx 0 f0 rfl
  have g1 := hx 1 f1 rfl
  have g2 := hx 2 f2 rfl
  simp only [o0, k0, o1, k1, o2, k2] at g0 g1 g2
  match xs, hxl with
  | [y0, y1, y2], _ =>
    simp [Value.cells] at g0 g1 g2
    rw [t0] at g0
    rw [t1] at g1
    rw [t2] at g2
    obtain ⟨x0, e0, _, w0⟩ := DataW.trod_int Try.underlying3 g0
    obtain ⟨ac, h1, l1⟩ := bos_of g1
    obtain ⟨nx, h2, l2, l3⟩ := iss_of g2
    simp at e0
    subst e0
    exact ⟨⟨x0, ac, nx⟩, ⟨_, _, rfl, wf_i64 w0, h1, h2⟩, l1, l2, l3⟩
end Go.Proofs.Ytmaagihfjldgeaa

/- The program's head line: that it is a cut. -/
namespace Go.Proofs.Ytmaagihfjldgeaa
set_option maxRecDepth 100000
set_option linter.unusedVariables false
set_option linter.unusedSimpArgs false

def headL : List Char := List.map Char.ofNat [104, 97, 114, 110, 101, 115, 115, 32, 56, 100, 49, 50, 54, 101, 101, 97, 51, 98, 97, 51, 50, 101, 101, 49, 54, 53, 55, 99, 57, 53, 98, 101, 55, 98, 55, 50, 52, 50, 98, 98, 55, 100, 98, 102, 49, 51, 99, 102, 57, 49, 100, 54, 57, 97, 49, 48, 57, 98, 50, 57, 48, 50, 51, 101, 100, 97, 54, 102, 100, 102, 54, 50, 32, 99, 117, 116, 32, 97, 116, 32, 108, 111, 111, 112, 46, 101, 120, 97, 109, 112, 108, 101, 47, 103, 48, 49, 57, 50, 50, 47, 108, 97, 119, 115, 46, 70, 110, 65, 109, 98, 105, 103, 117, 105, 116, 121, 32, 108, 111, 111, 112, 46, 101, 120, 97, 109, 112, 108, 101, 47, 103, 48, 49, 57, 50, 50, 47, 108, 97, 119, 115, 46, 70, 110, 77, 105, 110, 105, 109, 97, 108, 32, 108, 111, 111, 112, 46, 101, 120, 97, 109, 112, 108, 101, 47, 103, 48, 49, 57, 50, 50, 47, 108, 97, 119, 115, 46, 70, 110, 77, 105, 115, 115, 105, 110, 103, 87, 111, 114, 100, 32, 108, 111, 111, 112, 46, 101, 120, 97, 109, 112, 108, 101, 47, 103, 48, 49, 57, 50, 50, 47, 108, 97, 119, 115, 46, 70, 110, 69, 120, 97, 99, 116, 65, 109, 98, 105, 103, 117, 111, 117, 115, 87, 111, 114, 100, 32, 108, 111, 111, 112, 46, 101, 120, 97, 109, 112, 108, 101, 47, 103, 48, 49, 57, 50, 50, 47, 108, 97, 119, 115, 46, 70, 110, 69, 120, 97, 99, 116, 73, 115, 85, 110, 97, 109, 98, 105, 103, 117, 111, 117, 115, 32, 108, 111, 111, 112, 46, 101, 120, 97, 109, 112, 108, 101, 47, 103, 48, 49, 57, 50, 50, 47, 108, 97, 119, 115, 46, 70, 110, 69, 120, 97, 99, 116, 68, 105, 115, 116, 105, 110, 103, 117, 105, 115, 104, 105, 110, 103, 87, 111, 114, 100, 32, 108, 111, 111, 112, 46, 101, 120, 97, 109, 112, 108, 101, 47, 103, 48, 49, 57, 50, 50, 47, 108, 97, 119, 115, 46, 70, 110, 69, 120, 97, 99, 116, 67, 111, 109, 112, 108, 101, 109, 101, 110, 116, 65, 117, 116, 111, 109, 97, 116, 111, 110, 32, 108, 111, 111, 112, 46, 101, 120, 97, 109, 112, 108, 101, 47, 103, 48, 49, 57, 50, 50, 47, 108, 97, 119, 115, 46, 70, 110, 69, 120, 97, 99, 116, 73, 110, 116, 101, 114, 115, 101, 99, 116, 65, 117, 116, 111, 109, 97, 116, 97, 32, 108, 111, 111, 112, 46, 101, 120, 97, 109, 112, 108, 101, 47, 103, 48, 49, 57, 50, 50, 47, 108, 97, 119, 115, 46, 70, 110, 69, 120, 97, 99, 116, 85, 110, 105, 116, 101, 65, 117, 116, 111, 109, 97, 116, 97, 32, 108, 111, 111, 112, 46, 101, 120, 97, 109, 112, 108, 101, 47, 103, 48, 49, 57, 50, 50, 47, 108, 97, 119, 115, 46, 70, 110, 69, 120, 97, 99, 116, 83, 117, 98, 116, 114, 97, 99, 116, 65, 117, 116, 111, 109, 97, 116, 97, 32, 108, 111, 111, 112, 46, 101, 120, 97, 109, 112, 108, 101, 47, 103, 48, 49, 57, 50, 50, 47, 108, 97, 119, 115, 46, 70, 110, 69, 120, 97, 99, 116, 73, 115, 69, 109, 112, 116, 121, 65, 117, 116, 111, 109, 97, 116, 111, 110, 32, 108, 111, 111, 112, 46, 101, 120, 97, 109, 112, 108, 101, 47, 103, 48, 49, 57, 50, 50, 47, 108, 97, 119, 115, 46, 70, 110, 69, 120, 97, 99, 116, 83, 104, 111, 114, 116, 101, 115, 116, 65, 99, 99, 101, 112, 116, 101, 100, 32, 108, 111, 111, 112, 46, 101, 120, 97, 109, 112, 108, 101, 47, 103, 48, 49, 57, 50, 50, 47, 108, 97, 119, 115, 46, 70, 110, 69, 120, 97, 99, 116, 77, 105, 115, 115, 105, 110, 103, 87, 111, 114, 100, 32, 108, 111, 111, 112, 46, 101, 120, 97, 109, 112, 108, 101, 47, 103, 48, 49, 57, 50, 50, 47, 108, 97, 119, 115, 46, 70, 110, 69, 120, 97, 99, 116, 73, 110, 99, 108, 117, 100, 101, 115, 76, 97, 110, 103, 117, 97, 103, 101, 32, 108, 111, 111, 112, 46, 101, 120, 97, 109, 112, 108, 101, 47, 103, 48, 49, 57, 50, 50, 47, 108, 97, 119, 115, 46, 70, 110, 69, 120, 97, 99, 116, 65, 114, 101, 69, 113, 117, 105, 118, 97, 108, 101, 110, 116, 32, 108, 111, 111, 112, 46, 101, 120, 97, 109, 112, 108, 101, 47, 103, 48, 49, 57, 50, 50, 47, 108, 97, 119, 115, 46, 70, 110, 69, 120, 97, 99, 116, 73, 115, 70, 105, 110, 105, 116, 101, 76, 97, 110, 103, 117, 97, 103, 101]
theorem head_lit : Try.pinned.checked.prog.initOrder = "harness 8d126eea3ba32ee1657c95be7b7242bb7dbf13cf91d69a109b29023eda6fdf62 cut at loop.example/g01922/laws.FnAmbiguity loop.example/g01922/laws.FnMinimal loop.example/g01922/laws.FnMissingWord loop.example/g01922/laws.FnExactAmbiguousWord loop.example/g01922/laws.FnExactIsUnambiguous loop.example/g01922/laws.FnExactDistinguishingWord loop.example/g01922/laws.FnExactComplementAutomaton loop.example/g01922/laws.FnExactIntersectAutomata loop.example/g01922/laws.FnExactUniteAutomata loop.example/g01922/laws.FnExactSubtractAutomata loop.example/g01922/laws.FnExactIsEmptyAutomaton loop.example/g01922/laws.FnExactShortestAccepted loop.example/g01922/laws.FnExactMissingWord loop.example/g01922/laws.FnExactIncludesLanguage loop.example/g01922/laws.FnExactAreEquivalent loop.example/g01922/laws.FnExactIsFiniteLanguage" := by kernel_rfl
theorem head_str : "harness 8d126eea3ba32ee1657c95be7b7242bb7dbf13cf91d69a109b29023eda6fdf62 cut at loop.example/g01922/laws.FnAmbiguity loop.example/g01922/laws.FnMinimal loop.example/g01922/laws.FnMissingWord loop.example/g01922/laws.FnExactAmbiguousWord loop.example/g01922/laws.FnExactIsUnambiguous loop.example/g01922/laws.FnExactDistinguishingWord loop.example/g01922/laws.FnExactComplementAutomaton loop.example/g01922/laws.FnExactIntersectAutomata loop.example/g01922/laws.FnExactUniteAutomata loop.example/g01922/laws.FnExactSubtractAutomata loop.example/g01922/laws.FnExactIsEmptyAutomaton loop.example/g01922/laws.FnExactShortestAccepted loop.example/g01922/laws.FnExactMissingWord loop.example/g01922/laws.FnExactIncludesLanguage loop.example/g01922/laws.FnExactAreEquivalent loop.example/g01922/laws.FnExactIsFiniteLanguage" = String.ofList headL := by kernel_rfl
theorem head_list : Try.pinned.checked.prog.initOrder.toList = headL := by rw [head_lit, head_str]; exact String.toList_ofList
theorem head_cut : behindMainWord (wordsSigns headL) = "cut".toList :: (behindMainWord (wordsSigns headL)).tail := by kernel_rfl
theorem strip_cut (rest : List (List Char)) : stripLifts liftWords ("cut".toList :: rest) = ([], "cut".toList :: rest) := by kernel_rfl
theorem make_cut {P : Program} {l : List Char} {rest : List (List Char)} (h : P.initOrder.toList = l) (h2 : behindMainWord (wordsSigns l) = "cut".toList :: rest) : P.make = some .cut := by
  unfold Program.make
  rw [h, h2]
  rfl
theorem lifts_cut {P : Program} {l : List Char} {rest : List (List Char)} (h : P.initOrder.toList = l) (h2 : behindMainWord (wordsSigns l) = "cut".toList :: rest) : P.liftsFinal = false := by
  unfold Program.liftsFinal Program.headLifts
  rw [h, h2, strip_cut]
  rfl
theorem enter_cut {P : Program} {l : List Char} {rest : List (List Char)} (h : P.initOrder.toList = l) (h2 : behindMainWord (wordsSigns l) = "cut".toList :: rest) (h3 : P.laysLater = false) (h4 : P.bearsReflect = false) (h5 : P.doorFits [] = true) : P.mayEnter = true := by
  unfold Program.mayEnter
  rw [h, h2]
  simp only [strip_cut, h3, h4, h5]
  rfl
theorem later_no : Try.pinned.checked.prog.laysLater = false := by kernel_rfl
theorem reflect_no : Try.pinned.checked.prog.bearsReflect = false := by kernel_rfl
theorem door_fits : Try.pinned.checked.prog.doorFits [] = true := by kernel_rfl
theorem head_make : Try.pinned.checked.prog.make = some .cut := make_cut head_list head_cut
theorem head_lifts : Try.pinned.checked.prog.liftsFinal = false := lifts_cut head_list head_cut
theorem head_enter : Try.pinned.checked.prog.mayEnter = true := enter_cut head_list head_cut later_no reflect_no door_fits
end Go.Proofs.Ytmaagihfjldgeaa
