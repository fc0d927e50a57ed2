/- The program's copies of lists of changes; slices.Reverse over changes. -/
import Derived.Test.YtgdeiecbkmhbeaaChgL
import Derived.Test.YtgdeiecbkmhbeaaCopyLaw
import Derived.BigRegion
namespace Go.Proofs.Ytgdeiecbkmhbeaa
set_option maxRecDepth 100000
open Go.ChangeShapes Go.WideShapes Go.ChangeAt Go.RowKit
set_option linter.unusedVariables false
set_option linter.unusedSimpArgs false

theorem size_chg : (Try.prog.info? 98).map (·.size) = some 5 := by kernel_rfl
theorem chgs_src {w : World} {ao : Option Addr} {n cap : Nat} {xs : List Chg} (h : ChgsAt w (.slice ao n cap) xs) : SrcAt w ao (ccells xs) ∧ n = xs.length := by
  obtain ⟨_, ao', cap', e, HC⟩ := h
  injection e with e1 e2 e3
  subst e1; subst e2
  refine ⟨fun h0 => ?_, rfl⟩
  have hl := ccells_length xs
  have hx : 0 < xs.length := by omega
  obtain ⟨b, off, rfl, hb, _⟩ := HC.out 0 hx
  refine ⟨⟨b, off, none⟩, rfl, fun j u hj => ?_⟩
  have hj2 : j < xs.length * 5 := by rw [← hl]; exact (List.getElem?_eq_some_iff.1 hj).1
  obtain ⟨b', off', e', hb', c0, c1, c2, c3, c4⟩ := HC.out (j / 5) (by omega)
  injection e' with e'
  injection e' with e1 e2
  subst e1; subst e2
  have ha := fcells_at ccs_len xs (j / 5) (j % 5) (by omega) (by omega)
  rw [show j / 5 * 5 + j % 5 = j from by omega] at ha
  have hju : (Chg.cs xs[j / 5])[j % 5]? = some u := ha.symm.trans hj
  rw [add_plain]
  have hj3 : j % 5 = 0 ∨ j % 5 = 1 ∨ j % 5 = 2 ∨ j % 5 = 3 ∨ j % 5 = 4 := by omega
  rcases hj3 with h | h | h | h | h
  · rw [h] at hju
    have : off + j = off + j / 5 * 5 := by omega
    rw [this, c0]; exact hju
  · rw [h] at hju
    have : off + j = off + j / 5 * 5 + 1 := by omega
    rw [this, c1]; exact hju
  · rw [h] at hju
    have : off + j = off + j / 5 * 5 + 2 := by omega
    rw [this, c2]; exact hju
  · rw [h] at hju
    have : off + j = off + j / 5 * 5 + 3 := by omega
    rw [this, c3]; exact hju
  · rw [h] at hju
    have : off + j = off + j / 5 * 5 + 4 := by omega
    rw [this, c4]; exact hju
theorem wpList_copyC {w : World} {ops : Array Oper} {rest : List Oper} {o : Oper} {a : Act} {Q : Exit → Act → World → Prop} (hgd : o.guard = none) (d s : Operand)
    (ho : o.op = .call { callee := .builtin .copy, args := #[d, s], argTypes := #[27, 27] }) (base g n cap : Nat) (zs : List Value) (hd : a.eval d = .slice (some ⟨g, 0, none⟩) n cap) (hown : w.ownsRow base 98 5 (.slice (some ⟨g, 0, none⟩) n cap) n zs)
    (ao : Option Addr) (k c : Nat) (hs : a.eval s = .slice ao n c) (xs : List Chg) (hx : ChgsAt w (.slice ao n c) xs) (hn : xs.length = n)
    (h : ∀ w', OwnC base w' (.slice (some ⟨g, 0, none⟩) n cap) xs → w.grownBy w' (some g) → wpList Try.prog ops Q rest (a.put o.dst (goInt n)) w') : wpList Try.prog ops Q (o :: rest) a w := by
  obtain ⟨hsrc, _⟩ := chgs_src hx
  obtain ⟨w', hr, h2, h3⟩ := run_copy_full w 27 o.type 98 5 (by decide) Try.underlying27 size_chg base g n cap zs hown ao c (ccells xs) (by rw [ccells_length, hn]) hsrc (ccells_oneCell xs)
  exact wpList_of_run_copy hgd d s _ ho _ _ n w' hd hs hr (h w' (OwnC.ofRow hx.1 h2 hn.symm) h3)
def CopBOut (w : World) (xs : List Chg) (e : Ending) (w' : World) : Prop := ∃ g, e = .returned (.slice (some ⟨g, 0, none⟩) xs.length xs.length) ∧ OwnC w.heap.size w' (.slice (some ⟨g, 0, none⟩) xs.length xs.length) xs ∧ Since w w'
/-- The row after k exchanges. -/
def revToC (xs ys : List Chg) (k : Nat) : Prop := ys.length = xs.length ∧ ∀ m (hm : m < ys.length) (hx : m < xs.length) (hx2 : xs.length - 1 - m < xs.length), ys[m] = if m < k ∨ xs.length - 1 - m < k then xs[xs.length - 1 - m] else xs[m]
theorem revToC_zero (xs : List Chg) : revToC xs xs 0 := ⟨rfl, fun m hm hx hx2 => by rw [if_neg (by omega)]⟩
theorem revToC_step {xs ys : List Chg} {k j : Nat} (h : revToC xs ys k) (hj : k + j + 1 = xs.length) (hkj : k < j) (hk : k < ys.length) (hjl : j < ys.length) : revToC xs ((ys.set k ys[j]).set j ys[k]) (k + 1) := by
  obtain ⟨h1, h2⟩ := h
  refine ⟨by simp [h1], fun m hm hx hx2 => ?_⟩
  have ek := h2 k hk (by omega) (by omega)
  have ej := h2 j hjl (by omega) (by omega)
  rw [if_neg (by omega)] at ek ej
  rw [List.getElem_set, List.getElem_set]
  by_cases e1 : j = m
  · subst e1
    rw [if_pos rfl, if_pos (by omega), ek]
    congr 1; omega
  · rw [if_neg e1]
    by_cases e2 : k = m
    · subst e2
      rw [if_pos rfl, if_pos (by omega), ej]
      congr 1; omega
    · rw [if_neg e2, h2 m (by simpa using hm) hx hx2]
      by_cases c : m < k ∨ xs.length - 1 - m < k
      · rw [if_pos c, if_pos (by omega)]
      · rw [if_neg c, if_neg (by omega)]
theorem revToC_end {xs ys : List Chg} {k : Nat} (h : revToC xs ys k) (hk : xs.length ≤ 2 * k + 1) : ys = xs.reverse := by
  obtain ⟨h1, h2⟩ := h
  apply List.ext_getElem
  · simp [h1]
  · intro m hm hm2
    rw [h2 m hm (by omega) (by omega), List.getElem_reverse]
    by_cases c : m < k ∨ xs.length - 1 - m < k
    · rw [if_pos c]
    · rw [if_neg c]
      congr 1; omega
theorem grownC4 {w w' : World} {g : Nat} (h : w.grownBy w' (some g)) (i : Nat) (u : Value) : w.grownBy (w'.setCell ⟨g, i, none⟩ u) (some g) :=
  grow_tr h ⟨rfl, rfl, rfl, by simp [World.setCell], fun j hj hn => Below.heap_setCell w' ⟨g, i, none⟩ u j (fun e => hn (by rw [e]))⟩
theorem OwnC.drewC {base : Nat} {w : World} {v : Value} {xs : List Chg} (h : OwnC base w v xs) : OwnC base w.drew v xs := ⟨h.1, h.2⟩
theorem grown_drewC {w w' : World} {r : Option Nat} (hq : w.grownBy w' r) : w.grownBy w'.drew r := ⟨hq.os, hq.tape, hq.output, hq.size, hq.block⟩
theorem row_grownC {w w' : World} {g : Nat} (h : w.grownBy w' (some g)) (o : Nat) (c : Chg) :
    w.grownBy (((((w'.setCell ⟨g, o, none⟩ (.bool c.ins)).setCell ⟨g, o + 1, none⟩ (.int .i64 c.ed.id)).setCell ⟨g, o + 2, none⟩ (.int .i64 c.ed.fr)).setCell ⟨g, o + 3, none⟩ (.int .i64 c.ed.to)).setCell ⟨g, o + 4, none⟩ (.int .i64 c.ed.lb)) (some g) :=
  grownC4 (grownC4 (grownC4 (grownC4 (grownC4 h _ _) _ _) _ _) _ _) _ _
def RevCOut (base g n cap : Nat) (w : World) (xs : List Chg) (e : Ending) (w' : World) : Prop := e = .returned (.tuple #[]) ∧ OwnC base w' (.slice (some ⟨g, 0, none⟩) n cap) xs ∧ w.grownBy w' (some g)
end Go.Proofs.Ytgdeiecbkmhbeaa
