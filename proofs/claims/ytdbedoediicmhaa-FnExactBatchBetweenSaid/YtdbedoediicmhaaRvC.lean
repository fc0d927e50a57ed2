/- The program's copies of lists of changes; slices.Reverse over changes. -/
import Derived.Test.YtdbedoediicmhaaChgL
import Derived.Test.YtdbedoediicmhaaCopyLaw
import Derived.BigRegion
namespace Go.Proofs.Ytdbedoediicmhaa
set_option maxRecDepth 100000
open Go.ChangeShapes Go.WideShapes Go.ChangeAt Go.RowKit
set_option linter.unusedVariables false
set_option linter.unusedSimpArgs false

theorem size_chg : (Try.prog.info? 64).map (·.size) = some 5 := by kernel_rfl
theorem chgs_src {w : World} {ao : Option Addr} {n cap : Nat} {xs : List Chg} (h : ChgsAt w (.slice ao n cap) xs) : SrcAt w ao (ccells xs) ∧ n = xs.length := by
  obtain ⟨_, ao', cap', e, HC⟩ := h
  injection e with e1 e2 e3
  subst e1; subst e2
  refine ⟨fun h0 => ?_, rfl⟩
  have hl := ccells_length xs
  have hx : 0 < xs.length := by omega
  obtain ⟨b, off, rfl, hb, _⟩ := HC.out 0 hx
  refine ⟨⟨b, off, none⟩, rfl, fun j u hj => ?_⟩
  have hj2 : j < xs.length * 5 := by rw [← hl]; exact (List.getElem?_eq_some_iff.1 hj).1
  obtain ⟨b', off', e', hb', c0, c1, c2, c3, c4⟩ := HC.out (j / 5) (by omega)
  injection e' with e'
  injection e' with e1 e2
  subst e1; subst e2
  have ha := fcells_at ccs_len xs (j / 5) (j % 5) (by omega) (by omega)
  rw [show j / 5 * 5 + j % 5 = j from by omega] at ha
  have hju : (Chg.cs xs[j / 5])[j % 5]? = some u := ha.symm.trans hj
  rw [add_plain]
  have hj3 : j % 5 = 0 ∨ j % 5 = 1 ∨ j % 5 = 2 ∨ j % 5 = 3 ∨ j % 5 = 4 := by omega
  rcases hj3 with h | h | h | h | h
  · rw [h] at hju
    have : off + j = off + j / 5 * 5 := by omega
    rw [this, c0]; exact hju
  · rw [h] at hju
    have : off + j = off + j / 5 * 5 + 1 := by omega
    rw [this, c1]; exact hju
  · rw [h] at hju
    have : off + j = off + j / 5 * 5 + 2 := by omega
    rw [this, c2]; exact hju
  · rw [h] at hju
    have : off + j = off + j / 5 * 5 + 3 := by omega
    rw [this, c3]; exact hju
  · rw [h] at hju
    have : off + j = off + j / 5 * 5 + 4 := by omega
    rw [this, c4]; exact hju
theorem wpList_copyC {w : World} {ops : Array Oper} {rest : List Oper} {o : Oper} {a : Act} {Q : Exit → Act → World → Prop} (hgd : o.guard = none) (d s : Operand)
    (ho : o.op = .call { callee := .builtin .copy, args := #[d, s], argTypes := #[37, 37] }) (base g n cap : Nat) (zs : List Value) (hd : a.eval d = .slice (some ⟨g, 0, none⟩) n cap) (hown : w.ownsRow base 64 5 (.slice (some ⟨g, 0, none⟩) n cap) n zs)
    (ao : Option Addr) (k c : Nat) (hs : a.eval s = .slice ao n c) (xs : List Chg) (hx : ChgsAt w (.slice ao n c) xs) (hn : xs.length = n)
    (h : ∀ w', OwnC base w' (.slice (some ⟨g, 0, none⟩) n cap) xs → w.grownBy w' (some g) → wpList Try.prog ops Q rest (a.put o.dst (goInt n)) w') : wpList Try.prog ops Q (o :: rest) a w := by
  obtain ⟨hsrc, _⟩ := chgs_src hx
  obtain ⟨w', hr, h2, h3⟩ := run_copy_full w 37 o.type 64 5 (by decide) Try.underlying37 size_chg base g n cap zs hown ao c (ccells xs) (by rw [ccells_length, hn]) hsrc (ccells_oneCell xs)
  exact wpList_of_run_copy hgd d s _ ho _ _ n w' hd hs hr (h w' (OwnC.ofRow hx.1 h2 hn.symm) h3)
def CopBOut (w : World) (xs : List Chg) (e : Ending) (w' : World) : Prop := ∃ g, e = .returned (.slice (some ⟨g, 0, none⟩) xs.length xs.length) ∧ OwnC w.heap.size w' (.slice (some ⟨g, 0, none⟩) xs.length xs.length) xs ∧ Since w w'
set_option maxRecDepth 100000 in
theorem copiedC_any (v : Value) (xs : List Chg) (w : World) (h : ChgsAt w v xs) (hl : xs.length ≤ 1048577) :
    Calls Try.prog 51 #[v] w (CopBOut w xs) := by
  have HA := Lib.hid h
  obtain ⟨_, ao, ac, rfl, _⟩ := h
  obtain ⟨i0, hi, hz0, hz1, hz2⟩ := info_parts info_chg
  have HZ2 := Lib.hid hz2
  clear hz2
  obtain ⟨n, hn⟩ : ∃ n, n = xs.length := ⟨_, rfl⟩
  rw [← hn] at HA
  rw [← hn]
  have hn9 : n ≤ 1048577 := by omega
  have HN := Lib.hid hn
  clear hn hl
  go_enter Try.func51, Try.ntmps51
  go_wp2_with (first
    | (at_make; go_must (refine wpList_make_full _ rfl _ _ 37 rfl w.heap.size 64 i0 (cv zeroC) 5 Try.underlying37 hi hz0 hz1 .i64 .i64 _ _ n rfl rfl rfl rfl (by rw [HZ2.out]; omega) (by unfold maxLen; omega) (Nat.le_refl _) ?_); intro w1 hown hgrow)
    | (refine wpList_copyC (o := ⟨some 9, _, _, _, _, _⟩) rfl (.tmp 7) (.tmp 8) rfl w.heap.size w.heap.size n n _ rfl hown ao n ac rfl xs (HA.out.since ((Since.refl w).grown hgrow (fun _ h => by simp at h))) HN.out.symm ?_; intro w2 ho2 hg2))
  have hsin : Since w w1 := (Since.refl w).grown hgrow (fun _ h => by simp at h)
  have hs2 := hsin.grown hg2 (fun k hk => by injection hk with hk; omega)
  have HO2 := Lib.hid ho2
  clear ho2 hg2 hown hgrow
  go_wp2
  go_ret
  exact ⟨w.heap.size, by rw [← HN.out]; rfl, by rw [← HN.out]; exact HO2.out, hs2⟩
/-- The row after k exchanges. -/
def revToC (xs ys : List Chg) (k : Nat) : Prop := ys.length = xs.length ∧ ∀ m (hm : m < ys.length) (hx : m < xs.length) (hx2 : xs.length - 1 - m < xs.length), ys[m] = if m < k ∨ xs.length - 1 - m < k then xs[xs.length - 1 - m] else xs[m]
theorem revToC_zero (xs : List Chg) : revToC xs xs 0 := ⟨rfl, fun m hm hx hx2 => by rw [if_neg (by omega)]⟩
theorem revToC_step {xs ys : List Chg} {k j : Nat} (h : revToC xs ys k) (hj : k + j + 1 = xs.length) (hkj : k < j) (hk : k < ys.length) (hjl : j < ys.length) : revToC xs ((ys.set k ys[j]).set j ys[k]) (k + 1) := by
  obtain ⟨h1, h2⟩ := h
  refine ⟨by simp [h1], fun m hm hx hx2 => ?_⟩
  have ek := h2 k hk (by omega) (by omega)
  have ej := h2 j hjl (by omega) (by omega)
  rw [if_neg (by omega)] at ek ej
  rw [List.getElem_set, List.getElem_set]
  by_cases e1 : j = m
  · subst e1
    rw [if_pos rfl, if_pos (by omega), ek]
    congr 1; omega
  · rw [if_neg e1]
    by_cases e2 : k = m
    · subst e2
      rw [if_pos rfl, if_pos (by omega), ej]
      congr 1; omega
    · rw [if_neg e2, h2 m (by simpa using hm) hx hx2]
      by_cases c : m < k ∨ xs.length - 1 - m < k
      · rw [if_pos c, if_pos (by omega)]
      · rw [if_neg c, if_neg (by omega)]
theorem revToC_end {xs ys : List Chg} {k : Nat} (h : revToC xs ys k) (hk : xs.length ≤ 2 * k + 1) : ys = xs.reverse := by
  obtain ⟨h1, h2⟩ := h
  apply List.ext_getElem
  · simp [h1]
  · intro m hm hm2
    rw [h2 m hm (by omega) (by omega), List.getElem_reverse]
    by_cases c : m < k ∨ xs.length - 1 - m < k
    · rw [if_pos c]
    · rw [if_neg c]
      congr 1; omega
theorem grownC4 {w w' : World} {g : Nat} (h : w.grownBy w' (some g)) (i : Nat) (u : Value) : w.grownBy (w'.setCell ⟨g, i, none⟩ u) (some g) :=
  grow_tr h ⟨rfl, rfl, rfl, by simp [World.setCell], fun j hj hn => Below.heap_setCell w' ⟨g, i, none⟩ u j (fun e => hn (by rw [e]))⟩
theorem OwnC.drewC {base : Nat} {w : World} {v : Value} {xs : List Chg} (h : OwnC base w v xs) : OwnC base w.drew v xs := ⟨h.1, h.2⟩
theorem grown_drewC {w w' : World} {r : Option Nat} (hq : w.grownBy w' r) : w.grownBy w'.drew r := ⟨hq.os, hq.tape, hq.output, hq.size, hq.block⟩
theorem row_grownC {w w' : World} {g : Nat} (h : w.grownBy w' (some g)) (o : Nat) (c : Chg) :
    w.grownBy (((((w'.setCell ⟨g, o, none⟩ (.bool c.ins)).setCell ⟨g, o + 1, none⟩ (.int .i64 c.ed.id)).setCell ⟨g, o + 2, none⟩ (.int .i64 c.ed.fr)).setCell ⟨g, o + 3, none⟩ (.int .i64 c.ed.to)).setCell ⟨g, o + 4, none⟩ (.int .i64 c.ed.lb)) (some g) :=
  grownC4 (grownC4 (grownC4 (grownC4 (grownC4 h _ _) _ _) _ _) _ _) _ _
def RevCOut (base g n cap : Nat) (w : World) (xs : List Chg) (e : Ending) (w' : World) : Prop := e = .returned (.tuple #[]) ∧ OwnC base w' (.slice (some ⟨g, 0, none⟩) n cap) xs ∧ w.grownBy w' (some g)
set_option maxHeartbeats 2000000 in
set_option maxRecDepth 100000 in
theorem reverseC_any (base g n cap : Nat) (xs : List Chg) (w : World) (hn : n = xs.length) (h : OwnC base w (.slice (some ⟨g, 0, none⟩) n cap) xs) (hl : n ≤ 1048577) :
    Calls Try.prog 52 #[.slice (some ⟨g, 0, none⟩) n cap] w (RevCOut base g n cap w xs.reverse) := by
  have HN := Lib.hid hn
  have HO := Lib.hid h
  clear hn h
  go_enter Try.func52, Try.ntmps52
  go_wp2
  go_loopw [2, 3] (fun a b wr => ∃ (k : Nat) (ys : List Chg), a = .int .i64 k ∧ b = .int .i64 ((n : Int) - 1 - (k : Int)) ∧ 2 * k ≤ n + 1 ∧ Hid (revToC xs ys k) ∧ Hid (OwnC base wr (.slice (some ⟨g, 0, none⟩) n cap) ys) ∧ w.grownBy wr (some g)) (fun a _ _ => n - (intOf a).toNat)
  case atStart => exact ⟨0, xs, rfl, by simp, by omega, revToC_zero xs, HO.out, ⟨rfl, rfl, rfl, Nat.le_refl _, fun _ _ _ => rfl⟩⟩
  case round =>
    obtain ⟨k, ys, rfl, rfl, hk2, HR, HOw, hgr⟩ := hrel
    have hyl : Hid (n = ys.length) := by have := HR.out.1; have := HN.out; unfold Hid; omega
    by_cases hlt : 2 * k + 1 < n
    · obtain ⟨j, hj⟩ : ∃ j : Nat, (n : Int) - 1 - (k : Int) = (j : Int) := ⟨n - 1 - k, by omega⟩
      have hkj : k < j := by omega
      have hjn : j < n := by omega
      have hkn : k < n := by omega
      have HJ : Hid (k + j + 1 = n) := by unfold Hid; omega
      rw [hj]
      clear hj
      have hky : k < ys.length := by have := hyl.out; omega
      have hjy : j < ys.length := by have := hyl.out; omega
      have hown := HOw.out.row hyl.out
      obtain ⟨a0, a1, a2, a3, a4⟩ := ownC_cells hown hyl.out k hky
      obtain ⟨b0, b1, b2, b3, b4⟩ := ownC_cells hown hyl.out j hjy
      have f0 := hown.frozenAt (k * 5)
      have f1 := hown.frozenAt (k * 5 + 1)
      have f2 := hown.frozenAt (k * 5 + 2)
      have f3 := hown.frozenAt (k * 5 + 3)
      have f4 := hown.frozenAt (k * 5 + 4)
      have e0 := hown.frozenAt (j * 5)
      have e1 := hown.frozenAt (j * 5 + 1)
      have e2 := hown.frozenAt (j * 5 + 2)
      have e3 := hown.frozenAt (j * 5 + 3)
      have e4 := hown.frozenAt (j * 5 + 4)
      have HIN : Hid (∀ x ∈ (ys.set k ys[j]).set j ys[k], x.ed.In) := by
        intro x hx
        rcases List.mem_or_eq_of_mem_set hx with hx | hx
        · rcases List.mem_or_eq_of_mem_set hx with hx | hx
          · exact HOw.out.1 x hx
          · subst hx; exact HOw.out.1 _ (List.getElem_mem _)
        · subst hx; exact HOw.out.1 _ (List.getElem_mem _)
      have HRS := Lib.hid (revToC_step HR.out (by have := HJ.out; have := HN.out; omega) hkj hky hjy)
      have hst := row_setC (row_setC hown k hky ys[j]) j (by simpa using hjy) ys[k]
      have HST := Lib.hid hst
      obtain ⟨s, hs⟩ : ∃ s, s = ys[k] := ⟨_, rfl⟩
      obtain ⟨t, ht⟩ : ∃ t, t = ys[j] := ⟨_, rfl⟩
      rw [← hs] at a0 a1 a2 a3 a4 HRS HST HIN
      rw [← ht] at b0 b1 b2 b3 b4 HRS HST HIN
      have kk0 : (0 : Int) ≤ (k : Int) := by omega
      have kk1 : (k : Int) < (n : Int) := by omega
      have jj0 : (0 : Int) ≤ (j : Int) := by omega
      have jj1 : (j : Int) < (n : Int) := by omega
      have hkji : (k : Int) < (j : Int) := by omega
      clear hst hown hs ht
      go_wp2
      go_region
      all_goals
        go_wp2
        go_roundw
        case rel =>
          refine ⟨k + 1, (ys.set k t).set j s, by go_num, ?_, by omega, HRS, ?_, ?_⟩
          · have := HJ.out; congr 1; omega
          · exact (OwnC.ofRow HIN.out HST.out (by rw [List.length_set, List.length_set]; exact hyl.out)).drewC
          · have hq := row_grownC (row_grownC hgr (k * 5) t) (j * 5) s
            exact grown_drewC hq
        case measure => simp [intOf]; omega
    · have HE : Hid (ys = xs.reverse) := revToC_end HR.out (by have := HN.out; omega)
      have HO2 : Hid (OwnC base wr (.slice (some ⟨g, 0, none⟩) n cap) xs.reverse) := by unfold Hid; rw [← HE.out]; exact HOw.out
      have hge : ¬ (k : Int) < (n : Int) - 1 - (k : Int) := by omega
      clear HE HOw
      go_wp2
      go_end0
      exact ⟨rfl, HO2.out, hgr⟩
end Go.Proofs.Ytdbedoediicmhaa
