/- The program's copies of lists of steps; slices.Reverse over steps. -/
import Derived.Test.YtilkheclimammaaWe
import Derived.Test.YtilkheclimammaaCopyLaw
import Derived.BigRegion
namespace Go.Proofs.Ytilkheclimammaa
set_option maxRecDepth 100000
open Go.ChangeShapes Go.WideShapes Go.ChangeAt Go.RowKit
set_option linter.unusedVariables false
set_option linter.unusedSimpArgs false

theorem size_step : (Try.prog.info? 33).map (·.size) = some 2 := by kernel_rfl
theorem steps_src {w : World} {ao : Option Addr} {n cap : Nat} {xs : List Stp} (h : StpsAt w (.slice ao n cap) xs) : SrcAt w ao (scells xs) ∧ n = xs.length := by
  obtain ⟨ao', cap', e, HC⟩ := h
  injection e with e1 e2 e3
  subst e1; subst e2
  refine ⟨fun h0 => ?_, rfl⟩
  have hl := scells_length xs
  have hx : 0 < xs.length := by omega
  obtain ⟨b, off, rfl, hb, _⟩ := HC.out 0 hx
  refine ⟨⟨b, off, none⟩, rfl, fun j u hj => ?_⟩
  have hj2 : j < xs.length * 2 := by rw [← hl]; exact (List.getElem?_eq_some_iff.1 hj).1
  obtain ⟨b', off', e', hb', c0, c1⟩ := HC.out (j / 2) (by omega)
  injection e' with e'
  injection e' with e1 e2
  subst e1; subst e2
  have ha := fcells_at scs_len xs (j / 2) (j % 2) (by omega) (by omega)
  rw [show j / 2 * 2 + j % 2 = j from by omega] at ha
  have hju : (Stp.cs xs[j / 2])[j % 2]? = some u := ha.symm.trans hj
  rw [add_plain]
  have hj3 : j % 2 = 0 ∨ j % 2 = 1 := by omega
  rcases hj3 with h | h
  · rw [h] at hju
    have : off + j = off + j / 2 * 2 := by omega
    rw [this, c0]; exact hju
  · rw [h] at hju
    have : off + j = off + j / 2 * 2 + 1 := by omega
    rw [this, c1]; exact hju
theorem wpList_copySt {w : World} {ops : Array Oper} {rest : List Oper} {o : Oper} {a : Act} {Q : Exit → Act → World → Prop} (hgd : o.guard = none) (d s : Operand)
    (ho : o.op = .call { callee := .builtin .copy, args := #[d, s], argTypes := #[30, 30] }) (base g n cap : Nat) (zs : List Value) (hd : a.eval d = .slice (some ⟨g, 0, none⟩) n cap) (hown : w.ownsRow base 33 2 (.slice (some ⟨g, 0, none⟩) n cap) n zs)
    (ao : Option Addr) (k c : Nat) (hs : a.eval s = .slice ao n c) (xs : List Stp) (hx : StpsAt w (.slice ao n c) xs) (hn : xs.length = n)
    (h : ∀ w', OwnSt base w' (.slice (some ⟨g, 0, none⟩) n cap) xs → w.grownBy w' (some g) → wpList Try.prog ops Q rest (a.put o.dst (goInt n)) w') : wpList Try.prog ops Q (o :: rest) a w := by
  obtain ⟨hsrc, _⟩ := steps_src hx
  obtain ⟨w', hr, h2, h3⟩ := run_copy_full w 30 o.type 33 2 (by decide) Try.underlying30 size_step base g n cap zs hown ao c (scells xs) (by rw [scells_length, hn]) hsrc (scells_oneCell xs)
  exact wpList_of_run_copy hgd d s _ ho _ _ n w' hd hs hr (h w' (OwnSt.ofRow h2 hn.symm) h3)
def CopStOut (w : World) (xs : List Stp) (e : Ending) (w' : World) : Prop := ∃ g, e = .returned (.slice (some ⟨g, 0, none⟩) xs.length xs.length) ∧ OwnSt w.heap.size w' (.slice (some ⟨g, 0, none⟩) xs.length xs.length) xs ∧ Since w w'
set_option maxRecDepth 100000 in
theorem copiedSt_any (v : Value) (xs : List Stp) (w : World) (h : StpsAt w v xs) (hl : xs.length ≤ 1048577) :
    Calls Try.prog 84 #[v] w (CopStOut w xs) := by
  have HA := Lib.hid h
  obtain ⟨ao, ac, rfl, _⟩ := h
  obtain ⟨i0, hi, hz0, hz1, hz2⟩ := info_parts info_step
  have HZ2 := Lib.hid hz2
  clear hz2
  obtain ⟨n, hn⟩ : ∃ n, n = xs.length := ⟨_, rfl⟩
  rw [← hn] at HA
  rw [← hn]
  have hn9 : n ≤ 1048577 := by omega
  have HN := Lib.hid hn
  clear hn hl
  go_enter Try.func84, Try.ntmps84
  go_wp2_with (first
    | (at_make; go_must (refine wpList_make_full _ rfl _ _ 30 rfl w.heap.size 33 i0 (sv zeroS) 2 Try.underlying30 hi hz0 hz1 .i64 .i64 _ _ n rfl rfl rfl rfl (by rw [HZ2.out]; omega) (by unfold maxLen; omega) (Nat.le_refl _) ?_); intro w1 hown hgrow)
    | (refine wpList_copySt (o := ⟨some 9, _, _, _, _, _⟩) rfl (.tmp 7) (.tmp 8) rfl w.heap.size w.heap.size n n _ rfl hown ao n ac rfl xs (HA.out.since ((Since.refl w).grown hgrow (fun _ h => by simp at h))) HN.out.symm ?_; intro w2 ho2 hg2))
  have hsin : Since w w1 := (Since.refl w).grown hgrow (fun _ h => by simp at h)
  have hs2 := hsin.grown hg2 (fun k hk => by injection hk with hk; omega)
  have HO2 := Lib.hid ho2
  clear ho2 hg2 hown hgrow
  go_wp2
  go_ret
  exact ⟨w.heap.size, by rw [← HN.out]; rfl, by rw [← HN.out]; exact HO2.out, hs2⟩
/-- The row after k exchanges. -/
def revTo (xs ys : List Stp) (k : Nat) : Prop := ys.length = xs.length ∧ ∀ m (hm : m < ys.length) (hx : m < xs.length) (hx2 : xs.length - 1 - m < xs.length), ys[m] = if m < k ∨ xs.length - 1 - m < k then xs[xs.length - 1 - m] else xs[m]
theorem revTo_zero (xs : List Stp) : revTo xs xs 0 := ⟨rfl, fun m hm hx hx2 => by rw [if_neg (by omega)]⟩
theorem revTo_step {xs ys : List Stp} {k j : Nat} (h : revTo xs ys k) (hj : k + j + 1 = xs.length) (hkj : k < j) (hk : k < ys.length) (hjl : j < ys.length) : revTo xs ((ys.set k ys[j]).set j ys[k]) (k + 1) := by
  obtain ⟨h1, h2⟩ := h
  refine ⟨by simp [h1], fun m hm hx hx2 => ?_⟩
  have ek := h2 k hk (by omega) (by omega)
  have ej := h2 j hjl (by omega) (by omega)
  rw [if_neg (by omega)] at ek ej
  rw [List.getElem_set, List.getElem_set]
  by_cases e1 : j = m
  · subst e1
    rw [if_pos rfl, if_pos (by omega), ek]
    congr 1; omega
  · rw [if_neg e1]
    by_cases e2 : k = m
    · subst e2
      rw [if_pos rfl, if_pos (by omega), ej]
      congr 1; omega
    · rw [if_neg e2, h2 m (by simpa using hm) hx hx2]
      by_cases c : m < k ∨ xs.length - 1 - m < k
      · rw [if_pos c, if_pos (by omega)]
      · rw [if_neg c, if_neg (by omega)]
theorem revTo_end {xs ys : List Stp} {k : Nat} (h : revTo xs ys k) (hk : xs.length ≤ 2 * k + 1) : ys = xs.reverse := by
  obtain ⟨h1, h2⟩ := h
  apply List.ext_getElem
  · simp [h1]
  · intro m hm hm2
    rw [h2 m hm (by omega) (by omega), List.getElem_reverse]
    by_cases c : m < k ∨ xs.length - 1 - m < k
    · rw [if_pos c]
    · rw [if_neg c]
      congr 1; omega
theorem grown4 {w w' : World} {g : Nat} (h : w.grownBy w' (some g)) (i : Nat) (u : Value) : w.grownBy (w'.setCell ⟨g, i, none⟩ u) (some g) :=
  grow_tr h ⟨rfl, rfl, rfl, by simp [World.setCell], fun j hj hn => Below.heap_setCell w' ⟨g, i, none⟩ u j (fun e => hn (by rw [e]))⟩
def RevOut (base g n cap : Nat) (w : World) (xs : List Stp) (e : Ending) (w' : World) : Prop := e = .returned (.tuple #[]) ∧ OwnSt base w' (.slice (some ⟨g, 0, none⟩) n cap) xs ∧ w.grownBy w' (some g)
set_option maxHeartbeats 2000000 in
set_option maxRecDepth 100000 in
theorem reverse_any (base g n cap : Nat) (xs : List Stp) (w : World) (hn : n = xs.length) (h : OwnSt base w (.slice (some ⟨g, 0, none⟩) n cap) xs) (hl : n ≤ 1048577) :
    Calls Try.prog 85 #[.slice (some ⟨g, 0, none⟩) n cap] w (RevOut base g n cap w xs.reverse) := by
  have HN := Lib.hid hn
  have HO := Lib.hid h
  clear hn h
  go_enter Try.func85, Try.ntmps85
  go_wp2
  go_loopw [2, 3] (fun a b wr => ∃ (k : Nat) (ys : List Stp), a = .int .i64 k ∧ b = .int .i64 ((n : Int) - 1 - (k : Int)) ∧ 2 * k ≤ n + 1 ∧ Hid (revTo xs ys k) ∧ Hid (OwnSt base wr (.slice (some ⟨g, 0, none⟩) n cap) ys) ∧ w.grownBy wr (some g)) (fun a _ _ => n - (intOf a).toNat)
  case atStart => exact ⟨0, xs, rfl, by simp, by omega, revTo_zero xs, HO.out, ⟨rfl, rfl, rfl, Nat.le_refl _, fun _ _ _ => rfl⟩⟩
  case round =>
    obtain ⟨k, ys, rfl, rfl, hk2, HR, HOw, hgr⟩ := hrel
    have hyl : Hid (n = ys.length) := by have := HR.out.1; have := HN.out; unfold Hid; omega
    by_cases hlt : 2 * k + 1 < n
    · obtain ⟨j, hj⟩ : ∃ j : Nat, (n : Int) - 1 - (k : Int) = (j : Int) := ⟨n - 1 - k, by omega⟩
      have hkj : k < j := by omega
      have hjn : j < n := by omega
      have hkn : k < n := by omega
      have HJ : Hid (k + j + 1 = n) := by unfold Hid; omega
      rw [hj]
      clear hj
      have hky : k < ys.length := by have := hyl.out; omega
      have hjy : j < ys.length := by have := hyl.out; omega
      have hown := HOw.out.row hyl.out
      obtain ⟨a0, a1⟩ := ownSt_cells hown hyl.out k hky
      obtain ⟨b0, b1⟩ := ownSt_cells hown hyl.out j hjy
      have f0 := hown.frozenAt (k * 2)
      have f1 := hown.frozenAt (k * 2 + 1)
      have f2 := hown.frozenAt (j * 2)
      have f3 := hown.frozenAt (j * 2 + 1)
      have HRS := Lib.hid (revTo_step HR.out (by have := HJ.out; have := HN.out; omega) hkj hky hjy)
      have hst := row_set2 (row_set2 hown k hky ys[j]) j (by simpa using hjy) ys[k]
      have HST := Lib.hid hst
      obtain ⟨s, hs⟩ : ∃ s, s = ys[k] := ⟨_, rfl⟩
      obtain ⟨t, ht⟩ : ∃ t, t = ys[j] := ⟨_, rfl⟩
      rw [← hs] at a0 a1 HRS HST
      rw [← ht] at b0 b1 HRS HST
      have kk0 : (0 : Int) ≤ (k : Int) := by omega
      have kk1 : (k : Int) < (n : Int) := by omega
      have jj0 : (0 : Int) ≤ (j : Int) := by omega
      have jj1 : (j : Int) < (n : Int) := by omega
      have hkji : (k : Int) < (j : Int) := by omega
      clear hst hown hs ht
      go_wp2
      go_region
      all_goals
        go_wp2
        go_roundw
        case rel =>
          refine ⟨k + 1, (ys.set k t).set j s, by go_num, ?_, by omega, HRS, ?_, ?_⟩
          · have := HJ.out; congr 1; omega
          · exact OwnSt.ofRow HST.out (by rw [List.length_set, List.length_set]; exact hyl.out)
          · have hq := grown4 (grown4 (grown4 (grown4 hgr (k * 2) (.int .i64 t.id)) (k * 2 + 1) (.bool t.inv)) (j * 2) (.int .i64 s.id)) (j * 2 + 1) (.bool s.inv)
            exact ⟨hq.os, hq.tape, hq.output, hq.size, hq.block⟩
        case measure => simp [intOf]; omega
    · have HE : Hid (ys = xs.reverse) := revTo_end HR.out (by have := HN.out; omega)
      have HO2 : Hid (OwnSt base wr (.slice (some ⟨g, 0, none⟩) n cap) xs.reverse) := by unfold Hid; rw [← HE.out]; exact HOw.out
      have hge : ¬ (k : Int) < (n : Int) - 1 - (k : Int) := by omega
      clear HE HOw
      go_wp2
      go_end0
      exact ⟨rfl, HO2.out, hgr⟩
end Go.Proofs.Ytilkheclimammaa
