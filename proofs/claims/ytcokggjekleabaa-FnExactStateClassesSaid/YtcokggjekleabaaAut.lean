/- Automata as plain data and in memory; the laws' sizes, copies, comparisons, marks and checks of them. -/
import Derived.Test.YtcokggjekleabaaIss
namespace Go.Proofs.Ytcokggjekleabaa
set_option maxRecDepth 100000
open Go.ChangeShapes Go.WideShapes Go.ChangeAt Go.RowKit Go.Joins Go.Deep
set_option linter.unusedVariables false
set_option linter.unusedSimpArgs false

structure Aut where
  st : Int
  ac : List Bool
  nx : List (List Int)
theorem Aut.eq_iff (a b : Aut) : a = b ↔ a.st = b.st ∧ a.ac = b.ac ∧ a.nx = b.nx := by
  cases a; cases b; simp
instance : DecidableEq Aut := fun a b => decidable_of_iff _ (Aut.eq_iff a b).symm
/-- v reads as A. -/
def AutAt (w : World) (v : Value) (A : Aut) : Prop := ∃ a b, v = .agg #[.int .i64 A.st, a, b] ∧ InI A.st ∧ BosAt w a A.ac ∧ IssAt w b A.nx
theorem AutAt.since {w w' : World} {v : Value} {A : Aut} (h : AutAt w v A) (k : Since w w') : AutAt w' v A := by
  obtain ⟨a, b, e, h0, h1, h2⟩ := h; exact ⟨a, b, e, h0, h1.since k, h2.since k⟩
/-- .. of the call's own memory, in blocks from lo on and below hi. -/
def OwnA (lo hi : Nat) (w : World) (v : Value) (A : Aut) : Prop := ∃ a b, v = .agg #[.int .i64 A.st, a, b] ∧ InI A.st ∧ OwnBo lo w a A.ac ∧ InR lo hi a ∧ OwnSS lo hi w b A.nx
section
variable {lo hi : Nat} {w w' : World} {v : Value} {A : Aut}
theorem OwnA.at (h : OwnA lo hi w v A) : AutAt w v A := by
  obtain ⟨a, b, e, h0, h1, _, h2⟩ := h; exact ⟨a, b, e, h0, h1.at, h2.at⟩
theorem OwnA.since (h : OwnA lo hi w v A) (k : Since w w') : OwnA lo hi w' v A := by
  obtain ⟨a, b, e, h0, h1, r, h2⟩ := h; exact ⟨a, b, e, h0, h1.since k, r, h2.since k⟩
theorem OwnA.within {a b : Nat} (h : OwnA a b w v A) (k : Within lo hi w w') (hd : b ≤ lo ∨ hi ≤ a) : OwnA a b w' v A := by
  obtain ⟨x, y, e, h0, h1, r, h2⟩ := h; exact ⟨x, y, e, h0, h1.within r k hd, r, h2.within k hd⟩
theorem OwnA.wider {a b : Nat} (h : OwnA lo hi w v A) (ha : a ≤ lo) (hb : hi ≤ b) : OwnA a b w v A := by
  obtain ⟨x, y, e, h0, h1, r, h2⟩ := h; exact ⟨x, y, e, h0, h1.mono ha, r.mono ha hb, h2.wider ha hb⟩
end
def AOut (w : World) (A : Aut) (e : Ending) (w' : World) : Prop := ∃ v, e = .returned v ∧ OwnA w.heap.size w'.heap.size w' v A ∧ Since w w'
/-- .. with a truth value. -/
def ABOut (w : World) (A : Aut) (c : Bool) (e : Ending) (w' : World) : Prop := ∃ v, e = .returned (.tuple #[v, .bool c]) ∧ OwnA w.heap.size w'.heap.size w' v A ∧ Since w w'
def SmA (A : Aut) : Prop := A.ac.length ≤ 1048577 ∧ A.nx.length ≤ 1048577 ∧ totS A.nx ≤ 1048577
def BgA (A : Aut) : Prop := A.ac.length ≤ 2097154 ∧ A.nx.length ≤ 2097154 ∧ totS A.nx ≤ 2097154
theorem SmA.bg {A : Aut} (h : SmA A) : BgA A := by unfold SmA at h; unfold BgA; omega
/-- What an argument is bounded by. -/
def MxA (A : Aut) : Prop := A.ac.length ≤ maxLen ∧ A.nx.length ≤ maxLen ∧ ∀ i (h : i < A.nx.length), (A.nx[i]).length ≤ maxLen
theorem Blk.threeA {w : World} {g : Nat} {t : TypeId} {a b c : Value} (h : Blk w g t #[a, b, c]) :
    (w.cell? ⟨g, 0, none⟩ = some a ∧ w.cell? ⟨g, 1, none⟩ = some b ∧ w.cell? ⟨g, 2, none⟩ = some c) ∧ (w.frozen? ⟨g, 0, none⟩ = false ∧ w.frozen? ⟨g, 1, none⟩ = false ∧ w.frozen? ⟨g, 2, none⟩ = false) :=
  ⟨⟨h.cell 0, h.cell 1, h.cell 2⟩, h.frozen 0, h.frozen 1, h.frozen 2⟩
/-- Whether an automaton is within the laws' size. -/
def szA (A : Aut) (left : Int) : Int := if left - (A.ac.length : Int) < 0 then -1 else szS A.nx (left - (A.ac.length : Int))
theorem szA_small {A : Aut} (h : ¬ szA A 1048576 < 0) : SmA A := by
  unfold szA szS at h
  unfold SmA
  split at h
  · omega
  · split at h <;> omega
set_option maxRecDepth 100000 in
theorem szAutomaton_any (v : Value) (A : Aut) (left : Int) (w : World) (h : AutAt w v A) (hm : MxA A) (h0 : 0 ≤ left) (h1 : left ≤ 1048576) :
    Calls Try.prog 38 #[v, .int .i64 left] w fun e w' => e = .returned (.int .i64 (szA A left)) ∧ Since w w' := by
  obtain ⟨a, b, rfl, _, ha, hb⟩ := h
  have HA := Lib.hid ha
  have HB := Lib.hid hb
  clear ha hb
  have HM := Lib.hid hm
  clear hm
  obtain ⟨ao, ca, rfl⟩ := HA.out.len
  obtain ⟨bo, cb, rfl⟩ := HB.out.len
  have hs0 : Since w (w.alloc (.cells #[.int .i64 A.st, .slice ao A.ac.length ca, .slice bo A.nx.length cb] 52)) := (Since.refl w).alloc _
  by_cases hc : left - (A.ac.length : Int) < 0
  · have HE : Hid (szLeft A.ac.length left = -1) := by unfold Hid szLeft; rw [if_pos hc]
    have HG : Hid (szA A left = -1) := by unfold Hid szA; rw [if_pos hc]
    clear hc
    go_enter Try.func38, Try.ntmps38
    go_wp2_with fail
    refine (szBoolS_any _ A.ac _ _ (HA.out.since hs0) HM.out.1 h0 h1).mono ?_
    rintro e w1 ⟨rfl, rfl⟩
    rw [HE.out]
    go_wp2
    go_ret
    exact ⟨ret_int HG.out.symm, hs0⟩
  · have HE : Hid (szLeft A.ac.length left = left - (A.ac.length : Int)) := by unfold Hid szLeft; rw [if_neg hc]
    have HG : Hid (szA A left = szS A.nx (left - (A.ac.length : Int))) := by unfold Hid szA; rw [if_neg hc]
    obtain ⟨r, hr⟩ : ∃ r, r = left - (A.ac.length : Int) := ⟨_, rfl⟩
    rw [← hr] at HE HG hc
    have hr0 : 0 ≤ r := by omega
    have hr1 : r ≤ 1048576 := by omega
    clear hc hr
    obtain ⟨q, hq⟩ : ∃ q, q = szS A.nx r := ⟨_, rfl⟩
    have HQ := Lib.hid hq
    rw [← hq] at HG
    have hq2 : q = -1 ∨ 0 ≤ q := by rw [hq]; unfold szS; split <;> omega
    clear hq
    rcases hq2 with rfl | hq0
    · go_enter Try.func38, Try.ntmps38
      go_wp2_with fail
      refine (szBoolS_any _ A.ac _ _ (HA.out.since hs0) HM.out.1 h0 h1).mono ?_
      rintro e w1 ⟨rfl, rfl⟩
      rw [HE.out]
      go_wp2_with fail
      refine (szIntSS_any _ A.nx _ _ (HB.out.since hs0) HM.out.2.1 HM.out.2.2 hr0 hr1).mono ?_
      rintro e w1 ⟨rfl, rfl⟩
      rw [← HQ.out]
      go_wp2
      go_ret
      exact ⟨ret_int HG.out.symm, hs0⟩
    · go_enter Try.func38, Try.ntmps38
      go_wp2_with fail
      refine (szBoolS_any _ A.ac _ _ (HA.out.since hs0) HM.out.1 h0 h1).mono ?_
      rintro e w1 ⟨rfl, rfl⟩
      rw [HE.out]
      go_wp2_with fail
      refine (szIntSS_any _ A.nx _ _ (HB.out.since hs0) HM.out.2.1 HM.out.2.2 hr0 hr1).mono ?_
      rintro e w1 ⟨rfl, rfl⟩
      rw [← HQ.out]
      go_wp2
      go_ret
      exact ⟨ret_int HG.out.symm, hs0⟩
set_option maxHeartbeats 1000000 in
set_option maxRecDepth 100000 in
theorem toAutomaton_any (v : Value) (A : Aut) (w : World) (h : AutAt w v A) (hm : SmA A) :
    Calls Try.prog 40 #[v] w (AOut w A) := by
  obtain ⟨a, b, rfl, hi, ha, hb⟩ := h
  have HA := Lib.hid ha
  have HB := Lib.hid hb
  have HM := Lib.hid hm
  clear ha hb hm
  obtain ⟨ao, ca, rfl⟩ := HA.out.len
  obtain ⟨bo, cb, rfl⟩ := HB.out.len
  obtain ⟨y, hy⟩ : ∃ y, y = (((w.alloc (.cells #[.int .i64 A.st, .slice ao A.ac.length ca, .slice bo A.nx.length cb] 52)).alloc (.cells #[.int .i64 0, .slice none 0 0, .slice none 0 0] 27)).alloc (.cells #[.int .i64 A.st, .slice none 0 0, .slice none 0 0] 27)) := ⟨_, rfl⟩
  have hs0 : Since w y := by rw [hy]; exact (((Since.refl w).alloc _).alloc _).alloc _
  have hsz : y.heap.size = w.heap.size + 3 := by rw [hy]; simp
  have B0 : Hid (Blk y w.heap.size 52 #[.int .i64 A.st, .slice ao A.ac.length ca, .slice bo A.nx.length cb]) := by rw [hy]; exact ((Blk.new rfl _ _).alloc _).alloc _
  have B1 : Hid (Blk y (w.heap.size + 1) 27 #[.int .i64 0, .slice none 0 0, .slice none 0 0]) := by rw [hy]; exact (Blk.new (by simp) _ _).alloc _
  have B2 : Hid (Blk y (w.heap.size + 1 + 1) 27 #[.int .i64 A.st, .slice none 0 0, .slice none 0 0]) := by rw [hy]; exact Blk.new (by simp) _ _
  have HY := Lib.hid hy
  clear hy
  go_enter Try.func40, Try.ntmps40
  go_wp2_with fail
  rw [← HY.out]
  refine (toBoolS_any _ A.ac _ (HA.out.since hs0) HM.out.1).mono ?_
  rintro e w1 ⟨v1, rfl, ho1, hs1⟩
  obtain ⟨ao1, cap1, rfl⟩ := ho1.len
  have HO1 := Lib.hid ho1
  clear ho1
  have hs01 := hs0.trans hs1
  have hw1 : w.heap.size + 3 ≤ w1.heap.size := by have := hs1.size; omega
  have b0 := Lib.hid (B0.out.since hs1)
  have b1 := Lib.hid (B1.out.since hs1)
  have b2 := Lib.hid (B2.out.since hs1)
  clear B0 B1 B2
  obtain ⟨⟨p0, p1, p2⟩, _⟩ := b0.out.threeA
  obtain ⟨_, s0, s1, s2⟩ := b2.out.threeA
  go_wp2_with fail
  clear p0 p1 p2 s0 s1 s2
  obtain ⟨w2, hw2⟩ : ∃ w2, w2 = w1.setCell ⟨w.heap.size + 1 + 1, 1, none⟩ (.slice ao1 A.ac.length cap1) := ⟨_, rfl⟩
  rw [← hw2]
  have hs02 : Since w w2 := by rw [hw2]; exact hs01.setCell (by simp; omega) _
  have hsz2 : w2.heap.size = w1.heap.size := by rw [hw2]; simp
  have HO2 : Hid (OwnBo y.heap.size w2 (.slice ao1 A.ac.length cap1) A.ac) := by rw [hw2]; exact HO1.out.far (by simp; omega) _
  have b4 : Hid (Blk w2 (w.heap.size + 1) 27 #[.int .i64 0, .slice none 0 0, .slice none 0 0]) := by rw [hw2]; exact b1.out.far (by simp) _
  have b5 : Hid (Blk w2 (w.heap.size + 1 + 1) 27 #[.int .i64 A.st, .slice ao1 A.ac.length cap1, .slice none 0 0]) := by rw [hw2]; exact b2.out.set 1 _
  clear HO1 b0 b1 b2 hw2
  refine (toIntSS_any _ A.nx _ (HB.out.since hs02) HM.out.2.1 HM.out.2.2).mono ?_
  rintro e w3 ⟨v2, rfl, ho2, hs3⟩
  obtain ⟨ao2, cap2, rfl⟩ := ho2.len
  have HO3 := Lib.hid ho2
  clear ho2
  have hs03 := hs02.trans hs3
  have HO4 := Lib.hid (HO2.out.since hs3)
  have hin4 := Lib.hid (HO2.out.inR)
  have b7 := Lib.hid (b4.out.since hs3)
  have b8 := Lib.hid (b5.out.since hs3)
  have hw3 : w.heap.size + 3 ≤ w2.heap.size := by omega
  have hw4 := hs3.size
  clear HO2 b4 b5
  obtain ⟨⟨q0, q1, q2⟩, s0, s1, s2⟩ := b8.out.threeA
  obtain ⟨_, t0, t1, t2⟩ := b7.out.threeA
  go_wp2_with fail
  refine bodyPost_ret (v := .agg #[.int .i64 A.st, .slice ao1 A.ac.length cap1, .slice ao2 A.nx.length cap2]) (by simp [results, Try.results40, go_sem, *]) rfl ?_
  refine ⟨_, rfl, ⟨_, _, rfl, hi, ?_, hin4.out.mono (by omega) (by simp; omega), ?_⟩, ?_⟩
  · refine OwnBo.mono (base := y.heap.size) ?_ (by omega)
    iterate 4 (with_reducible refine OwnBo.far ?_ (by simp <;> omega) _)
    exact HO4.out
  · refine OwnSS.wider (lo := w2.heap.size) (hi := w3.heap.size) ?_ (by omega) (by simp)
    iterate 4 (with_reducible refine OwnSS.far ?_ (by omega) _ _)
    exact HO3.out
  · iterate 4 (with_reducible refine Since.setCell ?_ (by simp <;> omega) _)
    exact hs03
set_option maxHeartbeats 2000000 in
set_option maxRecDepth 100000 in
theorem eqAutomaton_any (a b : Value) (A B : Aut) (w : World) (ha : AutAt w a A) (hb : AutAt w b B) (g : BgA A) (h : BgA B) :
    Calls Try.prog 35 #[a, b] w fun e w' => e = .returned (.bool (decide (A = B))) ∧ Since w w' := by
  obtain ⟨a1, a2, rfl, _, ha1, ha2⟩ := ha
  obtain ⟨b1, b2, rfl, _, hb1, hb2⟩ := hb
  have HA1 := Lib.hid ha1
  have HA2 := Lib.hid ha2
  have HB1 := Lib.hid hb1
  have HB2 := Lib.hid hb2
  clear ha1 ha2 hb1 hb2
  obtain ⟨ao1, ac1, rfl⟩ := HA1.out.len
  obtain ⟨ao2, ac2, rfl⟩ := HA2.out.len
  obtain ⟨bo1, bc1, rfl⟩ := HB1.out.len
  obtain ⟨bo2, bc2, rfl⟩ := HB2.out.len
  obtain ⟨g1, g2, g3⟩ := g
  obtain ⟨h1, h2, h3⟩ := h
  have GX : Hid (∀ i (h : i < A.nx.length), (A.nx[i]).length ≤ 4611686018427387904) := fun i h => by have := totS_get A.nx i h; omega
  have HX : Hid (∀ i (h : i < B.nx.length), (B.nx[i]).length ≤ 4611686018427387904) := fun i h => by have := totS_get B.nx i h; omega
  obtain ⟨y, hy⟩ : ∃ y, y = ((w.alloc (.cells #[.int .i64 A.st, .slice ao1 A.ac.length ac1, .slice ao2 A.nx.length ac2] 27)).alloc (.cells #[.int .i64 B.st, .slice bo1 B.ac.length bc1, .slice bo2 B.nx.length bc2] 27)) := ⟨_, rfl⟩
  have hs0 : Since w y := by rw [hy]; exact ((Since.refl w).alloc _).alloc _
  have B0 : Hid (Blk y w.heap.size 27 #[.int .i64 A.st, .slice ao1 A.ac.length ac1, .slice ao2 A.nx.length ac2]) := by rw [hy]; exact (Blk.new rfl _ _).alloc _
  have B1 : Hid (Blk y (w.heap.size + 1) 27 #[.int .i64 B.st, .slice bo1 B.ac.length bc1, .slice bo2 B.nx.length bc2]) := by rw [hy]; exact Blk.new (by simp) _ _
  have HY := Lib.hid hy
  clear hy
  have HQ := Lib.hid (Aut.eq_iff A B)
  by_cases e0 : A.st = B.st
  · have E0 := Lib.hid e0
    have d0 : (A.st != B.st) = false := by simp [e0]
    clear e0
    by_cases e1 : A.ac = B.ac
    · have E1 := Lib.hid e1
      have D1 : Hid (decide (A.ac = B.ac) = true) := decide_eq_true e1
      clear e1
      by_cases e2 : A.nx = B.nx
      · have D2 : Hid (decide (A.nx = B.nx) = true) := decide_eq_true e2
        have HD : Hid (decide (A = B) = true) := decide_eq_true (HQ.out.2 ⟨E0.out, E1.out, e2⟩)
        clear e2
        go_enter Try.func35, Try.ntmps35
        go_wp2_with fail
        rw [← HY.out]
        refine (eqBoolS_any _ _ A.ac B.ac _ (HA1.out.since hs0) (HB1.out.since hs0) (by omega) (by omega)).mono ?_
        rintro e w1 ⟨rfl, hs1⟩
        rw [D1.out]
        have hs01 := hs0.trans hs1
        obtain ⟨⟨p0, p1, p2⟩, _⟩ := (B0.out.since hs1).threeA
        obtain ⟨⟨q0, q1, q2⟩, _⟩ := (B1.out.since hs1).threeA
        go_wp2_with fail
        refine (eqIntSS_any _ _ A.nx B.nx _ (HA2.out.since hs01) (HB2.out.since hs01) (by omega) (by omega) GX.out HX.out).mono ?_
        rintro e w2 ⟨rfl, hs2⟩
        rw [D2.out]
        have hs02 := hs01.trans hs2
        go_wp2
        go_ret
        exact ⟨ret_bool HD.out.symm, hs02⟩
      · have D2 : Hid (decide (A.nx = B.nx) = false) := decide_eq_false e2
        have HD : Hid (decide (A = B) = false) := decide_eq_false (fun e => e2 (HQ.out.1 e).2.2)
        clear e2
        go_enter Try.func35, Try.ntmps35
        go_wp2_with fail
        rw [← HY.out]
        refine (eqBoolS_any _ _ A.ac B.ac _ (HA1.out.since hs0) (HB1.out.since hs0) (by omega) (by omega)).mono ?_
        rintro e w1 ⟨rfl, hs1⟩
        rw [D1.out]
        have hs01 := hs0.trans hs1
        obtain ⟨⟨p0, p1, p2⟩, _⟩ := (B0.out.since hs1).threeA
        obtain ⟨⟨q0, q1, q2⟩, _⟩ := (B1.out.since hs1).threeA
        go_wp2_with fail
        refine (eqIntSS_any _ _ A.nx B.nx _ (HA2.out.since hs01) (HB2.out.since hs01) (by omega) (by omega) GX.out HX.out).mono ?_
        rintro e w2 ⟨rfl, hs2⟩
        rw [D2.out]
        have hs02 := hs01.trans hs2
        go_wp2
        go_ret
        exact ⟨ret_bool HD.out.symm, hs02⟩
    · have D1 : Hid (decide (A.ac = B.ac) = false) := decide_eq_false e1
      have HD : Hid (decide (A = B) = false) := decide_eq_false (fun e => e1 (HQ.out.1 e).2.1)
      clear e1
      go_enter Try.func35, Try.ntmps35
      go_wp2_with fail
      rw [← HY.out]
      refine (eqBoolS_any _ _ A.ac B.ac _ (HA1.out.since hs0) (HB1.out.since hs0) (by omega) (by omega)).mono ?_
      rintro e w1 ⟨rfl, hs1⟩
      rw [D1.out]
      have hs01 := hs0.trans hs1
      go_wp2
      go_ret
      exact ⟨ret_bool HD.out.symm, hs01⟩
  · have d0 : (A.st != B.st) = true := by simpa using e0
    have HD : Hid (decide (A = B) = false) := decide_eq_false (fun e => e0 (HQ.out.1 e).1)
    clear e0
    go_enter Try.func35, Try.ntmps35
    go_wp2
    rw [← HY.out]
    go_ret
    exact ⟨ret_bool HD.out.symm, hs0⟩
/-- What markAutomaton writes. -/
def cntAu (k : Int) (A : Aut) : Aut := ⟨A.st, countB k A.ac.length, cntSS (k + A.ac.length) A.nx⟩
def szAu (A : Aut) : Int := (A.ac.length : Int) + (totS A.nx : Int)
def MarkAOut (lo hi : Nat) (w : World) (v : Value) (k : Int) (A : Aut) (e : Ending) (w' : World) : Prop :=
  e = .returned (.int .i64 (k + szAu A)) ∧ OwnA lo hi w' v (cntAu k A) ∧ Within lo hi w w'
theorem apart_none {a b : Value} (h : Apart a b) : a.ownBlock = none ∨ a.ownBlock ≠ b.ownBlock := h
set_option maxRecDepth 100000 in
theorem markAutomaton_any (lo hi : Nat) (v : Value) (A : Aut) (k : Int) (w : World) (h : OwnA lo hi w v A) (hhi : hi ≤ w.heap.size) (hk0 : 0 ≤ k) (hk9 : k ≤ 10000000) (hm : BgA A) :
    Calls Try.prog 36 #[v, .int .i64 k] w (MarkAOut lo hi w v k A) := by
  obtain ⟨a, b, rfl, hi0, ha, ra, hb⟩ := h
  have HA := Lib.hid ha
  have HB := Lib.hid hb
  clear ha hb
  obtain ⟨ao, ac, rfl⟩ := HA.out.len
  obtain ⟨bo, bc, rfl⟩ := HB.out.len
  obtain ⟨m1, m2, m3⟩ := hm
  have hs0 : Since w (w.alloc (.cells #[.int .i64 A.st, .slice ao A.ac.length ac, .slice bo A.nx.length bc] 27)) := (Since.refl w).alloc _
  have B0 : Hid (Blk (w.alloc (.cells #[.int .i64 A.st, .slice ao A.ac.length ac, .slice bo A.nx.length bc] 27)) w.heap.size 27 #[.int .i64 A.st, .slice ao A.ac.length ac, .slice bo A.nx.length bc]) := Blk.new rfl _ _
  have hn0 : 0 ≤ k + (A.ac.length : Int) := by omega
  have hn9 : k + (A.ac.length : Int) ≤ 100000000 := by omega
  go_enter Try.func36, Try.ntmps36
  go_wp2_with fail
  refine (markBoolS_any lo _ A.ac k _ (HA.out.since hs0) hk0 (by omega) (by omega)).mono ?_
  rintro e w1 ⟨rfl, ho1, hg1⟩
  have hw1 : Hid (Within lo hi w w1) := (Within.of_since hs0).trans (Within.of_grown hg1 ra)
  have b0 : Hid (Blk w1 w.heap.size 27 #[.int .i64 A.st, .slice ao A.ac.length ac, .slice bo A.nx.length bc]) := B0.out.within (Within.of_grown hg1 ra) (.inr hhi)
  have hob : Hid (OwnSS lo hi w1 (.slice bo A.nx.length bc) A.nx) := by
    have hA := HA.out.since hs0
    obtain ⟨ps, q1, q2, q3, q4, q5⟩ := HB.out.since hs0
    exact ⟨ps, q1.kept hg1 (apart_types q1 hA (by decide)), q2, q3, fun i hi h => ⟨⟨(q4 i hi h).1.1, (q4 i hi h).1.2.kept hg1 (apart_types (q4 i hi h).1.2 hA (by decide))⟩, (q4 i hi h).2⟩, q5⟩
  have HO1 := Lib.hid ho1
  clear ho1 hg1
  obtain ⟨⟨p0, p1, p2⟩, _⟩ := b0.out.threeA
  go_wp2_with fail
  refine (markIntSS_any lo hi _ A.nx (k + (A.ac.length : Int)) _ hob.out hn0 hn9 m2 m3).mono ?_
  rintro e w2 ⟨rfl, ho2, hg2, hk2⟩
  have hw2 : Hid (Within lo hi w w2) := hw1.out.trans hg2
  have HO2 := Lib.hid ho2
  have HO3 : Hid (OwnBo lo w2 (.slice ao A.ac.length ac) (countB k A.ac.length)) := hk2.row (by decide) HO1.out
  clear ho2
  go_wp2
  go_ret
  exact ⟨ret_int (by unfold szAu; omega), ⟨_, _, rfl, hi0, HO3.out, ra, HO2.out⟩, hw2.out⟩
set_option maxRecDepth 100000 in
theorem heldAutomaton_any (v : Value) (A : Aut) (k : Int) (w : World) (h : AutAt w v (cntAu k A)) (hk0 : 0 ≤ k) (hk9 : k ≤ 10000000) (hm : BgA A) :
    Calls Try.prog 37 #[v, .int .i64 k] w fun e w' => e = .returned (.int .i64 (k + szAu A)) ∧ Since w w' := by
  obtain ⟨a, b, rfl, _, ha, hb⟩ := h
  have HA : Hid (BosAt w a (countB k A.ac.length)) := ha
  have HB : Hid (IssAt w b (cntSS (k + A.ac.length) A.nx)) := hb
  clear ha hb
  obtain ⟨m1, m2, m3⟩ := hm
  obtain ⟨ao, ac, rfl⟩ := HA.out.len
  obtain ⟨bo, bc, rfl⟩ := HB.out.len
  obtain ⟨n, hn⟩ : ∃ n, n = (countB k A.ac.length).length := ⟨_, rfl⟩
  obtain ⟨m, hm⟩ : ∃ m, m = (cntSS (k + A.ac.length) A.nx).length := ⟨_, rfl⟩
  rw [← hn] at HA ⊢
  rw [← hm] at HB ⊢
  clear hn hm
  have hs0 : Since w (w.alloc (.cells #[.int .i64 A.st, .slice ao n ac, .slice bo m bc] 27)) := (Since.refl w).alloc _
  have hn0 : 0 ≤ k + (A.ac.length : Int) := by omega
  have hn9 : k + (A.ac.length : Int) ≤ 100000000 := by omega
  have d1 : decide (k + (A.ac.length : Int) < 0) = false := by simp; omega
  have d2 : decide (k + (A.ac.length : Int) + (totS A.nx : Int) < 0) = false := by simp; omega
  go_enter Try.func37, Try.ntmps37
  go_wp2_with fail
  refine (heldBoolS_any _ k A.ac.length _ (HA.out.since hs0) hk0 (by omega) (by omega)).mono ?_
  rintro e w1 ⟨rfl, rfl⟩
  go_wp2_with fail
  refine (heldIntSS_any _ A.nx (k + (A.ac.length : Int)) _ (HB.out.since hs0) hn0 hn9 m2 m3).mono ?_
  rintro e w1 ⟨rfl, rfl⟩
  go_wp2
  go_ret
  exact ⟨ret_int (by unfold szAu; omega), hs0⟩
end Go.Proofs.Ytcokggjekleabaa
