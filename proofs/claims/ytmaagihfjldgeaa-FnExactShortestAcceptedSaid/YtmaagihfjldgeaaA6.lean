/- OpenG, Ps, MarkG, PsE, OpenA, Head: small words and contracts that the other texts use. -/
import Derived.Test.YtmaagihfjldgeaaOpenI
import Derived.Test.YtmaagihfjldgeaaK0
import Derived.Lib.SmallJoins
import Derived.Deep.Slices
import Derived.Test.YtmaagihfjldgeaaPsM
import Derived.Test.YtmaagihfjldgeaaK1
import Derived.Test.YtmaagihfjldgeaaA1
import Derived.Test.YtmaagihfjldgeaaProg
import Derived.Test.YtmaagihfjldgeaaChecked
import Derived.Test.YtmaagihfjldgeaaRows
/- Arguments opened: an edge, a graph. -/
namespace Go.Proofs.Ytmaagihfjldgeaa
set_option maxRecDepth 100000
open Go.ChangeShapes Go.WideShapes Go.ChangeAt Go.RowKit Go.Joins Go.Deep
set_option linter.unusedVariables false
theorem ints_of {H : Type} {enc : TypeId × Value → H} {W : World} {fuel : Nat} {v : Value} {x : DataW H × List MemPlace}
    (hf : DataW.trod enc Try.prog W 0 (fun _ => true) true fuel 24 [v] = some x) : ∃ xs, IntsAt W v xs ∧ xs.length ≤ maxLen := by
  rcases open_ints Try.underlying24 Try.underlying3 cells_int hf with ⟨hcs, _⟩ | ⟨a, len', cap', zs, hcs, _, hl, hm, hz, _, hcell, hwz⟩
  · injection hcs with hcs; subst hcs
    exact ⟨[], ⟨fun x hx => by simp at hx, .inl ⟨rfl, _, _, rfl⟩⟩, Nat.zero_le _⟩
  · injection hcs with hcs; subst hcs
    have hz' : zs.length = cap' := by simpa using hz
    have hin : ∀ x ∈ zs.take len', InI x := fun x hx => wf_i64 (hwz x (List.mem_of_mem_take hx))
    have htl : (zs.take len').length = len' := by rw [List.length_take]; omega
    by_cases h0 : len' = 0
    · subst h0
      exact ⟨[], ⟨fun x hx => by simp at hx, .inl ⟨rfl, _, _, rfl⟩⟩, Nat.zero_le _⟩
    · obtain ⟨b, off, rfl, hc⟩ := ints_at hcell (by omega)
      have hb := World.block_lt_of_cell? _ _ (hc 0 (by omega))
      refine ⟨zs.take len', ⟨hin, .inr ⟨b, off, cap', by rw [htl], hb, fun i hi => ?_⟩⟩, ?_⟩
      · rw [hc i (by omega), List.getD_eq_getElem?_getD, List.getElem?_eq_getElem (by omega : i < zs.length)]
        simp
      · rw [htl]; omega
instance : Inhabited Edg := ⟨zeroE⟩
end Go.Proofs.Ytmaagihfjldgeaa

/- Positions in memory: as an argument, as a result; the laws' sizes, copies and comparisons of them. -/
namespace Go.Proofs.Ytmaagihfjldgeaa
set_option maxRecDepth 100000
open Go.ChangeShapes Go.WideShapes Go.ChangeAt Go.RowKit Go.Joins Go.Deep
set_option linter.unusedVariables false
set_option linter.unusedSimpArgs false

theorem Blk.fiveP {w : World} {g : Nat} {t : TypeId} {a b c d e : Value} (h : Blk w g t #[a, b, c, d, e]) :
    (w.cell? ⟨g, 0, none⟩ = some a ∧ w.cell? ⟨g, 1, none⟩ = some b ∧ w.cell? ⟨g, 2, none⟩ = some c ∧ w.cell? ⟨g, 3, none⟩ = some d ∧ w.cell? ⟨g, 4, none⟩ = some e) ∧
    (w.frozen? ⟨g, 0, none⟩ = false ∧ w.frozen? ⟨g, 1, none⟩ = false ∧ w.frozen? ⟨g, 2, none⟩ = false ∧ w.frozen? ⟨g, 3, none⟩ = false ∧ w.frozen? ⟨g, 4, none⟩ = false) :=
  ⟨⟨h.cell 0, h.cell 1, h.cell 2, h.cell 3, h.cell 4⟩, h.frozen 0, h.frozen 1, h.frozen 2, h.frozen 3, h.frozen 4⟩
/-- v reads as p. -/
def PsAt (w : World) (v : Value) (p : Psn) : Prop := ∃ a b, v = .agg #[a, .int .i64 p.fi, .int .i64 p.la, b, .bool p.nu] ∧ IntsAt w a p.ls ∧ IntsAt w b p.fo ∧ InI p.fi ∧ InI p.la
theorem PsAt.since {w w' : World} {v : Value} {p : Psn} (h : PsAt w v p) (k : Since w w') : PsAt w' v p := by
  obtain ⟨a, b, e, h1, h2, h3⟩ := h; exact ⟨a, b, e, h1.since k, h2.since k, h3⟩
/-- .. of a call's own memory, the two rows apart. -/
def OwnPs (lo : Nat) (w : World) (v : Value) (p : Psn) : Prop :=
  ∃ a b, v = .agg #[a, .int .i64 p.fi, .int .i64 p.la, b, .bool p.nu] ∧ Own lo w a p.ls ∧ Own lo w b p.fo ∧ (a.ownBlock = none ∨ a.ownBlock ≠ b.ownBlock) ∧ InI p.fi ∧ InI p.la
theorem OwnPs.at {lo : Nat} {w : World} {v : Value} {p : Psn} (h : OwnPs lo w v p) : PsAt w v p := by
  obtain ⟨a, b, e, h1, h2, _, h3⟩ := h; exact ⟨a, b, e, h1.at, h2.at, h3⟩
theorem OwnPs.since {lo : Nat} {w w' : World} {v : Value} {p : Psn} (h : OwnPs lo w v p) (k : Since w w') : OwnPs lo w' v p := by
  obtain ⟨a, b, e, h1, h2, h3⟩ := h; exact ⟨a, b, e, h1.since k, h2.since k, h3⟩
theorem OwnPs.mono {lo lo' : Nat} {w : World} {v : Value} {p : Psn} (h : OwnPs lo w v p) (hb : lo' ≤ lo) : OwnPs lo' w v p := by
  obtain ⟨a, b, e, h1, h2, h3⟩ := h; exact ⟨a, b, e, h1.mono hb, h2.mono hb, h3⟩
theorem OwnPs.far {lo : Nat} {w : World} {v : Value} {p : Psn} (h : OwnPs lo w v p) {q : Addr} (hq : q.block < lo) (u : Value) : OwnPs lo (w.setCell q u) v p := by
  obtain ⟨a, b, e, h1, h2, h3⟩ := h; exact ⟨a, b, e, h1.far hq u, h2.far hq u, h3⟩
def PsOut (w : World) (p : Psn) (e : Ending) (w' : World) : Prop := ∃ v, e = .returned v ∧ OwnPs w.heap.size w' v p ∧ Since w w'
/-- Whether positions are within the laws' size. -/
def szP (p : Psn) (left : Int) : Int := if left - (p.ls.length : Int) < 0 then -1 else szLeft p.fo.length (left - (p.ls.length : Int))
set_option maxRecDepth 100000 in
theorem szPositions_any (v : Value) (p : Psn) (left : Int) (w : World) (h : PsAt w v p) (hl : p.ls.length ≤ maxLen) (hl2 : p.fo.length ≤ maxLen) (h0 : 0 ≤ left) (h1 : left ≤ 1048576) :
    Calls Try.prog 46 #[v, .int .i64 left] w fun e w' => e = .returned (.int .i64 (szP p left)) ∧ Since w w' := by
  obtain ⟨a, b, rfl, ha, hb, _⟩ := h
  have HA := Lib.hid ha
  have HB := Lib.hid hb
  clear ha hb
  obtain ⟨ao, ca, rfl, _⟩ := HA.out.row
  obtain ⟨bo, cb, rfl, _⟩ := HB.out.row
  have hs0 : Since w (w.alloc (.cells #[.slice ao p.ls.length ca, .int .i64 p.fi, .int .i64 p.la, .slice bo p.fo.length cb, .bool p.nu] 51)) := (Since.refl w).alloc _
  by_cases hc : left - (p.ls.length : Int) < 0
  · have HE : Hid (szLeft p.ls.length left = -1) := by unfold Hid szLeft; rw [if_pos hc]
    have HG : Hid (szP p left = -1) := by unfold Hid szP; rw [if_pos hc]
    clear hc
    go_enter Try.func46, Try.ntmps46
    go_wp2_with fail
    refine (szIntS_any _ p.ls _ _ (HA.out.since hs0) hl h0 h1).mono ?_
    rintro e w1 ⟨rfl, rfl⟩
    rw [HE.out]
    go_wp2
    go_ret
    exact ⟨ret_int HG.out.symm, hs0⟩
  · have HE : Hid (szLeft p.ls.length left = left - (p.ls.length : Int)) := by unfold Hid szLeft; rw [if_neg hc]
    have HG : Hid (szP p left = szLeft p.fo.length (left - (p.ls.length : Int))) := by unfold Hid szP; rw [if_neg hc]
    obtain ⟨r, hr⟩ : ∃ r, r = left - (p.ls.length : Int) := ⟨_, rfl⟩
    rw [← hr] at HE HG hc
    have hr0 : 0 ≤ r := by omega
    have hr1 : r ≤ 1048576 := by omega
    clear hc hr
    by_cases hd : r - (p.fo.length : Int) < 0
    · have HF : Hid (szLeft p.fo.length r = -1) := by unfold Hid szLeft; rw [if_pos hd]
      clear hd
      go_enter Try.func46, Try.ntmps46
      go_wp2_with fail
      refine (szIntS_any _ p.ls _ _ (HA.out.since hs0) hl h0 h1).mono ?_
      rintro e w1 ⟨rfl, rfl⟩
      rw [HE.out]
      go_wp2_with fail
      refine (szIntS_any _ p.fo _ _ (HB.out.since hs0) hl2 hr0 hr1).mono ?_
      rintro e w1 ⟨rfl, rfl⟩
      rw [HF.out]
      go_wp2
      go_ret
      exact ⟨ret_int (by rw [HG.out, HF.out]), hs0⟩
    · have HF : Hid (szLeft p.fo.length r = r - (p.fo.length : Int)) := by unfold Hid szLeft; rw [if_neg hd]
      go_enter Try.func46, Try.ntmps46
      go_wp2_with fail
      refine (szIntS_any _ p.ls _ _ (HA.out.since hs0) hl h0 h1).mono ?_
      rintro e w1 ⟨rfl, rfl⟩
      rw [HE.out]
      go_wp2_with fail
      refine (szIntS_any _ p.fo _ _ (HB.out.since hs0) hl2 hr0 hr1).mono ?_
      rintro e w1 ⟨rfl, rfl⟩
      rw [HF.out]
      go_wp2
      go_ret
      exact ⟨ret_int (by rw [HG.out, HF.out]), hs0⟩
theorem Psn.eq_iff (p q : Psn) : p = q ↔ p.ls = q.ls ∧ p.fi = q.fi ∧ p.la = q.la ∧ p.fo = q.fo ∧ p.nu = q.nu := by
  cases p; cases q; simp
theorem psOut_mk {w w' : World} {a b : Value} {p : Psn} (h1 : Own w.heap.size w' a p.ls) (h2 : Own w.heap.size w' b p.fo) (h3 : a.ownBlock = none ∨ a.ownBlock ≠ b.ownBlock) (i1 : InI p.fi) (i2 : InI p.la) (hs : Since w w') :
    PsOut w p (.returned (.agg #[a, .int .i64 p.fi, .int .i64 p.la, b, .bool p.nu])) w' := ⟨_, rfl, ⟨_, _, rfl, h1, h2, h3, i1, i2⟩, hs⟩
/-- A row of a call's own, made before the other. -/
theorem own_before {lo : Nat} {w w' : World} {a b : Value} {xs ys : List Int} (h : Own lo w a xs) (k : Own w.heap.size w' b ys) : a.ownBlock = none ∨ a.ownBlock ≠ b.ownBlock := by
  cases e : a.ownBlock with
  | none => exact .inl rfl
  | some g =>
    right
    intro e2
    have h1 := h.2.lt g e
    have h2 := k.2.lt g e2.symm
    omega
set_option maxHeartbeats 1000000 in
set_option maxRecDepth 100000 in
theorem toPositions_any (v : Value) (p : Psn) (w : World) (h : PsAt w v p) (h1 : p.ls.length ≤ 1048577) (h2 : p.fo.length ≤ 1048577) :
    Calls Try.prog 47 #[v] w (PsOut w p) := by
  obtain ⟨a, b, rfl, ha, hb, hi1, hi2⟩ := h
  have HA := Lib.hid ha
  have HB := Lib.hid hb
  clear ha hb
  obtain ⟨ao, ca, rfl, _⟩ := HA.out.row
  obtain ⟨bo, cb, rfl, _⟩ := HB.out.row
  obtain ⟨y, hy⟩ : ∃ y, y = (((w.alloc (.cells #[.slice ao p.ls.length ca, .int .i64 p.fi, .int .i64 p.la, .slice bo p.fo.length cb, .bool p.nu] 51)).alloc (.cells #[.slice none 0 0, .int .i64 0, .int .i64 0, .slice none 0 0, .bool false] 26)).alloc (.cells #[.slice none 0 0, .int .i64 0, .int .i64 0, .slice none 0 0, .bool false] 26)) := ⟨_, rfl⟩
  have hs0 : Since w y := by rw [hy]; exact (((Since.refl w).alloc _).alloc _).alloc _
  have hsz : y.heap.size = w.heap.size + 3 := by rw [hy]; simp
  have B0 : Hid (Blk y w.heap.size 51 #[.slice ao p.ls.length ca, .int .i64 p.fi, .int .i64 p.la, .slice bo p.fo.length cb, .bool p.nu]) := by rw [hy]; exact ((Blk.new rfl _ _).alloc _).alloc _
  have B1 : Hid (Blk y (w.heap.size + 1) 26 #[.slice none 0 0, .int .i64 0, .int .i64 0, .slice none 0 0, .bool false]) := by rw [hy]; exact (Blk.new (by simp) _ _).alloc _
  have B2 : Hid (Blk y (w.heap.size + 1 + 1) 26 #[.slice none 0 0, .int .i64 0, .int .i64 0, .slice none 0 0, .bool false]) := by rw [hy]; exact Blk.new (by simp) _ _
  have HY := Lib.hid hy
  clear hy
  go_enter Try.func47, Try.ntmps47
  go_wp2_with fail
  rw [← HY.out]
  refine (toIntS_any _ p.ls _ (HA.out.since hs0) h1).mono ?_
  rintro e w1 ⟨v1, rfl, ho1, hs1⟩
  obtain ⟨ao1, cap1, rfl⟩ := ho1.len
  have HO1 := Lib.hid ho1
  clear ho1
  have hs01 := hs0.trans hs1
  have hw1 : w.heap.size + 3 ≤ w1.heap.size := by have := hs1.size; omega
  have hmono : w.heap.size + 3 = y.heap.size := hsz.symm
  have b0 := Lib.hid (B0.out.since hs1)
  have b1 := Lib.hid (B1.out.since hs1)
  have b2 := Lib.hid (B2.out.since hs1)
  clear B0 B1 B2
  obtain ⟨⟨p0, p1, p2, p3, p4⟩, _⟩ := b0.out.fiveP
  obtain ⟨_, s0, s1, s2, s3, s4⟩ := b2.out.fiveP
  go_wp2_with fail
  clear p0 p1 p2 p3 p4 s0 s1 s2 s3 s4
  obtain ⟨w2, hw2⟩ : ∃ w2, w2 = ((w1.setCell ⟨w.heap.size + 1 + 1, 0, none⟩ (.slice ao1 p.ls.length cap1)).setCell ⟨w.heap.size + 1 + 1, 1, none⟩ (.int .i64 p.fi)).setCell ⟨w.heap.size + 1 + 1, 2, none⟩ (.int .i64 p.la) := ⟨_, rfl⟩
  rw [← hw2]
  have hs02 : Since w w2 := by
    rw [hw2]
    iterate 3 (with_reducible refine Since.setCell ?_ (by simp; omega) _)
    exact hs01
  have hsz2 : w2.heap.size = w1.heap.size := by rw [hw2]; simp
  have HO2 : Hid (Own y.heap.size w2 (.slice ao1 p.ls.length cap1) p.ls) := by rw [hw2]; exact ((HO1.out.far (by simp; omega) _).far (by simp; omega) _).far (by simp; omega) _
  have b3 : Hid (Blk w2 w.heap.size 51 #[.slice ao p.ls.length ca, .int .i64 p.fi, .int .i64 p.la, .slice bo p.fo.length cb, .bool p.nu]) := by rw [hw2]; exact ((b0.out.far (by simp; omega) _).far (by simp; omega) _).far (by simp; omega) _
  have b4 : Hid (Blk w2 (w.heap.size + 1) 26 #[.slice none 0 0, .int .i64 0, .int .i64 0, .slice none 0 0, .bool false]) := by rw [hw2]; exact ((b1.out.far (by simp) _).far (by simp) _).far (by simp) _
  have b5 : Hid (Blk w2 (w.heap.size + 1 + 1) 26 #[.slice ao1 p.ls.length cap1, .int .i64 p.fi, .int .i64 p.la, .slice none 0 0, .bool false]) := by rw [hw2]; exact ((b2.out.set 0 _).set 1 _).set 2 _
  clear HO1 b0 b1 b2 hw2
  refine (toIntS_any _ p.fo _ (HB.out.since hs02) h2).mono ?_
  rintro e w3 ⟨v2, rfl, ho2, hs3⟩
  obtain ⟨ao2, cap2, rfl⟩ := ho2.len
  have HN := Lib.hid (own_before HO2.out ho2)
  have HO3 := Lib.hid ho2
  clear ho2
  have hs03 := hs02.trans hs3
  have HO4 := Lib.hid (HO2.out.since hs3)
  have b6 := Lib.hid (b3.out.since hs3)
  have b7 := Lib.hid (b4.out.since hs3)
  have b8 := Lib.hid (b5.out.since hs3)
  have hw3 : w.heap.size + 3 ≤ w2.heap.size := by omega
  have hw4 := hs3.size
  clear HO2 b3 b4 b5
  obtain ⟨⟨p0, p1, p2, p3, p4⟩, _⟩ := b6.out.fiveP
  obtain ⟨⟨q0, q1, q2, q3, q4⟩, s0, s1, s2, s3, s4⟩ := b8.out.fiveP
  obtain ⟨_, t0, t1, t2, t3, t4⟩ := b7.out.fiveP
  go_wp2_with fail
  refine bodyPost_ret (v := .agg #[.slice ao1 p.ls.length cap1, .int .i64 p.fi, .int .i64 p.la, .slice ao2 p.fo.length cap2, .bool p.nu]) (by simp [results, Try.results47, go_sem, *]) rfl ?_
  refine psOut_mk (Own.mono (base := y.heap.size) ?_ (by omega)) (Own.mono (base := w2.heap.size) ?_ (by omega)) HN.out hi1 hi2 ?_
  · iterate 7 (with_reducible refine Own.far ?_ (by simp <;> omega) _)
    exact HO4.out
  · iterate 7 (with_reducible refine Own.far ?_ (by simp <;> omega) _)
    exact HO3.out
  · iterate 7 (with_reducible refine Since.setCell ?_ (by simp <;> omega) _)
    exact hs03
end Go.Proofs.Ytmaagihfjldgeaa

/- The laws' marks on graphs, and their checks. -/
namespace Go.Proofs.Ytmaagihfjldgeaa
set_option maxRecDepth 100000
open Go.ChangeShapes Go.WideShapes Go.ChangeAt Go.RowKit
set_option linter.unusedVariables false

/-- What markEdgeS writes: k, k + 1, .. -/
def edgAt (k : Int) (i : Nat) : Edg := ⟨k + 4 * (i : Int), k + 4 * (i : Int) + 1, k + 4 * (i : Int) + 1 + 1, k + 4 * (i : Int) + 1 + 1 + 1⟩
def countE (k : Int) (n : Nat) : List Edg := (List.range n).map (edgAt k)
theorem countE_length (k : Int) (n : Nat) : (countE k n).length = n := by simp [countE]
theorem countE_at (k : Int) (n i : Nat) (h : i < n) : (countE k n)[i]'(by rw [countE_length]; exact h) = edgAt k i := by simp [countE]
theorem countE_in (k : Int) (n : Nat) (h0 : 0 ≤ k) (h9 : k ≤ 1152921504606846976) (hn : n ≤ 288230376151711744) : ∀ x ∈ countE k n, x.In := by
  intro x hx
  simp [countE] at hx
  obtain ⟨i, hi, rfl⟩ := hx
  unfold Edg.In InI edgAt; simp; omega
/-- A row xs of which the first j are written. -/
def markedE (xs : List Edg) (k : Int) (j : Nat) : List Edg := countE k j ++ xs.drop j
theorem markedE_zero (xs : List Edg) (k : Int) : markedE xs k 0 = xs := by simp [markedE, countE]
theorem markedE_all (xs : List Edg) (k : Int) : markedE xs k xs.length = countE k xs.length := by simp [markedE]
theorem markedE_length (xs : List Edg) (k : Int) (j : Nat) (h : j ≤ xs.length) : (markedE xs k j).length = xs.length := by simp [markedE, countE_length]; omega
theorem markedE_set (xs : List Edg) (k : Int) (j : Nat) (h : j < xs.length) : (markedE xs k j).set j (edgAt k j) = markedE xs k (j + 1) := by
  unfold markedE
  rw [List.set_append_right _ _ (by simp [countE]), countE_length, Nat.sub_self, List.drop_eq_getElem_cons h, List.set_cons_zero]
  have : countE k (j + 1) = countE k j ++ [edgAt k j] := by simp [countE, List.range_succ]
  rw [this, List.append_assoc]; rfl

/-- What markGraph writes. -/
def cntG (k : Int) (g : Grf) : Grf := ⟨count k g.vs.length, countE (k + g.vs.length) g.es.length⟩
theorem cntG_vs (k : Int) (g : Grf) : (cntG k g).vs.length = g.vs.length := count_length _ _
theorem cntG_es (k : Int) (g : Grf) : (cntG k g).es.length = g.es.length := countE_length _ _
def szOf (g : Grf) : Int := (g.vs.length : Int) + 4 * (g.es.length : Int)
end Go.Proofs.Ytmaagihfjldgeaa

/- The laws' comparison, marks and checks of positions; the argument opened. -/
namespace Go.Proofs.Ytmaagihfjldgeaa
set_option maxRecDepth 100000
open Go.ChangeShapes Go.WideShapes Go.ChangeAt Go.RowKit Go.Joins Go.Deep
set_option linter.unusedVariables false
set_option linter.unusedSimpArgs false

set_option maxHeartbeats 2000000 in
set_option maxRecDepth 100000 in
theorem eqPositions_any (a b : Value) (p q : Psn) (w : World) (ha : PsAt w a p) (hb : PsAt w b q) (g1 : p.ls.length ≤ 1152921504606846976) (g2 : p.fo.length ≤ 1152921504606846976) (h1 : q.ls.length ≤ 1152921504606846976) (h2 : q.fo.length ≤ 1152921504606846976) :
    Calls Try.prog 49 #[a, b] w fun e w' => e = .returned (.bool (decide (p = q))) ∧ Since w w' := by
  obtain ⟨a1, a2, rfl, ha1, ha2, _⟩ := ha
  obtain ⟨b1, b2, rfl, hb1, hb2, _⟩ := hb
  have HA1 := Lib.hid ha1
  have HA2 := Lib.hid ha2
  have HB1 := Lib.hid hb1
  have HB2 := Lib.hid hb2
  clear ha1 ha2 hb1 hb2
  obtain ⟨ao1, ac1, rfl, _⟩ := HA1.out.row
  obtain ⟨ao2, ac2, rfl, _⟩ := HA2.out.row
  obtain ⟨bo1, bc1, rfl, _⟩ := HB1.out.row
  obtain ⟨bo2, bc2, rfl, _⟩ := HB2.out.row
  obtain ⟨y, hy⟩ : ∃ y, y = ((w.alloc (.cells #[.slice ao1 p.ls.length ac1, .int .i64 p.fi, .int .i64 p.la, .slice ao2 p.fo.length ac2, .bool p.nu] 26)).alloc (.cells #[.slice bo1 q.ls.length bc1, .int .i64 q.fi, .int .i64 q.la, .slice bo2 q.fo.length bc2, .bool q.nu] 26)) := ⟨_, rfl⟩
  have hs0 : Since w y := by rw [hy]; exact ((Since.refl w).alloc _).alloc _
  have B0 : Hid (Blk y w.heap.size 26 #[.slice ao1 p.ls.length ac1, .int .i64 p.fi, .int .i64 p.la, .slice ao2 p.fo.length ac2, .bool p.nu]) := by rw [hy]; exact (Blk.new rfl _ _).alloc _
  have B1 : Hid (Blk y (w.heap.size + 1) 26 #[.slice bo1 q.ls.length bc1, .int .i64 q.fi, .int .i64 q.la, .slice bo2 q.fo.length bc2, .bool q.nu]) := by rw [hy]; exact Blk.new (by simp) _ _
  have HY := Lib.hid hy
  clear hy
  have HQ := Lib.hid (Psn.eq_iff p q)
  by_cases e0 : p.ls = q.ls
  · have E0 := Lib.hid e0
    clear e0
    by_cases e1 : p.fi = q.fi
    · have E1 := Lib.hid e1
      clear e1
      by_cases e2 : p.la = q.la
      · have E2 := Lib.hid e2
        clear e2
        by_cases e3 : p.fo = q.fo
        · have E3 := Lib.hid e3
          clear e3
          by_cases e4 : p.nu = q.nu
          · have E4 := Lib.hid e4
            clear e4
            have HD : Hid (decide (p = q) = true) := by unfold Hid; exact decide_eq_true (HQ.out.2 ⟨E0.out, E1.out, E2.out, E3.out, E4.out⟩)
            have D0 : Hid (decide (p.ls = q.ls) = true) := by unfold Hid; exact decide_eq_true E0.out
            have d1 : (p.fi != q.fi) = false := by simp [E1.out]
            have d2 : (p.la != q.la) = false := by simp [E2.out]
            have D3 : Hid (decide (p.fo = q.fo) = true) := by unfold Hid; exact decide_eq_true E3.out
            have d4 : (p.nu == q.nu) = true := by simp [E4.out]
            go_enter Try.func49, Try.ntmps49
            go_wp2_with fail
            rw [← HY.out]
            refine (eqIntS_any _ _ p.ls q.ls _ (HA1.out.since hs0) (HB1.out.since hs0) (by omega) (by omega)).mono ?_
            rintro e w1 ⟨rfl, hs1⟩
            rw [D0.out]
            have hs01 := hs0.trans hs1
            obtain ⟨⟨p0, p1, p2, p3, p4⟩, _⟩ := (B0.out.since hs1).fiveP
            obtain ⟨⟨q0, q1, q2, q3, q4⟩, _⟩ := (B1.out.since hs1).fiveP
            go_wp2_with fail
            refine (eqIntS_any _ _ p.fo q.fo _ (HA2.out.since hs01) (HB2.out.since hs01) (by omega) (by omega)).mono ?_
            rintro e w2 ⟨rfl, hs2⟩
            rw [D3.out]
            have hs02 := hs01.trans hs2
            obtain ⟨⟨p0', p1', p2', p3', p4'⟩, _⟩ := (B0.out.since (hs1.trans hs2)).fiveP
            obtain ⟨⟨q0', q1', q2', q3', q4'⟩, _⟩ := (B1.out.since (hs1.trans hs2)).fiveP
            go_wp2
            go_ret
            exact ⟨ret_bool HD.out.symm, hs02⟩
          · have N4 := Lib.hid e4
            clear e4
            have HD : Hid (decide (p = q) = false) := by unfold Hid; exact decide_eq_false (fun e => N4.out ((HQ.out.1 e).2.2.2.2))
            have D0 : Hid (decide (p.ls = q.ls) = true) := by unfold Hid; exact decide_eq_true E0.out
            have d1 : (p.fi != q.fi) = false := by simp [E1.out]
            have d2 : (p.la != q.la) = false := by simp [E2.out]
            have D3 : Hid (decide (p.fo = q.fo) = true) := by unfold Hid; exact decide_eq_true E3.out
            have d4 : (p.nu == q.nu) = false := by simpa using N4.out
            go_enter Try.func49, Try.ntmps49
            go_wp2_with fail
            rw [← HY.out]
            refine (eqIntS_any _ _ p.ls q.ls _ (HA1.out.since hs0) (HB1.out.since hs0) (by omega) (by omega)).mono ?_
            rintro e w1 ⟨rfl, hs1⟩
            rw [D0.out]
            have hs01 := hs0.trans hs1
            obtain ⟨⟨p0, p1, p2, p3, p4⟩, _⟩ := (B0.out.since hs1).fiveP
            obtain ⟨⟨q0, q1, q2, q3, q4⟩, _⟩ := (B1.out.since hs1).fiveP
            go_wp2_with fail
            refine (eqIntS_any _ _ p.fo q.fo _ (HA2.out.since hs01) (HB2.out.since hs01) (by omega) (by omega)).mono ?_
            rintro e w2 ⟨rfl, hs2⟩
            rw [D3.out]
            have hs02 := hs01.trans hs2
            obtain ⟨⟨p0', p1', p2', p3', p4'⟩, _⟩ := (B0.out.since (hs1.trans hs2)).fiveP
            obtain ⟨⟨q0', q1', q2', q3', q4'⟩, _⟩ := (B1.out.since (hs1.trans hs2)).fiveP
            go_wp2
            go_ret
            exact ⟨ret_bool HD.out.symm, hs02⟩
        · have N3 := Lib.hid e3
          clear e3
          have HD : Hid (decide (p = q) = false) := by unfold Hid; exact decide_eq_false (fun e => N3.out ((HQ.out.1 e).2.2.2.1))
          have D0 : Hid (decide (p.ls = q.ls) = true) := by unfold Hid; exact decide_eq_true E0.out
          have d1 : (p.fi != q.fi) = false := by simp [E1.out]
          have d2 : (p.la != q.la) = false := by simp [E2.out]
          have D3 : Hid (decide (p.fo = q.fo) = false) := by unfold Hid; exact decide_eq_false N3.out
          go_enter Try.func49, Try.ntmps49
          go_wp2_with fail
          rw [← HY.out]
          refine (eqIntS_any _ _ p.ls q.ls _ (HA1.out.since hs0) (HB1.out.since hs0) (by omega) (by omega)).mono ?_
          rintro e w1 ⟨rfl, hs1⟩
          rw [D0.out]
          have hs01 := hs0.trans hs1
          obtain ⟨⟨p0, p1, p2, p3, p4⟩, _⟩ := (B0.out.since hs1).fiveP
          obtain ⟨⟨q0, q1, q2, q3, q4⟩, _⟩ := (B1.out.since hs1).fiveP
          go_wp2_with fail
          refine (eqIntS_any _ _ p.fo q.fo _ (HA2.out.since hs01) (HB2.out.since hs01) (by omega) (by omega)).mono ?_
          rintro e w2 ⟨rfl, hs2⟩
          rw [D3.out]
          have hs02 := hs01.trans hs2
          obtain ⟨⟨p0', p1', p2', p3', p4'⟩, _⟩ := (B0.out.since (hs1.trans hs2)).fiveP
          obtain ⟨⟨q0', q1', q2', q3', q4'⟩, _⟩ := (B1.out.since (hs1.trans hs2)).fiveP
          go_wp2
          go_ret
          exact ⟨ret_bool HD.out.symm, hs02⟩
      · have N2 := Lib.hid e2
        clear e2
        have HD : Hid (decide (p = q) = false) := by unfold Hid; exact decide_eq_false (fun e => N2.out ((HQ.out.1 e).2.2.1))
        have D0 : Hid (decide (p.ls = q.ls) = true) := by unfold Hid; exact decide_eq_true E0.out
        have d1 : (p.fi != q.fi) = false := by simp [E1.out]
        have d2 : (p.la != q.la) = true := by simpa using N2.out
        go_enter Try.func49, Try.ntmps49
        go_wp2_with fail
        rw [← HY.out]
        refine (eqIntS_any _ _ p.ls q.ls _ (HA1.out.since hs0) (HB1.out.since hs0) (by omega) (by omega)).mono ?_
        rintro e w1 ⟨rfl, hs1⟩
        rw [D0.out]
        have hs01 := hs0.trans hs1
        obtain ⟨⟨p0, p1, p2, p3, p4⟩, _⟩ := (B0.out.since hs1).fiveP
        obtain ⟨⟨q0, q1, q2, q3, q4⟩, _⟩ := (B1.out.since hs1).fiveP
        go_wp2
        go_ret
        exact ⟨ret_bool HD.out.symm, hs01⟩
    · have N1 := Lib.hid e1
      clear e1
      have HD : Hid (decide (p = q) = false) := by unfold Hid; exact decide_eq_false (fun e => N1.out ((HQ.out.1 e).2.1))
      have D0 : Hid (decide (p.ls = q.ls) = true) := by unfold Hid; exact decide_eq_true E0.out
      have d1 : (p.fi != q.fi) = true := by simpa using N1.out
      go_enter Try.func49, Try.ntmps49
      go_wp2_with fail
      rw [← HY.out]
      refine (eqIntS_any _ _ p.ls q.ls _ (HA1.out.since hs0) (HB1.out.since hs0) (by omega) (by omega)).mono ?_
      rintro e w1 ⟨rfl, hs1⟩
      rw [D0.out]
      have hs01 := hs0.trans hs1
      obtain ⟨⟨p0, p1, p2, p3, p4⟩, _⟩ := (B0.out.since hs1).fiveP
      obtain ⟨⟨q0, q1, q2, q3, q4⟩, _⟩ := (B1.out.since hs1).fiveP
      go_wp2
      go_ret
      exact ⟨ret_bool HD.out.symm, hs01⟩
  · have N0 := Lib.hid e0
    clear e0
    have HD : Hid (decide (p = q) = false) := by unfold Hid; exact decide_eq_false (fun e => N0.out ((HQ.out.1 e).1))
    have D0 : Hid (decide (p.ls = q.ls) = false) := by unfold Hid; exact decide_eq_false N0.out
    go_enter Try.func49, Try.ntmps49
    go_wp2_with fail
    rw [← HY.out]
    refine (eqIntS_any _ _ p.ls q.ls _ (HA1.out.since hs0) (HB1.out.since hs0) (by omega) (by omega)).mono ?_
    rintro e w1 ⟨rfl, hs1⟩
    rw [D0.out]
    have hs01 := hs0.trans hs1
    obtain ⟨⟨p0, p1, p2, p3, p4⟩, _⟩ := (B0.out.since hs1).fiveP
    obtain ⟨⟨q0, q1, q2, q3, q4⟩, _⟩ := (B1.out.since hs1).fiveP
    go_wp2
    go_ret
    exact ⟨ret_bool HD.out.symm, hs01⟩
/-- What markPositions writes. -/
def cntP (k : Int) (p : Psn) : Psn := ⟨count k p.ls.length, p.fi, p.la, count (k + p.ls.length) p.fo.length, p.nu⟩
def szOfP (p : Psn) : Int := (p.ls.length : Int) + (p.fo.length : Int)
def MarkPOut (lo : Nat) (w : World) (v : Value) (k : Int) (p : Psn) (hi : Nat) (e : Ending) (w' : World) : Prop :=
  e = .returned (.int .i64 (k + szOfP p)) ∧ OwnPs lo w' v (cntP k p) ∧ Within lo hi w w'
set_option maxRecDepth 100000 in
theorem markPositions_any (lo hi : Nat) (v : Value) (p : Psn) (k : Int) (w : World) (h : OwnPs lo w v p) (hr : ∀ a b x y z, v = .agg #[a, x, y, b, z] → InR lo hi a ∧ InR lo hi b) (hhi : hi ≤ w.heap.size) (hk0 : 0 ≤ k) (hk9 : k ≤ 1152921504) (h1 : p.ls.length ≤ 1152921504) (h2 : p.fo.length ≤ 1152921504) :
    Calls Try.prog 50 #[v, .int .i64 k] w (MarkPOut lo w v k p hi) := by
  obtain ⟨a, b, rfl, ha, hb, hab, hi1, hi2⟩ := h
  obtain ⟨ra, rb⟩ := hr a b _ _ _ rfl
  have HA := Lib.hid ha
  have HB := Lib.hid hb
  have HAB := Lib.hid hab
  clear ha hb hr hab
  obtain ⟨ao, ac, rfl⟩ := HA.out.len
  obtain ⟨bo, bc, rfl⟩ := HB.out.len
  obtain ⟨y, hy⟩ : ∃ y, y = (w.alloc (.cells #[.slice ao p.ls.length ac, .int .i64 p.fi, .int .i64 p.la, .slice bo p.fo.length bc, .bool p.nu] 26)) := ⟨_, rfl⟩
  have hs0 : Since w y := by rw [hy]; exact (Since.refl w).alloc _
  have B0 : Hid (Blk y w.heap.size 26 #[.slice ao p.ls.length ac, .int .i64 p.fi, .int .i64 p.la, .slice bo p.fo.length bc, .bool p.nu]) := by rw [hy]; exact Blk.new rfl _ _
  have HY := Lib.hid hy
  clear hy
  have hn0 : 0 ≤ k + (p.ls.length : Int) := by omega
  have hn9 : k + (p.ls.length : Int) ≤ 1152921504606846976 := by omega
  go_enter Try.func50, Try.ntmps50
  go_wp2_with fail
  rw [← HY.out]
  refine (markIntS_any lo _ p.ls k _ (HA.out.since hs0) hk0 (by omega) (by omega)).mono ?_
  rintro e w1 ⟨rfl, ho1, hg1⟩
  have hw1 : Hid (Within lo hi w w1) := (Within.of_since hs0).trans (Within.of_grown hg1 ra)
  have b0 : Hid (Blk w1 w.heap.size 26 #[.slice ao p.ls.length ac, .int .i64 p.fi, .int .i64 p.la, .slice bo p.fo.length bc, .bool p.nu]) := B0.out.within (Within.of_grown hg1 ra) (.inr hhi)
  have hob : Hid (Own lo w1 (.slice bo p.fo.length bc) p.fo) := ⟨HB.out.1, (HB.out.since hs0).2.kept hg1 (by
    rcases HAB.out with e | e
    · rw [e]; cases (Value.slice bo p.fo.length bc).ownBlock with
      | none => exact .inl rfl
      | some g => exact .inr (by simp)
    · exact .inr (fun e2 => e e2.symm))⟩
  have HO1 := Lib.hid ho1
  clear ho1 hg1
  obtain ⟨⟨p0, p1, p2, p3, p4⟩, _⟩ := b0.out.fiveP
  go_wp2_with fail
  refine (markIntS_any lo _ p.fo (k + (p.ls.length : Int)) _ hob.out hn0 (by omega) (by omega)).mono ?_
  rintro e w2 ⟨rfl, ho2, hg2⟩
  have hoa : Own lo w2 (.slice ao p.ls.length ac) (count k p.ls.length) := ⟨HO1.out.1, HO1.out.2.kept hg2 HAB.out⟩
  have HO2 := Lib.hid ho2
  have HO3 := Lib.hid hoa
  have hw2 : Hid (Within lo hi w w2) := hw1.out.trans (Within.of_grown hg2 rb)
  clear ho2 hoa hg2
  go_wp2
  go_ret
  exact ⟨ret_int (by unfold szOfP; omega), ⟨_, _, rfl, HO3.out, HO2.out, HAB.out, hi1, hi2⟩, hw2.out⟩
theorem cells_lpos : Try.prog.cellsOf 51 = 5 := by kernel_rfl
theorem under_lpos : ∃ f0 f1 f2 f3 f4 : Field, Try.prog.underlying 51 = some (.struct #[f0, f1, f2, f3, f4]) ∧ (f0.type = 24 ∧ f1.type = 3 ∧ f2.type = 3 ∧ f3.type = 24 ∧ f4.type = 4) ∧ oneCellFields Try.prog #[f0, f1, f2, f3, f4] = true :=
  ⟨_, _, _, _, _, Try.underlying51, ⟨rfl, rfl, rfl, rfl, rfl⟩, by kernel_rfl⟩
theorem array5 {α : Type} {cs : Array α} (h : cs.size = 5) : ∃ c0 c1 c2 c3 c4, cs = #[c0, c1, c2, c3, c4] := by
  obtain ⟨l⟩ := cs
  match l, h with
  | [c0, c1, c2, c3, c4], _ => exact ⟨c0, c1, c2, c3, c4, rfl⟩
theorem pos_open {H : Type} {enc : TypeId × Value → H} {W : World} {base : Nat} {v : Value} {d : DataW H} {ps : List MemPlace} (hk : Value.okWide Try.prog W .any base 51 v)
    (h : DataW.Trod enc Try.prog W 0 (fun _ => true) true 51 v d ps) : ∃ p : Psn, PsAt W v p ∧ (p.ls.length ≤ maxLen ∧ p.fo.length ≤ maxLen) := by
  obtain ⟨f0, f1, f2, f3, f4, hu, ⟨t0, t1, t2, t3, t4⟩, hone⟩ := under_lpos
  obtain ⟨cs, rfl, hsz⟩ := okWide_struct hu hk
  obtain ⟨c0, c1, c2, c3, c4, rfl⟩ := array5 (hsz.trans cells_lpos)
  obtain ⟨fuel, hf⟩ := h
  obtain ⟨xs, n, _, hz, _, hxl, hx⟩ := DataW.trod_struct hu hf
  clear hz
  obtain ⟨o0, k0⟩ := hone_of hone 0 f0 rfl
  obtain ⟨o1, k1⟩ := hone_of hone 1 f1 rfl
  obtain ⟨o2, k2⟩ := hone_of hone 2 f2 rfl
  obtain ⟨o3, k3⟩ := hone_of hone 3 f3 rfl
  obtain ⟨o4, k4⟩ := hone_of hone 4 f4 rfl
  have g0 := hx 0 f0 rfl
  have g1 := hx 1 f1 rfl
  have g2 := hx 2 f2 rfl
  have g3 := hx 3 f3 rfl
  have g4 := hx 4 f4 rfl
  simp only [o0, k0, o1, k1, o2, k2, o3, k3, o4, k4] at g0 g1 g2 g3 g4
  match xs, hxl with
  | [y0, y1, y2, y3, y4], _ =>
    simp [Value.cells] at g0 g1 g2 g3 g4
    rw [t0] at g0
    rw [t1] at g1
    rw [t2] at g2
    rw [t3] at g3
    rw [t4] at g4
    obtain ⟨ls, h0, l0⟩ := ints_of g0
    obtain ⟨fo, h3, l3⟩ := ints_of g3
    obtain ⟨x1, e1, _, w1⟩ := DataW.trod_int Try.underlying3 g1
    obtain ⟨x2, e2, _, w2⟩ := DataW.trod_int Try.underlying3 g2
    obtain ⟨x4, e4, _⟩ := DataW.trod_bool Try.underlying4 g4
    simp at e1 e2 e4
    subst e1 e2 e4
    exact ⟨⟨ls, x1, x2, fo, x4⟩, ⟨_, _, rfl, h0, h3, wf_i64 w1, wf_i64 w2⟩, l0, l3⟩
end Go.Proofs.Ytmaagihfjldgeaa

/- Arguments opened: an automaton. -/
namespace Go.Proofs.Ytmaagihfjldgeaa
set_option maxRecDepth 100000
open Go.ChangeShapes Go.WideShapes Go.ChangeAt Go.RowKit Go.Joins Go.Deep
set_option linter.unusedVariables false

theorem cells_bool : Try.prog.cellsOf 4 = 1 := by kernel_rfl
theorem cells_intsA : Try.prog.cellsOf 24 = 1 := by kernel_rfl
theorem bos_of {H : Type} {enc : TypeId × Value → H} {W : World} {fuel : Nat} {v : Value} {x : DataW H × List MemPlace}
    (hf : DataW.trod enc Try.prog W 0 (fun _ => true) true fuel 36 [v] = some x) : ∃ xs, BosAt W v xs ∧ xs.length ≤ maxLen := by
  rcases open_slice Try.underlying36 hf with ⟨hcs, _⟩ | ⟨a, len, cap, m, n, D, Pl, hcs, _, hl, hm, hmm, _, hi⟩
  · injection hcs with hcs; subst hcs
    exact ⟨[], BosAt.nil _ _ _, Nat.zero_le _⟩
  · injection hcs with hcs; subst hcs
    have hmm' : m = cap := by simpa using hmm
    have each : ∀ i, i < len → ∃ g : Bool, W.cell? (a.add (i * 1)) = some (.bool g) := by
      intro i hi'
      obtain ⟨cs', h1, h2⟩ := hi i (by omega)
      rw [cells_bool] at h1
      obtain ⟨_, hlen, hat⟩ := World.cells?_some h1
      match cs', hlen with
      | [c0], _ =>
        obtain ⟨b, e, _⟩ := DataW.trod_bool Try.underlying4 h2
        have a0 := hat 0 (by omega)
        rw [show ∀ x : Addr, x.add 0 = x from fun x => by simp [Addr.add]] at a0
        simp at e a0
        subst e
        exact ⟨b, by simpa using a0⟩
    obtain ⟨f, hf'⟩ := choose_lt each
    by_cases h0 : len = 0
    · subst h0
      exact ⟨[], BosAt.nil _ _ _, Nat.zero_le _⟩
    · obtain ⟨b, off, spot⟩ := a
      have hc0 := hf' 0 (by omega)
      have hspot : spot = none := by simpa [Addr.add] using World.cell?_spot hc0
      subst hspot
      have hb : b < W.heap.size := by
        have := World.block_lt_of_cell? _ _ hc0
        simpa [Addr.add] using this
      refine ⟨(List.range len).map f, ⟨some ⟨b, off, none⟩, cap, by simp, fun i hi' => ?_⟩, by simp; omega⟩
      have hil : i < len := by simpa using hi'
      have hp := hf' i hil
      rw [add_plain, Nat.mul_one] at hp
      exact ⟨b, off, rfl, hb, by simpa using hp⟩
theorem iss_of {H : Type} {enc : TypeId × Value → H} {W : World} {fuel : Nat} {v : Value} {x : DataW H × List MemPlace}
    (hf : DataW.trod enc Try.prog W 0 (fun _ => true) true fuel 37 [v] = some x) : ∃ xs, IssAt W v xs ∧ xs.length ≤ maxLen ∧ ∀ i (h : i < xs.length), (xs[i]).length ≤ maxLen := by
  rcases open_slice Try.underlying37 hf with ⟨hcs, _⟩ | ⟨a, len, cap, m, n, D, Pl, hcs, _, hl, hm, hmm, _, hi⟩
  · injection hcs with hcs; subst hcs
    exact ⟨[], IssAt.nil _ _ _, Nat.zero_le _, fun k hk => by simp at hk⟩
  · injection hcs with hcs; subst hcs
    have hmm' : m = cap := by simpa using hmm
    have each : ∀ i, i < len → ∃ g : List Int, g.length ≤ maxLen ∧ ∃ p, W.cell? (a.add (i * 1)) = some p ∧ IntsAt W p g := by
      intro i hi'
      obtain ⟨cs', h1, h2⟩ := hi i (by omega)
      rw [cells_intsA] at h1
      obtain ⟨_, hlen, hat⟩ := World.cells?_some h1
      match cs', hlen with
      | [c0], _ =>
        obtain ⟨xs, hx, hxl⟩ := ints_of h2
        have a0 := hat 0 (by omega)
        rw [show ∀ x : Addr, x.add 0 = x from fun x => by simp [Addr.add]] at a0
        exact ⟨xs, hxl, c0, by simpa using a0, hx⟩
    obtain ⟨f, hf'⟩ := choose_lt each
    by_cases h0 : len = 0
    · subst h0
      exact ⟨[], IssAt.nil _ _ _, Nat.zero_le _, fun k hk => by simp at hk⟩
    · obtain ⟨b, off, spot⟩ := a
      obtain ⟨_, p0, hc0, _⟩ := hf' 0 (by omega)
      have hspot : spot = none := by simpa [Addr.add] using World.cell?_spot hc0
      subst hspot
      have hb : b < W.heap.size := by
        have := World.block_lt_of_cell? _ _ hc0
        simpa [Addr.add] using this
      refine ⟨(List.range len).map f, ⟨some ⟨b, off, none⟩, cap, by simp, fun i hi' => ?_⟩, by simp; omega, fun k hk => ?_⟩
      · have hil : i < len := by simpa using hi'
        obtain ⟨_, p, hp, hg⟩ := hf' i hil
        rw [add_plain, Nat.mul_one] at hp
        exact ⟨b, off, p, rfl, hb, hp, by simpa using hg⟩
      · have hil : k < len := by simpa using hk
        have := (hf' k hil).1
        simpa using this
theorem cells_laut : Try.prog.cellsOf 58 = 3 := by kernel_rfl
theorem under_laut : ∃ f0 f1 f2 : Field, Try.prog.underlying 58 = some (.struct #[f0, f1, f2]) ∧ (f0.type = 3 ∧ f1.type = 36 ∧ f2.type = 37) ∧ oneCellFields Try.prog #[f0, f1, f2] = true :=
  ⟨_, _, _, Try.underlying58, ⟨rfl, rfl, rfl⟩, by kernel_rfl⟩
theorem array3 {α : Type} {cs : Array α} (h : cs.size = 3) : ∃ c0 c1 c2, cs = #[c0, c1, c2] := by
  obtain ⟨l⟩ := cs
  match l, h with
  | [c0, c1, c2], _ => exact ⟨c0, c1, c2, rfl⟩
theorem aut_open {H : Type} {enc : TypeId × Value → H} {W : World} {base : Nat} {v : Value} {d : DataW H} {ps : List MemPlace} (hk : Value.okWide Try.prog W .any base 58 v)
    (h : DataW.Trod enc Try.prog W 0 (fun _ => true) true 58 v d ps) : ∃ A : Aut, AutAt W v A ∧ MxA A := by
  obtain ⟨f0, f1, f2, hu, ⟨t0, t1, t2⟩, hone⟩ := under_laut
  obtain ⟨cs, rfl, hsz⟩ := okWide_struct hu hk
  obtain ⟨c0, c1, c2, rfl⟩ := array3 (hsz.trans cells_laut)
  obtain ⟨fuel, hf⟩ := h
  obtain ⟨xs, n, _, hz, _, hxl, hx⟩ := DataW.trod_struct hu hf
  clear hz
  obtain ⟨o0, k0⟩ := hone_of hone 0 f0 rfl
  obtain ⟨o1, k1⟩ := hone_of hone 1 f1 rfl
  obtain ⟨o2, k2⟩ := hone_of hone 2 f2 rfl
  have g0 := hx 0 f0 rfl
  have g1 := hx 1 f1 rfl
  have g2 := hx 2 f2 rfl
  simp only [o0, k0, o1, k1, o2, k2] at g0 g1 g2
  match xs, hxl with
  | [y0, y1, y2], _ =>
    simp [Value.cells] at g0 g1 g2
    rw [t0] at g0
    rw [t1] at g1
    rw [t2] at g2
    obtain ⟨x0, e0, _, w0⟩ := DataW.trod_int Try.underlying3 g0
    obtain ⟨ac, h1, l1⟩ := bos_of g1
    obtain ⟨nx, h2, l2, l3⟩ := iss_of g2
    simp at e0
    subst e0
    exact ⟨⟨x0, ac, nx⟩, ⟨_, _, rfl, wf_i64 w0, h1, h2⟩, l1, l2, l3⟩
end Go.Proofs.Ytmaagihfjldgeaa

/- The program's head line: that it is a cut. -/
namespace Go.Proofs.Ytmaagihfjldgeaa
set_option maxRecDepth 100000
set_option linter.unusedVariables false
set_option linter.unusedSimpArgs false

def headL : List Char := List.map Char.ofNat [104, 97, 114, 110, 101, 115, 115, 32, 56, 100, 49, 50, 54, 101, 101, 97, 51, 98, 97, 51, 50, 101, 101, 49, 54, 53, 55, 99, 57, 53, 98, 101, 55, 98, 55, 50, 52, 50, 98, 98, 55, 100, 98, 102, 49, 51, 99, 102, 57, 49, 100, 54, 57, 97, 49, 48, 57, 98, 50, 57, 48, 50, 51, 101, 100, 97, 54, 102, 100, 102, 54, 50, 32, 99, 117, 116, 32, 97, 116, 32, 108, 111, 111, 112, 46, 101, 120, 97, 109, 112, 108, 101, 47, 103, 48, 49, 57, 50, 50, 47, 108, 97, 119, 115, 46, 70, 110, 65, 109, 98, 105, 103, 117, 105, 116, 121, 32, 108, 111, 111, 112, 46, 101, 120, 97, 109, 112, 108, 101, 47, 103, 48, 49, 57, 50, 50, 47, 108, 97, 119, 115, 46, 70, 110, 77, 105, 110, 105, 109, 97, 108, 32, 108, 111, 111, 112, 46, 101, 120, 97, 109, 112, 108, 101, 47, 103, 48, 49, 57, 50, 50, 47, 108, 97, 119, 115, 46, 70, 110, 77, 105, 115, 115, 105, 110, 103, 87, 111, 114, 100, 32, 108, 111, 111, 112, 46, 101, 120, 97, 109, 112, 108, 101, 47, 103, 48, 49, 57, 50, 50, 47, 108, 97, 119, 115, 46, 70, 110, 69, 120, 97, 99, 116, 65, 109, 98, 105, 103, 117, 111, 117, 115, 87, 111, 114, 100, 32, 108, 111, 111, 112, 46, 101, 120, 97, 109, 112, 108, 101, 47, 103, 48, 49, 57, 50, 50, 47, 108, 97, 119, 115, 46, 70, 110, 69, 120, 97, 99, 116, 73, 115, 85, 110, 97, 109, 98, 105, 103, 117, 111, 117, 115, 32, 108, 111, 111, 112, 46, 101, 120, 97, 109, 112, 108, 101, 47, 103, 48, 49, 57, 50, 50, 47, 108, 97, 119, 115, 46, 70, 110, 69, 120, 97, 99, 116, 68, 105, 115, 116, 105, 110, 103, 117, 105, 115, 104, 105, 110, 103, 87, 111, 114, 100, 32, 108, 111, 111, 112, 46, 101, 120, 97, 109, 112, 108, 101, 47, 103, 48, 49, 57, 50, 50, 47, 108, 97, 119, 115, 46, 70, 110, 69, 120, 97, 99, 116, 67, 111, 109, 112, 108, 101, 109, 101, 110, 116, 65, 117, 116, 111, 109, 97, 116, 111, 110, 32, 108, 111, 111, 112, 46, 101, 120, 97, 109, 112, 108, 101, 47, 103, 48, 49, 57, 50, 50, 47, 108, 97, 119, 115, 46, 70, 110, 69, 120, 97, 99, 116, 73, 110, 116, 101, 114, 115, 101, 99, 116, 65, 117, 116, 111, 109, 97, 116, 97, 32, 108, 111, 111, 112, 46, 101, 120, 97, 109, 112, 108, 101, 47, 103, 48, 49, 57, 50, 50, 47, 108, 97, 119, 115, 46, 70, 110, 69, 120, 97, 99, 116, 85, 110, 105, 116, 101, 65, 117, 116, 111, 109, 97, 116, 97, 32, 108, 111, 111, 112, 46, 101, 120, 97, 109, 112, 108, 101, 47, 103, 48, 49, 57, 50, 50, 47, 108, 97, 119, 115, 46, 70, 110, 69, 120, 97, 99, 116, 83, 117, 98, 116, 114, 97, 99, 116, 65, 117, 116, 111, 109, 97, 116, 97, 32, 108, 111, 111, 112, 46, 101, 120, 97, 109, 112, 108, 101, 47, 103, 48, 49, 57, 50, 50, 47, 108, 97, 119, 115, 46, 70, 110, 69, 120, 97, 99, 116, 73, 115, 69, 109, 112, 116, 121, 65, 117, 116, 111, 109, 97, 116, 111, 110, 32, 108, 111, 111, 112, 46, 101, 120, 97, 109, 112, 108, 101, 47, 103, 48, 49, 57, 50, 50, 47, 108, 97, 119, 115, 46, 70, 110, 69, 120, 97, 99, 116, 83, 104, 111, 114, 116, 101, 115, 116, 65, 99, 99, 101, 112, 116, 101, 100, 32, 108, 111, 111, 112, 46, 101, 120, 97, 109, 112, 108, 101, 47, 103, 48, 49, 57, 50, 50, 47, 108, 97, 119, 115, 46, 70, 110, 69, 120, 97, 99, 116, 77, 105, 115, 115, 105, 110, 103, 87, 111, 114, 100, 32, 108, 111, 111, 112, 46, 101, 120, 97, 109, 112, 108, 101, 47, 103, 48, 49, 57, 50, 50, 47, 108, 97, 119, 115, 46, 70, 110, 69, 120, 97, 99, 116, 73, 110, 99, 108, 117, 100, 101, 115, 76, 97, 110, 103, 117, 97, 103, 101, 32, 108, 111, 111, 112, 46, 101, 120, 97, 109, 112, 108, 101, 47, 103, 48, 49, 57, 50, 50, 47, 108, 97, 119, 115, 46, 70, 110, 69, 120, 97, 99, 116, 65, 114, 101, 69, 113, 117, 105, 118, 97, 108, 101, 110, 116, 32, 108, 111, 111, 112, 46, 101, 120, 97, 109, 112, 108, 101, 47, 103, 48, 49, 57, 50, 50, 47, 108, 97, 119, 115, 46, 70, 110, 69, 120, 97, 99, 116, 73, 115, 70, 105, 110, 105, 116, 101, 76, 97, 110, 103, 117, 97, 103, 101]
theorem head_lit : Try.pinned.checked.prog.initOrder = "harness 8d126eea3ba32ee1657c95be7b7242bb7dbf13cf91d69a109b29023eda6fdf62 cut at loop.example/g01922/laws.FnAmbiguity loop.example/g01922/laws.FnMinimal loop.example/g01922/laws.FnMissingWord loop.example/g01922/laws.FnExactAmbiguousWord loop.example/g01922/laws.FnExactIsUnambiguous loop.example/g01922/laws.FnExactDistinguishingWord loop.example/g01922/laws.FnExactComplementAutomaton loop.example/g01922/laws.FnExactIntersectAutomata loop.example/g01922/laws.FnExactUniteAutomata loop.example/g01922/laws.FnExactSubtractAutomata loop.example/g01922/laws.FnExactIsEmptyAutomaton loop.example/g01922/laws.FnExactShortestAccepted loop.example/g01922/laws.FnExactMissingWord loop.example/g01922/laws.FnExactIncludesLanguage loop.example/g01922/laws.FnExactAreEquivalent loop.example/g01922/laws.FnExactIsFiniteLanguage" := by kernel_rfl
theorem head_str : "harness 8d126eea3ba32ee1657c95be7b7242bb7dbf13cf91d69a109b29023eda6fdf62 cut at loop.example/g01922/laws.FnAmbiguity loop.example/g01922/laws.FnMinimal loop.example/g01922/laws.FnMissingWord loop.example/g01922/laws.FnExactAmbiguousWord loop.example/g01922/laws.FnExactIsUnambiguous loop.example/g01922/laws.FnExactDistinguishingWord loop.example/g01922/laws.FnExactComplementAutomaton loop.example/g01922/laws.FnExactIntersectAutomata loop.example/g01922/laws.FnExactUniteAutomata loop.example/g01922/laws.FnExactSubtractAutomata loop.example/g01922/laws.FnExactIsEmptyAutomaton loop.example/g01922/laws.FnExactShortestAccepted loop.example/g01922/laws.FnExactMissingWord loop.example/g01922/laws.FnExactIncludesLanguage loop.example/g01922/laws.FnExactAreEquivalent loop.example/g01922/laws.FnExactIsFiniteLanguage" = String.ofList headL := by kernel_rfl
theorem head_list : Try.pinned.checked.prog.initOrder.toList = headL := by rw [head_lit, head_str]; exact String.toList_ofList
theorem head_cut : behindMainWord (wordsSigns headL) = "cut".toList :: (behindMainWord (wordsSigns headL)).tail := by kernel_rfl
theorem strip_cut (rest : List (List Char)) : stripLifts liftWords ("cut".toList :: rest) = ([], "cut".toList :: rest) := by kernel_rfl
theorem make_cut {P : Program} {l : List Char} {rest : List (List Char)} (h : P.initOrder.toList = l) (h2 : behindMainWord (wordsSigns l) = "cut".toList :: rest) : P.make = some .cut := by
  unfold Program.make
  rw [h, h2]
  rfl
theorem lifts_cut {P : Program} {l : List Char} {rest : List (List Char)} (h : P.initOrder.toList = l) (h2 : behindMainWord (wordsSigns l) = "cut".toList :: rest) : P.liftsFinal = false := by
  unfold Program.liftsFinal Program.headLifts
  rw [h, h2, strip_cut]
  rfl
theorem enter_cut {P : Program} {l : List Char} {rest : List (List Char)} (h : P.initOrder.toList = l) (h2 : behindMainWord (wordsSigns l) = "cut".toList :: rest) (h3 : P.laysLater = false) (h4 : P.bearsReflect = false) (h5 : P.doorFits [] = true) : P.mayEnter = true := by
  unfold Program.mayEnter
  rw [h, h2]
  simp only [strip_cut, h3, h4, h5]
  rfl
theorem later_no : Try.pinned.checked.prog.laysLater = false := by kernel_rfl
theorem reflect_no : Try.pinned.checked.prog.bearsReflect = false := by kernel_rfl
theorem door_fits : Try.pinned.checked.prog.doorFits [] = true := by kernel_rfl
theorem head_make : Try.pinned.checked.prog.make = some .cut := make_cut head_list head_cut
theorem head_lifts : Try.pinned.checked.prog.liftsFinal = false := lifts_cut head_list head_cut
theorem head_enter : Try.pinned.checked.prog.mayEnter = true := enter_cut head_list head_cut later_no reflect_no door_fits
end Go.Proofs.Ytmaagihfjldgeaa
