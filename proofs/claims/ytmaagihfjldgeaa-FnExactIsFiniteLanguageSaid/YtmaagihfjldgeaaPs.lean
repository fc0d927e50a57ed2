/- Positions in memory: as an argument, as a result; the laws' sizes, copies and comparisons of them. -/
import Derived.Test.YtmaagihfjldgeaaPsM
import Derived.Test.YtmaagihfjldgeaaK1
import Derived.Test.YtmaagihfjldgeaaOpenI
import Derived.Lib.SmallJoins
import Derived.Deep.Slices
namespace Go.Proofs.Ytmaagihfjldgeaa
set_option maxRecDepth 100000
open Go.ChangeShapes Go.WideShapes Go.ChangeAt Go.RowKit Go.Joins Go.Deep
set_option linter.unusedVariables false
set_option linter.unusedSimpArgs false

theorem Blk.fiveP {w : World} {g : Nat} {t : TypeId} {a b c d e : Value} (h : Blk w g t #[a, b, c, d, e]) :
    (w.cell? ⟨g, 0, none⟩ = some a ∧ w.cell? ⟨g, 1, none⟩ = some b ∧ w.cell? ⟨g, 2, none⟩ = some c ∧ w.cell? ⟨g, 3, none⟩ = some d ∧ w.cell? ⟨g, 4, none⟩ = some e) ∧
    (w.frozen? ⟨g, 0, none⟩ = false ∧ w.frozen? ⟨g, 1, none⟩ = false ∧ w.frozen? ⟨g, 2, none⟩ = false ∧ w.frozen? ⟨g, 3, none⟩ = false ∧ w.frozen? ⟨g, 4, none⟩ = false) :=
  ⟨⟨h.cell 0, h.cell 1, h.cell 2, h.cell 3, h.cell 4⟩, h.frozen 0, h.frozen 1, h.frozen 2, h.frozen 3, h.frozen 4⟩
/-- v reads as p. -/
def PsAt (w : World) (v : Value) (p : Psn) : Prop := ∃ a b, v = .agg #[a, .int .i64 p.fi, .int .i64 p.la, b, .bool p.nu] ∧ IntsAt w a p.ls ∧ IntsAt w b p.fo ∧ InI p.fi ∧ InI p.la
theorem PsAt.since {w w' : World} {v : Value} {p : Psn} (h : PsAt w v p) (k : Since w w') : PsAt w' v p := by
  obtain ⟨a, b, e, h1, h2, h3⟩ := h; exact ⟨a, b, e, h1.since k, h2.since k, h3⟩
/-- .. of a call's own memory, the two rows apart. -/
def OwnPs (lo : Nat) (w : World) (v : Value) (p : Psn) : Prop :=
  ∃ a b, v = .agg #[a, .int .i64 p.fi, .int .i64 p.la, b, .bool p.nu] ∧ Own lo w a p.ls ∧ Own lo w b p.fo ∧ (a.ownBlock = none ∨ a.ownBlock ≠ b.ownBlock) ∧ InI p.fi ∧ InI p.la
theorem OwnPs.at {lo : Nat} {w : World} {v : Value} {p : Psn} (h : OwnPs lo w v p) : PsAt w v p := by
  obtain ⟨a, b, e, h1, h2, _, h3⟩ := h; exact ⟨a, b, e, h1.at, h2.at, h3⟩
theorem OwnPs.since {lo : Nat} {w w' : World} {v : Value} {p : Psn} (h : OwnPs lo w v p) (k : Since w w') : OwnPs lo w' v p := by
  obtain ⟨a, b, e, h1, h2, h3⟩ := h; exact ⟨a, b, e, h1.since k, h2.since k, h3⟩
theorem OwnPs.mono {lo lo' : Nat} {w : World} {v : Value} {p : Psn} (h : OwnPs lo w v p) (hb : lo' ≤ lo) : OwnPs lo' w v p := by
  obtain ⟨a, b, e, h1, h2, h3⟩ := h; exact ⟨a, b, e, h1.mono hb, h2.mono hb, h3⟩
theorem OwnPs.far {lo : Nat} {w : World} {v : Value} {p : Psn} (h : OwnPs lo w v p) {q : Addr} (hq : q.block < lo) (u : Value) : OwnPs lo (w.setCell q u) v p := by
  obtain ⟨a, b, e, h1, h2, h3⟩ := h; exact ⟨a, b, e, h1.far hq u, h2.far hq u, h3⟩
def PsOut (w : World) (p : Psn) (e : Ending) (w' : World) : Prop := ∃ v, e = .returned v ∧ OwnPs w.heap.size w' v p ∧ Since w w'
/-- Whether positions are within the laws' size. -/
def szP (p : Psn) (left : Int) : Int := if left - (p.ls.length : Int) < 0 then -1 else szLeft p.fo.length (left - (p.ls.length : Int))
set_option maxRecDepth 100000 in
theorem szPositions_any (v : Value) (p : Psn) (left : Int) (w : World) (h : PsAt w v p) (hl : p.ls.length ≤ maxLen) (hl2 : p.fo.length ≤ maxLen) (h0 : 0 ≤ left) (h1 : left ≤ 1048576) :
    Calls Try.prog 46 #[v, .int .i64 left] w fun e w' => e = .returned (.int .i64 (szP p left)) ∧ Since w w' := by
  obtain ⟨a, b, rfl, ha, hb, _⟩ := h
  have HA := Lib.hid ha
  have HB := Lib.hid hb
  clear ha hb
  obtain ⟨ao, ca, rfl, _⟩ := HA.out.row
  obtain ⟨bo, cb, rfl, _⟩ := HB.out.row
  have hs0 : Since w (w.alloc (.cells #[.slice ao p.ls.length ca, .int .i64 p.fi, .int .i64 p.la, .slice bo p.fo.length cb, .bool p.nu] 51)) := (Since.refl w).alloc _
  by_cases hc : left - (p.ls.length : Int) < 0
  · have HE : Hid (szLeft p.ls.length left = -1) := by unfold Hid szLeft; rw [if_pos hc]
    have HG : Hid (szP p left = -1) := by unfold Hid szP; rw [if_pos hc]
    clear hc
    go_enter Try.func46, Try.ntmps46
    go_wp2_with fail
    refine (szIntS_any _ p.ls _ _ (HA.out.since hs0) hl h0 h1).mono ?_
    rintro e w1 ⟨rfl, rfl⟩
    rw [HE.out]
    go_wp2
    go_ret
    exact ⟨ret_int HG.out.symm, hs0⟩
  · have HE : Hid (szLeft p.ls.length left = left - (p.ls.length : Int)) := by unfold Hid szLeft; rw [if_neg hc]
    have HG : Hid (szP p left = szLeft p.fo.length (left - (p.ls.length : Int))) := by unfold Hid szP; rw [if_neg hc]
    obtain ⟨r, hr⟩ : ∃ r, r = left - (p.ls.length : Int) := ⟨_, rfl⟩
    rw [← hr] at HE HG hc
    have hr0 : 0 ≤ r := by omega
    have hr1 : r ≤ 1048576 := by omega
    clear hc hr
    by_cases hd : r - (p.fo.length : Int) < 0
    · have HF : Hid (szLeft p.fo.length r = -1) := by unfold Hid szLeft; rw [if_pos hd]
      clear hd
      go_enter Try.func46, Try.ntmps46
      go_wp2_with fail
      refine (szIntS_any _ p.ls _ _ (HA.out.since hs0) hl h0 h1).mono ?_
      rintro e w1 ⟨rfl, rfl⟩
      rw [HE.out]
      go_wp2_with fail
      refine (szIntS_any _ p.fo _ _ (HB.out.since hs0) hl2 hr0 hr1).mono ?_
      rintro e w1 ⟨rfl, rfl⟩
      rw [HF.out]
      go_wp2
      go_ret
      exact ⟨ret_int (by rw [HG.out, HF.out]), hs0⟩
    · have HF : Hid (szLeft p.fo.length r = r - (p.fo.length : Int)) := by unfold Hid szLeft; rw [if_neg hd]
      go_enter Try.func46, Try.ntmps46
      go_wp2_with fail
      refine (szIntS_any _ p.ls _ _ (HA.out.since hs0) hl h0 h1).mono ?_
      rintro e w1 ⟨rfl, rfl⟩
      rw [HE.out]
      go_wp2_with fail
      refine (szIntS_any _ p.fo _ _ (HB.out.since hs0) hl2 hr0 hr1).mono ?_
      rintro e w1 ⟨rfl, rfl⟩
      rw [HF.out]
      go_wp2
      go_ret
      exact ⟨ret_int (by rw [HG.out, HF.out]), hs0⟩
theorem Psn.eq_iff (p q : Psn) : p = q ↔ p.ls = q.ls ∧ p.fi = q.fi ∧ p.la = q.la ∧ p.fo = q.fo ∧ p.nu = q.nu := by
  cases p; cases q; simp
theorem psOut_mk {w w' : World} {a b : Value} {p : Psn} (h1 : Own w.heap.size w' a p.ls) (h2 : Own w.heap.size w' b p.fo) (h3 : a.ownBlock = none ∨ a.ownBlock ≠ b.ownBlock) (i1 : InI p.fi) (i2 : InI p.la) (hs : Since w w') :
    PsOut w p (.returned (.agg #[a, .int .i64 p.fi, .int .i64 p.la, b, .bool p.nu])) w' := ⟨_, rfl, ⟨_, _, rfl, h1, h2, h3, i1, i2⟩, hs⟩
/-- A row of a call's own, made before the other. -/
theorem own_before {lo : Nat} {w w' : World} {a b : Value} {xs ys : List Int} (h : Own lo w a xs) (k : Own w.heap.size w' b ys) : a.ownBlock = none ∨ a.ownBlock ≠ b.ownBlock := by
  cases e : a.ownBlock with
  | none => exact .inl rfl
  | some g =>
    right
    intro e2
    have h1 := h.2.lt g e
    have h2 := k.2.lt g e2.symm
    omega
set_option maxHeartbeats 1000000 in
set_option maxRecDepth 100000 in
theorem toPositions_any (v : Value) (p : Psn) (w : World) (h : PsAt w v p) (h1 : p.ls.length ≤ 1048577) (h2 : p.fo.length ≤ 1048577) :
    Calls Try.prog 47 #[v] w (PsOut w p) := by
  obtain ⟨a, b, rfl, ha, hb, hi1, hi2⟩ := h
  have HA := Lib.hid ha
  have HB := Lib.hid hb
  clear ha hb
  obtain ⟨ao, ca, rfl, _⟩ := HA.out.row
  obtain ⟨bo, cb, rfl, _⟩ := HB.out.row
  obtain ⟨y, hy⟩ : ∃ y, y = (((w.alloc (.cells #[.slice ao p.ls.length ca, .int .i64 p.fi, .int .i64 p.la, .slice bo p.fo.length cb, .bool p.nu] 51)).alloc (.cells #[.slice none 0 0, .int .i64 0, .int .i64 0, .slice none 0 0, .bool false] 26)).alloc (.cells #[.slice none 0 0, .int .i64 0, .int .i64 0, .slice none 0 0, .bool false] 26)) := ⟨_, rfl⟩
  have hs0 : Since w y := by rw [hy]; exact (((Since.refl w).alloc _).alloc _).alloc _
  have hsz : y.heap.size = w.heap.size + 3 := by rw [hy]; simp
  have B0 : Hid (Blk y w.heap.size 51 #[.slice ao p.ls.length ca, .int .i64 p.fi, .int .i64 p.la, .slice bo p.fo.length cb, .bool p.nu]) := by rw [hy]; exact ((Blk.new rfl _ _).alloc _).alloc _
  have B1 : Hid (Blk y (w.heap.size + 1) 26 #[.slice none 0 0, .int .i64 0, .int .i64 0, .slice none 0 0, .bool false]) := by rw [hy]; exact (Blk.new (by simp) _ _).alloc _
  have B2 : Hid (Blk y (w.heap.size + 1 + 1) 26 #[.slice none 0 0, .int .i64 0, .int .i64 0, .slice none 0 0, .bool false]) := by rw [hy]; exact Blk.new (by simp) _ _
  have HY := Lib.hid hy
  clear hy
  go_enter Try.func47, Try.ntmps47
  go_wp2_with fail
  rw [← HY.out]
  refine (toIntS_any _ p.ls _ (HA.out.since hs0) h1).mono ?_
  rintro e w1 ⟨v1, rfl, ho1, hs1⟩
  obtain ⟨ao1, cap1, rfl⟩ := ho1.len
  have HO1 := Lib.hid ho1
  clear ho1
  have hs01 := hs0.trans hs1
  have hw1 : w.heap.size + 3 ≤ w1.heap.size := by have := hs1.size; omega
  have hmono : w.heap.size + 3 = y.heap.size := hsz.symm
  have b0 := Lib.hid (B0.out.since hs1)
  have b1 := Lib.hid (B1.out.since hs1)
  have b2 := Lib.hid (B2.out.since hs1)
  clear B0 B1 B2
  obtain ⟨⟨p0, p1, p2, p3, p4⟩, _⟩ := b0.out.fiveP
  obtain ⟨_, s0, s1, s2, s3, s4⟩ := b2.out.fiveP
  go_wp2_with fail
  clear p0 p1 p2 p3 p4 s0 s1 s2 s3 s4
  obtain ⟨w2, hw2⟩ : ∃ w2, w2 = ((w1.setCell ⟨w.heap.size + 1 + 1, 0, none⟩ (.slice ao1 p.ls.length cap1)).setCell ⟨w.heap.size + 1 + 1, 1, none⟩ (.int .i64 p.fi)).setCell ⟨w.heap.size + 1 + 1, 2, none⟩ (.int .i64 p.la) := ⟨_, rfl⟩
  rw [← hw2]
  have hs02 : Since w w2 := by
    rw [hw2]
    iterate 3 (with_reducible refine Since.setCell ?_ (by simp; omega) _)
    exact hs01
  have hsz2 : w2.heap.size = w1.heap.size := by rw [hw2]; simp
  have HO2 : Hid (Own y.heap.size w2 (.slice ao1 p.ls.length cap1) p.ls) := by rw [hw2]; exact ((HO1.out.far (by simp; omega) _).far (by simp; omega) _).far (by simp; omega) _
  have b3 : Hid (Blk w2 w.heap.size 51 #[.slice ao p.ls.length ca, .int .i64 p.fi, .int .i64 p.la, .slice bo p.fo.length cb, .bool p.nu]) := by rw [hw2]; exact ((b0.out.far (by simp; omega) _).far (by simp; omega) _).far (by simp; omega) _
  have b4 : Hid (Blk w2 (w.heap.size + 1) 26 #[.slice none 0 0, .int .i64 0, .int .i64 0, .slice none 0 0, .bool false]) := by rw [hw2]; exact ((b1.out.far (by simp) _).far (by simp) _).far (by simp) _
  have b5 : Hid (Blk w2 (w.heap.size + 1 + 1) 26 #[.slice ao1 p.ls.length cap1, .int .i64 p.fi, .int .i64 p.la, .slice none 0 0, .bool false]) := by rw [hw2]; exact ((b2.out.set 0 _).set 1 _).set 2 _
  clear HO1 b0 b1 b2 hw2
  refine (toIntS_any _ p.fo _ (HB.out.since hs02) h2).mono ?_
  rintro e w3 ⟨v2, rfl, ho2, hs3⟩
  obtain ⟨ao2, cap2, rfl⟩ := ho2.len
  have HN := Lib.hid (own_before HO2.out ho2)
  have HO3 := Lib.hid ho2
  clear ho2
  have hs03 := hs02.trans hs3
  have HO4 := Lib.hid (HO2.out.since hs3)
  have b6 := Lib.hid (b3.out.since hs3)
  have b7 := Lib.hid (b4.out.since hs3)
  have b8 := Lib.hid (b5.out.since hs3)
  have hw3 : w.heap.size + 3 ≤ w2.heap.size := by omega
  have hw4 := hs3.size
  clear HO2 b3 b4 b5
  obtain ⟨⟨p0, p1, p2, p3, p4⟩, _⟩ := b6.out.fiveP
  obtain ⟨⟨q0, q1, q2, q3, q4⟩, s0, s1, s2, s3, s4⟩ := b8.out.fiveP
  obtain ⟨_, t0, t1, t2, t3, t4⟩ := b7.out.fiveP
  go_wp2_with fail
  refine bodyPost_ret (v := .agg #[.slice ao1 p.ls.length cap1, .int .i64 p.fi, .int .i64 p.la, .slice ao2 p.fo.length cap2, .bool p.nu]) (by simp [results, Try.results47, go_sem, *]) rfl ?_
  refine psOut_mk (Own.mono (base := y.heap.size) ?_ (by omega)) (Own.mono (base := w2.heap.size) ?_ (by omega)) HN.out hi1 hi2 ?_
  · iterate 7 (with_reducible refine Own.far ?_ (by simp <;> omega) _)
    exact HO4.out
  · iterate 7 (with_reducible refine Own.far ?_ (by simp <;> omega) _)
    exact HO3.out
  · iterate 7 (with_reducible refine Since.setCell ?_ (by simp <;> omega) _)
    exact hs03
end Go.Proofs.Ytmaagihfjldgeaa
