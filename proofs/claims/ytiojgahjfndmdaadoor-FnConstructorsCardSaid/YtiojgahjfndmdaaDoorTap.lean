/- The methods of a tree's node: its tokens appended, its expression, its reversal in place. -/
import Derived.Test.YtiojgahjfndmdaaDoorTof8
import Derived.Test.YtiojgahjfndmdaaDoorWord
import Derived.Test.YtiojgahjfndmdaaDoorXf
namespace Go.Proofs.YtiojgahjfndmdaaDoor
set_option maxRecDepth 100000
open Go.ChangeShapes Go.WideShapes Go.ChangeAt Go.RowKit
set_option linter.unusedVariables false
set_option linter.unusedSimpArgs false

theorem Blk.all6 {w : World} {g : Nat} {t : TypeId} {a b c d e f : Value} (h : Blk w g t #[a, b, c, d, e, f]) : (w.cell? ⟨g, 0, none⟩ = some a ∧ w.cell? ⟨g, 1, none⟩ = some b ∧ w.cell? ⟨g, 2, none⟩ = some c ∧ w.cell? ⟨g, 3, none⟩ = some d ∧ w.cell? ⟨g, 4, none⟩ = some e ∧ w.cell? ⟨g, 5, none⟩ = some f) ∧
    (w.frozen? ⟨g, 0, none⟩ = false ∧ w.frozen? ⟨g, 1, none⟩ = false ∧ w.frozen? ⟨g, 4, none⟩ = false ∧ w.frozen? ⟨g, 5, none⟩ = false) :=
  ⟨⟨h.cell 0, h.cell 1, h.cell 2, h.cell 3, h.cell 4, h.cell 5⟩, h.frozen 0, h.frozen 1, h.frozen 4, h.frozen 5⟩
/-- What appendTo answers: the tokens with those of the tree behind them; blocks below base and blocks of other types stand. -/
def ApOut (base : Nat) (w : World) (ys : List Tok) (e : Ending) (w' : World) : Prop := ∃ u', e = .returned u' ∧ OwnK base w' u' ys ∧ KeepK base w w'
set_option maxHeartbeats 1000000 in
set_option maxRecDepth 100000 in
theorem appendTo_any (T : Tr) : ∀ (lo hi base : Nat) (v u : Value) (xs : List Tok) (w : World), TreeAt w T lo hi v → OwnK base w u xs → base ≤ w.heap.size → xs.length + T.len ≤ 4194304 →
    Calls Tryd.prog 119 #[v, u] w (ApOut base w (xs ++ T.post)) := by
  induction T with
  | nil =>
    intro lo hi base v u xs w hv hu hb hl
    obtain rfl : v = .pointer none := hv
    have HU : Hid (OwnK base w u (xs ++ Tr.nil.post)) := by unfold Hid; rw [show Tr.nil.post = [] from rfl, List.append_nil]; exact hu
    clear hu
    go_enter Tryd.func119, Tryd.ntmps119
    go_wp2
    go_ret
    exact ⟨_, rfl, HU.out, KeepK.refl _ _⟩
  | node t l r hl hr =>
    intro lo hi base v u xs w hv hu hb hlen
    obtain ⟨htin, g, lv, rv, a, b, c, d, rfl, hg, hB, _, _, _, _, hL, hR⟩ := hv
    have HTI := Lib.hid htin
    have BX := Lib.hid hB
    have HL := Lib.hid hL
    have HR := Lib.hid hR
    have HUO := Lib.hid hu
    have hll : xs.length + l.len + r.len + 1 ≤ 4194304 := by simp only [Tr.len] at hlen; omega
    obtain ⟨pl, rfl⟩ := hL.isPtr
    obtain ⟨pr, rfl⟩ := hR.isPtr
    obtain ⟨uo, un, uc, hun, rfl⟩ := hu.lenN
    clear htin hB hL hR hu hlen hg
    unfold ncells at BX
    obtain ⟨⟨x0, x1, x2, x3, x4, x5⟩, _⟩ := BX.out.all6
    go_enter Tryd.func119, Tryd.ntmps119
    go_wp2_with fail
    clear x0 x1 x2 x3 x4 x5
    refine (hl a b base _ _ xs w HL.out HUO.out hb (by omega)).mono ?_
    rintro e w1 ⟨u1, rfl, ho1, hk1⟩
    have HO1 := Lib.hid ho1
    have HK1 := Lib.hid hk1
    obtain ⟨uo1, un1, uc1, hun1, rfl⟩ := ho1.lenN
    clear ho1 hk1
    have BX1 := Lib.hid (BX.out.keep HK1.out (by decide))
    have hb1 : base ≤ w1.heap.size := Nat.le_trans hb HK1.out.size
    obtain ⟨⟨x0, x1, x2, x3, x4, x5⟩, _⟩ := BX1.out.all6
    go_wp2_with fail
    clear x0 x1 x2 x3 x4 x5
    refine (hr c d base _ _ (xs ++ l.post) w1 (HR.out.keep HK1.out) HO1.out hb1 (by rw [List.length_append, post_len]; omega)).mono ?_
    rintro e w2 ⟨u2, rfl, ho2, hk2⟩
    have HO2 := Lib.hid ho2
    have HK2 := Lib.hid (HK1.out.trans hk2)
    obtain ⟨uo2, un2, uc2, hun2, rfl⟩ := ho2.lenN
    have BX2 := Lib.hid (BX1.out.keep hk2 (by decide))
    have hb2 : base ≤ w2.heap.size := Nat.le_trans hb1 hk2.size
    clear ho2 hk2
    obtain ⟨⟨x0, x1, x2, x3, x4, x5⟩, _⟩ := BX2.out.all6
    have hal : Since w2 (w2.alloc (.cells #[.int .i64 t.kd, .int .i64 t.lr, .int .i64 t.lo, .int .i64 t.hi] 65)) := (Since.refl w2).alloc _
    go_wp2_with (at_builtin; go_must (refine wpList_app rfl (.tmp 20) (.tmp 25) rfl base uo2 un2 uc2 (xs ++ l.post ++ r.post) rfl (HO2.out.since hal) _ _ _ rfl [t] (tok_lit w2 t HTI.out) (by simp only [List.length_append, post_len, List.length_cons, List.length_nil]; omega) (Nat.le_trans hb2 hal.size) ?_); intro do3 N3 dc3 w3 hN3 ho3 hk3)
    have HO3 : Hid (OwnK base w3 (.slice do3 N3 dc3) (xs ++ (Tr.node t l r).post)) := by
      unfold Hid
      rw [show xs ++ (Tr.node t l r).post = xs ++ l.post ++ r.post ++ [t] from by simp [Tr.post]]
      exact ho3
    have HK3 := Lib.hid (HK2.out.trans ((KeepK.of_since hal).trans hk3))
    clear ho3 hk3
    go_ret
    exact ⟨_, rfl, HO3.out, HK3.out⟩
set_option maxHeartbeats 1000000 in
set_option maxRecDepth 100000 in
theorem nodeExpr_any (T : Tr) (lo hi : Nat) (v : Value) (w : World) (h : TreeAt w T lo hi v) (hl : T.len ≤ 4194304) : Calls Tryd.prog 108 #[v] w (XOut w T.post) := by
  obtain ⟨pp, rfl⟩ := h.isPtr
  have HT := Lib.hid h
  clear h
  obtain ⟨y, hy⟩ : ∃ y, y = w.alloc (.cells #[.slice none 0 0] 26) := ⟨_, rfl⟩
  have hsy : Since w y := by rw [hy]; exact (Since.refl w).alloc _
  have BR : Hid (Blk y w.heap.size 26 #[.slice none 0 0]) := by rw [hy]; exact Blk.new rfl _ _
  have HY := Lib.hid hy
  clear hy
  go_enter Tryd.func108, Tryd.ntmps108
  go_wp2_with fail
  rw [← HY.out]
  refine (appendTo_any T lo hi y.heap.size _ _ [] y (HT.out.since hsy) ⟨fun x hx => by simp at hx, World.ownsRow_nil _ _ _ _⟩ (Nat.le_refl _) (by simp; omega)).mono ?_
  rintro e w1 ⟨u1, rfl, ho1, hk1⟩
  obtain ⟨ro, N, rc, hN, rfl⟩ := ho1.lenN
  have hs1 := hk1.since
  have HO : Hid (OwnK w.heap.size w1 (.slice ro N rc) T.post) := by have := ho1.mono hsy.size; rwa [List.nil_append] at this
  clear ho1 hk1
  obtain ⟨r0, r1⟩ := (BR.out.since hs1).one
  go_wp2_with fail
  refine bodyPost_ret (v := .agg #[.slice ro N rc]) (by simp [results, Tryd.results108, go_sem, *]) rfl ?_
  exact xout_boxT HO.out (hsy.trans hs1) (BR.out.since hs1) (by decide) (by omega) _
/-- What reverse leaves. -/
def RvOut (w : World) (T : Tr) (lo hi : Nat) (v : Value) (e : Ending) (w' : World) : Prop := e = .returned (.tuple #[]) ∧ TreeAt w' T lo hi v ∧ Within lo hi w w'
theorem turnT_in {t : Tok} (h : t.In) : (turnT t).In := by
  unfold turnT
  split
  · exact ⟨h.1, invL_in _ h.2.1, h.2.2.1, h.2.2.2⟩
  · exact h
end Go.Proofs.YtiojgahjfndmdaaDoor
