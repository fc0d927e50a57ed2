/- BpP, BpQ, BpR, PsL, BpwWalk: small words and contracts that the other texts use. -/
import Derived.Test.YtblmiocjhbpklaaDoorBpL
import Derived.Test.YtblmiocjhbpklaaDoorE9
import Derived.Test.YtblmiocjhbpklaaDoorBpJ
import Derived.Test.YtblmiocjhbpklaaDoorPsE
import Derived.Test.YtblmiocjhbpklaaDoorTokL
import Derived.Test.YtblmiocjhbpklaaDoorOpenX
import Derived.Test.YtblmiocjhbpklaaDoorK1
/- BuildPositions, the model's. -/
namespace Go.Proofs.YtblmiocjhbpklaaDoor
set_option maxRecDepth 100000
open Go.ChangeShapes Go.WideShapes Go.ChangeAt Go.RowKit
set_option linter.unusedVariables false
set_option linter.unusedSimpArgs false

def PBOut (w : World) (p : Psn) (b : Bool) (e : Ending) (w' : World) : Prop := ∃ v, e = .returned (.tuple #[v, .bool b]) ∧ OwnPs w.heap.size w' v p ∧ Since w w'
def zeroP0 : Psn := ⟨[], 0, 0, [], false⟩
theorem own_nilI (base : Nat) (w : World) : Own base w (.slice none 0 0) [] := ⟨fun x hx => by simp at hx, World.ownsRow_nil _ _ _ _⟩
theorem pbOut_nil {w w' : World} (h : Since w w') : PBOut w zeroP0 false (.returned (.tuple #[.agg #[.slice none 0 0, .int .i64 0, .int .i64 0, .slice none 0 0, .bool false], .bool false])) w' :=
  ⟨_, rfl, ⟨_, _, rfl, own_nilI _ _, own_nilI _ _, .inl rfl, by unfold InI zeroP0; simp, by unfold InI zeroP0; simp⟩, h⟩
theorem bpB_ex {xs : List Tok} (h : exB xs = false) : bpB xs = false := by unfold bpB; rw [h]; rfl
theorem bpB_many {xs : List Tok} (h : ¬ ltrC (exX xs) ≤ 20) : bpB xs = false := by unfold bpB; rw [decide_eq_false h]; simp
theorem bpB_all {xs : List Tok} (h : exB xs = true) (h2 : ltrC (exX xs) ≤ 20) : bpB xs = true := by unfold bpB; rw [h, decide_eq_true h2]; rfl
theorem bpP_no {xs : List Tok} (h : bpB xs = false) : bpP xs = zeroP0 := by unfold bpP; rw [h]; rfl
theorem bpP_yes {xs : List Tok} (h : bpB xs = true) : bpP xs = ⟨(glu (exT (treeT xs)) [] []).1.1, ((glu (exT (treeT xs)) [] []).2.fi : Int), ((glu (exT (treeT xs)) [] []).2.la : Int), natI (glu (exT (treeT xs)) [] []).1.2, (glu (exT (treeT xs)) [] []).2.nu⟩ := by
  unfold bpP; rw [if_pos h]; rfl
theorem exB_tree {xs : List Tok} (h : exB xs = true) : (treeT xs).ok ∧ exX xs = (exT (treeT xs)).post ∧ (exX xs).length ≤ 400 := by
  refine ⟨?_, exB_yes h, exX_len xs⟩
  unfold exB at h
  rw [Bool.and_eq_true] at h
  exact (validXB_tree h.1).2.1
theorem ltrC_snoc (xs : List Tok) (k : Nat) (hk : k < xs.length) : ltrC (xs.take (k + 1)) = ltrC (xs.take k) + (if (xs[k].kd == 3) = true then 1 else 0) := by
  unfold ltrC
  rw [List.take_succ_eq_append_getElem hk, List.filter_append, List.length_append]
  congr 1
  by_cases h : xs[k].kd == 3 <;> simp [h]
theorem ltrC_le (xs : List Tok) : ltrC xs ≤ xs.length := List.length_filter_le _ _
/-- The rows behind the box, and the box's fields written. -/
theorem bp_fields {G : Nat} {w : World} {lv fv : Value} {ls : List Int} {fo : List Nat} (h : BP G w lv fv ls fo) (a b c : Value) :
    Blk (((w.setCell ⟨G, 1, none⟩ a).setCell ⟨G, 2, none⟩ b).setCell ⟨G, 4, none⟩ c) G 39 #[lv, a, b, fv, c] ∧ Own (G + 1) (((w.setCell ⟨G, 1, none⟩ a).setCell ⟨G, 2, none⟩ b).setCell ⟨G, 4, none⟩ c) lv ls ∧ Own (G + 1) (((w.setCell ⟨G, 1, none⟩ a).setCell ⟨G, 2, none⟩ b).setCell ⟨G, 4, none⟩ c) fv (natI fo) :=
  ⟨((h.blk.set 1 a).set 2 b).set 4 c, ((h.own1.far (by show G < G + 1; omega) _).far (by show G < G + 1; omega) _).far (by show G < G + 1; omega) _, ((h.own2.far (by show G < G + 1; omega) _).far (by show G < G + 1; omega) _).far (by show G < G + 1; omega) _⟩
structure Bx (G R P : Nat) (W : World) (lv fv : Value) (ls : List Int) (fo : List Nat) (a b c x y z : Value) : Prop where
  g : Blk W G 39 #[lv, a, b, fv, c]
  o1 : Own (G + 1) W lv ls
  o2 : Own (G + 1) W fv (natI fo)
  r : Blk W R 39 #[.slice none 0 0, .int .i64 0, .int .i64 0, .slice none 0 0, .bool false]
  p : Blk W P 92 #[x, y, z]
theorem Bx.set1 {G R P : Nat} {W : World} {lv fv : Value} {ls : List Int} {fo : List Nat} {a b c x y z : Value} (h : Bx G R P W lv fv ls fo a b c x y z) (hr : R ≠ G) (hp : P ≠ G) (u : Value) : Bx G R P (W.setCell ⟨G, 1, none⟩ u) lv fv ls fo u b c x y z :=
  ⟨h.g.set 1 u, h.o1.far (by show G < G + 1; omega) _, h.o2.far (by show G < G + 1; omega) _, h.r.far hr u, h.p.far hp u⟩
theorem Bx.set2 {G R P : Nat} {W : World} {lv fv : Value} {ls : List Int} {fo : List Nat} {a b c x y z : Value} (h : Bx G R P W lv fv ls fo a b c x y z) (hr : R ≠ G) (hp : P ≠ G) (u : Value) : Bx G R P (W.setCell ⟨G, 2, none⟩ u) lv fv ls fo a u c x y z :=
  ⟨h.g.set 2 u, h.o1.far (by show G < G + 1; omega) _, h.o2.far (by show G < G + 1; omega) _, h.r.far hr u, h.p.far hp u⟩
theorem Bx.set4 {G R P : Nat} {W : World} {lv fv : Value} {ls : List Int} {fo : List Nat} {a b c x y z : Value} (h : Bx G R P W lv fv ls fo a b c x y z) (hr : R ≠ G) (hp : P ≠ G) (u : Value) : Bx G R P (W.setCell ⟨G, 4, none⟩ u) lv fv ls fo a b u x y z :=
  ⟨h.g.set 4 u, h.o1.far (by show G < G + 1; omega) _, h.o2.far (by show G < G + 1; omega) _, h.r.far hr u, h.p.far hp u⟩
theorem own_alloc {base : Nat} {w : World} {v : Value} {xs : List Int} (h : Own base w v xs) (o : Obj) : Own base (w.alloc o) v xs := h.since ((Since.refl w).alloc o)
set_option maxHeartbeats 4000000 in
set_option maxRecDepth 100000 in
theorem specBP_any (v : Value) (xs : List Tok) (w : World) (h : ExC w v xs) (hl : xs.length ≤ 1048577) :
    Calls Tryd.prog 19 #[v] w (PBOut w (bpP xs) (bpB xs)) := by
  have hC := h
  obtain ⟨ao, ac, rfl, ha, hac⟩ := h.open
  have HC := Lib.hid hC
  obtain ⟨n, hn⟩ : ∃ n, n = xs.length := ⟨_, rfl⟩
  rw [← hn] at HC hac ⊢
  clear hn h ha hC
  obtain ⟨y, hy⟩ : ∃ y, y = (w.alloc (.cells #[.slice ao n ac] 26)).alloc (.cells #[.slice none 0 0, .int .i64 0, .int .i64 0, .slice none 0 0, .bool false] 39) := ⟨_, rfl⟩
  have hsy : Since w y := by rw [hy]; exact ((Since.refl w).alloc _).alloc _
  have hzy : y.heap.size = w.heap.size + 2 := by rw [hy]; simp
  have BR : Hid (Blk y (w.heap.size + 1) 39 #[.slice none 0 0, .int .i64 0, .int .i64 0, .slice none 0 0, .bool false]) := by rw [hy]; exact Blk.new (by simp) _ _
  have HEX : Hid (∀ W, Since w W → Calls Tryd.prog 21 #[.agg #[.slice ao n ac]] W (XBOut W (exX xs) (exB xs))) := fun W k => specEX_any _ xs W ⟨HC.out.1.since k, HC.out.2⟩ hl
  have HY := Lib.hid hy
  clear hy
  go_enter Tryd.func19, Tryd.ntmps19
  go_wp2_with fail
  rw [← HY.out]
  refine (HEX.out _ hsy).mono ?_
  rintro e w1 ⟨v1, rfl, ⟨b1, rfl, ho1, _⟩, hs1⟩
  obtain ⟨ro, N, rc, hN, rfl⟩ := ho1.lenN
  have s1 := hsy.trans hs1
  have HO1 : Hid (OwnK w.heap.size w1 (.slice ro N rc) (exX xs)) := ho1.mono hsy.size
  have HLT1 : Hid (∀ b o, ro = some ⟨b, o, none⟩ → b < w1.heap.size) := fun b o e => (ho1.lt b (by rw [e]; rfl)).2
  have R1 := Lib.hid (BR.out.since hs1)
  have zR := R1.out.lt
  clear ho1
  cases hx : exB xs with
  | false =>
    have HP : Hid (bpB xs = false) := bpB_ex hx
    have HQ := Lib.hid (bpP_no HP.out)
    clear hx
    obtain ⟨⟨e0, e1, e2, e3, e4⟩, r0, r1, r2, r3, r4⟩ := R1.out.fiveP
    go_wp2
    refine bodyPost_ret (v := .tuple #[.agg #[.slice none 0 0, .int .i64 0, .int .i64 0, .slice none 0 0, .bool false], .bool false]) (by simp [results, Tryd.results19, go_sem, *]) rfl ?_
    rw [HP.out, HQ.out]
    refine pbOut_nil ?_
    repeat' (first | exact s1 | with_reducible refine Since.alloc ?_ _ | with_reducible refine Since.setCell ?_ (by simp) _)
  | true =>
    have HX := Lib.hid hx
    obtain ⟨hok, hpost, h400⟩ := exB_tree hx
    clear hx
    obtain ⟨S, hS⟩ : ∃ S, S = exT (treeT xs) := ⟨_, rfl⟩
    have hSok : S.ok := by rw [hS]; exact exT_ok hok
    have hSno : noRep S := by rw [hS]; exact exT_no _
    rw [← hS] at hpost
    have HS := Lib.hid hS
    have HPO := Lib.hid hpost
    have hN4 : N ≤ 400 := by rw [hN]; exact h400
    have hcap : N ≤ rc := by
      obtain ⟨a', c', e, _, hc⟩ := (OwnX.mk HO1.out).atC.open
      simp at e
      obtain ⟨_, e2, e3⟩ := e
      omega
    have hal : Since w1 (w1.alloc (.cells #[.slice ro N rc] 26)) := (Since.refl w1).alloc _
    obtain ⟨w2, hw2⟩ : ∃ w2, w2 = w1.alloc (.cells #[.slice ro N rc] 26) := ⟨_, rfl⟩
    have hs2 : Since w1 w2 := by rw [hw2]; exact hal
    have X2 : Hid (Blk w2 w1.heap.size 26 #[.slice ro N rc]) := by rw [hw2]; exact Blk.new rfl _ _
    have HO2 := Lib.hid (HO1.out.since hs2)
    have R2 := Lib.hid (R1.out.since hs2)
    have s2 := s1.trans hs2
    have z2 : w1.heap.size < w2.heap.size := X2.out.lt
    obtain ⟨_, _, e0, HTC⟩ := HO2.out.at.row
    injection e0 with e1 e2 e3
    subst e1; subst e3
    have HW2 := Lib.hid hw2
    obtain ⟨x0, _⟩ := X2.out.one
    clear hw2 hal e2 hS hok hpost h400
    obtain ⟨zs, hzs⟩ : ∃ zs, zs = exX xs := ⟨_, rfl⟩
    rw [← hzs] at hN HTC HPO HO2
    have HZ := Lib.hid hzs
    have HNZ : Hid (N = zs.length) := hN.out
    clear hzs hN
    rw [HW2.out] at x0
    go_wp2_with fail
    rw [← HW2.out]
    rw [← HW2.out] at x0
    go_loop [6, 7] (fun c i => ∃ k : Nat, k ≤ N ∧ i = .int .i64 k ∧ c = .int .i64 ((ltrC (zs.take k) : Nat) : Int)) (fun _ i => N - (intOf i).toNat)
    case atStart => exact ⟨0, Nat.zero_le _, rfl, rfl⟩
    case round =>
      obtain ⟨k, hk, rfl, rfl⟩ := hrel
      obtain ⟨L, hL⟩ : ∃ L, L = ltrC (zs.take k) := ⟨_, rfl⟩
      rw [← hL]
      have hL9 : L ≤ 400 := by rw [hL]; refine Nat.le_trans (ltrC_le _) ?_; rw [List.length_take]; omega
      by_cases hlt : k < N
      · have hxk : k < zs.length := by have := HNZ.out; omega
        obtain ⟨b, off, rfl, hb, c0, _⟩ := HTC.out k hxk
        obtain ⟨cb, hcb⟩ : ∃ cb, cb = (zs[k].kd == 3) := ⟨_, rfl⟩
        have HNX : Hid (ltrC (zs.take (k + 1)) = L + (if cb = true then 1 else 0)) := by unfold Hid; rw [hL, hcb]; exact ltrC_snoc zs k hxk
        have hcb' := hcb.symm
        have hk1 : (0 : Int) ≤ (k : Int) := by omega
        have hk2 : (k : Int) < (N : Int) := by omega
        have HLL := Lib.hid hL
        clear hL hcb
        cases cb with
        | false =>
          go_wp2_with fail
          go_round
          case rel => exact ⟨k + 1, by omega, by go_num, by rw [HNX.out]; rfl⟩
          case measure => simp [intOf]; omega
        | true =>
          go_wp2_with fail
          go_round
          case rel => exact ⟨k + 1, by omega, by go_num, by rw [HNX.out]; rfl⟩
          case measure => simp [intOf]; omega
      · obtain rfl : k = N := by omega
        have hLz : L = ltrC zs := by rw [hL, List.take_of_length_le (by have := HNZ.out; omega)]
        clear hL
        by_cases h20 : L ≤ 20
        · have h20i : ¬ ((20 : Int) < (L : Int)) := by omega
          have HP : Hid (bpB xs = true) := bpB_all HX.out (by rw [← HZ.out, ← hLz]; exact h20)
          have HQ := Lib.hid (bpP_yes HP.out)
          rw [← HS.out] at HQ
          have hltr : ltrN S ≤ 20 := by rw [← ltrC_post, ← HPO.out, ← hLz]; exact h20
          obtain ⟨w3, hw3⟩ : ∃ w3, w3 = w2.alloc (.cells #[.slice none 0 0, .int .i64 0, .int .i64 0, .slice none 0 0, .bool false] 39) := ⟨_, rfl⟩
          have hs3 : Since w2 w3 := by rw [hw3]; exact (Since.refl w2).alloc _
          have B3 : Hid (BP w2.heap.size w3 (.slice none 0 0) (.slice none 0 0) [] []) := by
            rw [hw3]; exact ⟨Blk.new rfl _ _, own_nilI _ _, own_nilI _ _, .inl rfl⟩
          have HBU : Hid (Calls Tryd.prog 63 #[.pointer (some ⟨w2.heap.size, 0, none⟩), .slice ro k rc] w3 (BldOut w2.heap.size w3 (glu S [] []))) :=
            l10Build_any S w2.heap.size [] [] _ _ ro k rc w3 B3.out hSok hSno (by rw [← HPO.out]; exact (HO2.out.since hs3).at) hcap (by rw [← post_len, ← HPO.out]; exact HNZ.out) (by omega) (by rw [← HPO.out]; exact HO2.out.1) (fun b o e => Nat.lt_trans (HLT1.out b o e) z2) rfl (fun f hf => by simp at hf) (by simpa using hltr)
          obtain ⟨⟨⟨l1, f1⟩, ⟨nu, fi, la⟩⟩, hg⟩ : ∃ g, g = glu S [] [] := ⟨_, rfl⟩
          obtain ⟨g1, g2, g3, g4, g5⟩ := glu_all S 20 [] [] rfl (fun f hf => by simp at hf) (by simpa using hltr) (.inr hSok)
          rw [← hg] at g4 g5 HBU HQ
          dsimp only at g4 g5 HQ
          have HW3 := Lib.hid hw3
          have s3 := s2.trans hs3
          have R3 := Lib.hid (R2.out.since hs3)
          have X3 := Lib.hid (X2.out.since hs3)
          have zG : w2.heap.size < w3.heap.size := B3.out.blk.lt
          have z1 := s1.size
          obtain ⟨x0', _⟩ := X3.out.one
          rw [HW3.out] at x0'
          clear hw3 hg hLz hltr g1 g2 g3 h20 hlt
          go_wp2_with fail
          rw [← HW3.out]
          refine HBU.out.mono ?_
          rintro e w4 ⟨lv, fv, rfl, hb4, hk4⟩
          rw [frgV]
          have R4 : Hid (Blk w4 (w.heap.size + 1) 39 #[.slice none 0 0, .int .i64 0, .int .i64 0, .slice none 0 0, .bool false]) := (hk4.low (w.heap.size + 1) R3.out.lt (by omega)).trans R3.out
          have s4 : Since w w4 := KI.since s3 hk4 (by omega)
          obtain ⟨lo4, lc4, rfl⟩ := hb4.own1.len
          obtain ⟨fo4, fc4, rfl⟩ := hb4.own2.len
          obtain ⟨l4, hl4⟩ : ∃ l4, l4 = l1.length := ⟨_, rfl⟩
          obtain ⟨f4, hf4⟩ : ∃ f4, f4 = (natI f1).length := ⟨_, rfl⟩
          rw [← hl4, ← hf4] at hb4
          clear hl4 hf4
          have B4 := Lib.hid hb4
          have z4 := hk4.size
          clear hb4 hk4 x0'
          have hal4 : Since w4 (w4.alloc (.cells #[.bool nu, .int .i64 (fi : Int), .int .i64 (la : Int)] 92)) := (Since.refl w4).alloc _
          have hd1 : w.heap.size + 1 ≠ w2.heap.size := by omega
          have hd2 : w4.heap.size ≠ w2.heap.size := by omega
          have hd3 : w.heap.size ≤ w2.heap.size := by omega
          have hi1 : InI (fi : Int) := by unfold InI; omega
          have hi2 : InI (la : Int) := by unfold InI; omega
          go_upto_region 14 with fail
          have s5 := s4.trans hal4
          have X5 : Hid (Bx w2.heap.size (w.heap.size + 1) w4.heap.size (w4.alloc (.cells #[.bool nu, .int .i64 (fi : Int), .int .i64 (la : Int)] 92)) (.slice lo4 l4 lc4) (.slice fo4 f4 fc4) l1 f1 (.int .i64 0) (.int .i64 0) (.bool false) (.bool nu) (.int .i64 (fi : Int)) (.int .i64 (la : Int))) :=
            ⟨B4.out.blk.since hal4, B4.out.own1.since hal4, B4.out.own2.since hal4, R4.out.since hal4, Blk.new rfl _ _⟩
          clear hal4
          generalize w4.alloc (.cells #[.bool nu, .int .i64 (fi : Int), .int .i64 (la : Int)] 92) = w5 at X5 s5 ⊢
          obtain ⟨⟨q0, q1, q2, q3, q4⟩, g0, g1, g2, g3, g6⟩ := X5.out.g.fiveP
          obtain ⟨⟨p0, p1, p2⟩, _, _, _⟩ := X5.out.p.threeP
          go_upto_region 15 with fail
          have X6 := Lib.hid (X5.out.set1 hd1 hd2 (.int .i64 (fi : Int)))
          have s6 := s5.setCell (a := ⟨w2.heap.size, 1, none⟩) hd3 (.int .i64 (fi : Int))
          clear q0 q1 q2 q3 q4 g0 g1 g2 g3 g6 p0 p1 p2 X5 s5
          generalize w5.setCell ⟨w2.heap.size, 1, none⟩ (.int .i64 (fi : Int)) = w6 at X6 s6 ⊢
          obtain ⟨⟨q0, q1, q2, q3, q4⟩, g0, g1, g2, g3, g6⟩ := X6.out.g.fiveP
          obtain ⟨⟨p0, p1, p2⟩, _, _, _⟩ := X6.out.p.threeP
          go_upto_region 16 with fail
          have X7 := Lib.hid (X6.out.set2 hd1 hd2 (.int .i64 (la : Int)))
          have s7 := s6.setCell (a := ⟨w2.heap.size, 2, none⟩) hd3 (.int .i64 (la : Int))
          clear q0 q1 q2 q3 q4 g0 g1 g2 g3 g6 p0 p1 p2 X6 s6
          generalize w6.setCell ⟨w2.heap.size, 2, none⟩ (.int .i64 (la : Int)) = w7 at X7 s7 ⊢
          obtain ⟨⟨q0, q1, q2, q3, q4⟩, g0, g1, g2, g3, g6⟩ := X7.out.g.fiveP
          obtain ⟨⟨p0, p1, p2⟩, _, _, _⟩ := X7.out.p.threeP
          go_upto_region 17 with fail
          have X8 := Lib.hid (X7.out.set4 hd1 hd2 (.bool nu))
          have s8 := s7.setCell (a := ⟨w2.heap.size, 4, none⟩) hd3 (.bool nu)
          clear q0 q1 q2 q3 q4 g0 g1 g2 g3 g6 p0 p1 p2 X7 s7
          generalize w7.setCell ⟨w2.heap.size, 4, none⟩ (.bool nu) = w8 at X8 s8 ⊢
          obtain ⟨⟨q0, q1, q2, q3, q4⟩, g0, g1, g2, g3, g6⟩ := X8.out.g.fiveP
          obtain ⟨⟨r0, r1, r2, r3, r4⟩, t0, t1, t2, t3, t4⟩ := X8.out.r.fiveP
          have hR1 : w.heap.size + 1 < w2.heap.size + 1 := by omega
          have hR2 : w.heap.size ≤ w.heap.size + 1 := by omega
          go_wp2_with fail
          refine bodyPost_ret (v := .tuple #[.agg #[(.slice lo4 l4 lc4), .int .i64 (fi : Int), .int .i64 (la : Int), (.slice fo4 f4 fc4), .bool nu], .bool true]) (by simp [results, Tryd.results19, go_sem, *]) rfl ?_
          rw [HP.out, HQ.out]
          refine ⟨_, rfl, ⟨(.slice lo4 l4 lc4), (.slice fo4 f4 fc4), rfl, Own.mono (base := w2.heap.size + 1) ?_ (by omega), Own.mono (base := w2.heap.size + 1) ?_ (by omega), B4.out.ap, hi1, hi2⟩, ?_⟩
          · exact ((((X8.out.o1.far (by exact hR1) _).far (by exact hR1) _).far (by exact hR1) _).far (by exact hR1) _).far (by exact hR1) _
          · exact ((((X8.out.o2.far (by exact hR1) _).far (by exact hR1) _).far (by exact hR1) _).far (by exact hR1) _).far (by exact hR1) _
          · exact ((((s8.setCell (by exact hR2) _).setCell (by exact hR2) _).setCell (by exact hR2) _).setCell (by exact hR2) _).setCell (by exact hR2) _
        · have h20i : (20 : Int) < (L : Int) := by omega
          have HP : Hid (bpB xs = false) := bpB_many (by rw [← HZ.out, ← hLz]; exact h20)
          have HQ := Lib.hid (bpP_no HP.out)
          clear h20 hLz
          obtain ⟨⟨e0, e1, e2, e3, e4⟩, r0, r1, r2, r3, r4⟩ := R2.out.fiveP
          go_wp2_with fail
          refine bodyPost_ret (v := .tuple #[.agg #[.slice none 0 0, .int .i64 0, .int .i64 0, .slice none 0 0, .bool false], .bool false]) (by simp [results, Tryd.results19, go_sem, *]) rfl ?_
          rw [HP.out, HQ.out]
          refine pbOut_nil ?_
          repeat' (first | exact s2 | with_reducible refine Since.alloc ?_ _ | with_reducible refine Since.setCell ?_ (by simp) _)
end Go.Proofs.YtblmiocjhbpklaaDoor

/- BuildPositions, the program's. -/
namespace Go.Proofs.YtblmiocjhbpklaaDoor
set_option maxRecDepth 100000
open Go.ChangeShapes Go.WideShapes Go.ChangeAt Go.RowKit
set_option linter.unusedVariables false
set_option linter.unusedSimpArgs false

set_option maxHeartbeats 1000000 in
set_option maxRecDepth 100000 in
theorem letterCount_any (v : Value) (xs : List Tok) (w : World) (h : ExAt w v xs) (hl : xs.length ≤ 1048577) :
    Calls Tryd.prog 61 #[v] w fun e w' => e = .returned (.int .i64 ((ltrC xs : Nat) : Int)) ∧ Since w w' := by
  obtain ⟨a, rfl, ha⟩ := h
  obtain ⟨ao, ac, rfl, HC⟩ := ha.row
  clear ha
  obtain ⟨n, hn⟩ : ∃ n, n = xs.length := ⟨_, rfl⟩
  rw [← hn]
  have hn9 : n ≤ 1048577 := by omega
  have HN := Lib.hid hn
  clear hn hl
  obtain ⟨y, hy⟩ : ∃ y, y = w.alloc (.cells #[.slice ao n ac] 26) := ⟨_, rfl⟩
  have hsy : Since w y := by rw [hy]; exact (Since.refl w).alloc _
  have HY := Lib.hid hy
  clear hy
  go_enter Tryd.func61, Tryd.ntmps61
  go_wp2_with fail
  rw [← HY.out]
  go_loopw [3, 9] (fun c i wr => ∃ k : Nat, k ≤ n ∧ i = .int .i64 k ∧ c = .int .i64 ((ltrC (xs.take k) : Nat) : Int) ∧ Hid (Since y wr)) (fun _ i _ => n - (intOf i).toNat)
  case atStart => exact ⟨0, Nat.zero_le _, rfl, rfl, Since.refl y⟩
  case round =>
    obtain ⟨k, hk, rfl, rfl, HS⟩ := hrel
    obtain ⟨wA, hwA⟩ : ∃ W, W = wr := ⟨_, rfl⟩
    subst hwA
    obtain ⟨L, hL⟩ : ∃ L, L = ltrC (xs.take k) := ⟨_, rfl⟩
    rw [← hL]
    have hL9 : L ≤ 1048577 := by rw [hL]; refine Nat.le_trans (ltrC_le _) ?_; rw [List.length_take]; omega
    have s2 := hsy.trans HS.out
    by_cases hlt : k < n
    · have hxk : k < xs.length := by have := HN.out; omega
      obtain ⟨b, off, rfl, hb, c0, c1, c2, c3⟩ := HC.out k hxk
      have sc := since_cells s2 hb
      rw [← sc] at c0 c1 c2 c3
      clear sc
      obtain ⟨cb, hcb⟩ : ∃ cb, cb = (xs[k].kd == 3) := ⟨_, rfl⟩
      have HNX : Hid (ltrC (xs.take (k + 1)) = L + (if cb = true then 1 else 0)) := by unfold Hid; rw [hL, hcb]; exact ltrC_snoc xs k hxk
      have hcb' := hcb.symm
      have hk1 : (0 : Int) ≤ (k : Int) := by omega
      have hk2 : (k : Int) < (n : Int) := by omega
      have HS2 : Hid (∀ o, Since y (wA.alloc o)) := fun o => HS.out.alloc o
      clear hL hcb
      cases cb with
      | false =>
        go_wp2_with fail
        go_roundw
        case rel => exact ⟨k + 1, by omega, by go_num, by rw [HNX.out]; rfl, HS2.out _⟩
        case measure => simp [intOf]; omega
      | true =>
        go_wp2_with fail
        go_roundw
        case rel => exact ⟨k + 1, by omega, by go_num, by rw [HNX.out]; rfl, HS2.out _⟩
        case measure => simp [intOf]; omega
    · obtain rfl : k = n := by omega
      have hLz : Hid (L = ltrC xs) := by unfold Hid; rw [hL, List.take_of_length_le (by have := HN.out; omega)]
      clear hL
      go_wp2_with fail
      go_ret
      exact ⟨ret_int (by rw [hLz.out]), s2⟩
end Go.Proofs.YtblmiocjhbpklaaDoor

/- BuildPositions, the program's. -/
namespace Go.Proofs.YtblmiocjhbpklaaDoor
set_option maxRecDepth 100000
open Go.ChangeShapes Go.WideShapes Go.ChangeAt Go.RowKit
set_option linter.unusedVariables false
set_option linter.unusedSimpArgs false

theorem treeT_post {T : Tr} (h : T.ok) : treeT T.post = T := treeT_one (by have := stk_post T [] h; simpa using this)
/-- Five stores into one block. -/
theorem since_five {w s : World} {b : Nat} (h : Since w s) (hb : w.heap.size ≤ b) (v0 v1 v2 v3 v4 : Value) :
    Since w (((((s.setCell ⟨b, 0, none⟩ v0).setCell ⟨b, 1, none⟩ v1).setCell ⟨b, 2, none⟩ v2).setCell ⟨b, 3, none⟩ v3).setCell ⟨b, 4, none⟩ v4).drew :=
  (((((h.setCell hb v0).setCell hb v1).setCell hb v2).setCell hb v3).setCell hb v4).drew
theorem own_five {base : Nat} {s : World} {v : Value} {xs : List Int} {b : Nat} (h : Own base s v xs) (hb : b < base) (v0 v1 v2 v3 v4 : Value) :
    Own base (((((s.setCell ⟨b, 0, none⟩ v0).setCell ⟨b, 1, none⟩ v1).setCell ⟨b, 2, none⟩ v2).setCell ⟨b, 3, none⟩ v3).setCell ⟨b, 4, none⟩ v4).drew v xs :=
  (((((h.far hb v0).far hb v1).far hb v2).far hb v3).far hb v4).since (Since.refl _).drew
set_option maxHeartbeats 20000000 in
set_option maxRecDepth 100000 in
theorem implBP_any (v : Value) (xs : List Tok) (w : World) (hf : Forms w) (h : ExAt w v xs) (hl : xs.length ≤ 1048577) :
    Calls Tryd.prog 18 #[v] w (PBOut w (bpP xs) (bpB xs)) := by
  have HF := Lib.hid hf
  clear hf
  have HA := Lib.hid h
  obtain ⟨a, rfl, ha⟩ := h
  obtain ⟨ao, ac, rfl⟩ := ha.len
  obtain ⟨n, hn⟩ : ∃ n, n = xs.length := ⟨_, rfl⟩
  rw [← hn] at HA ⊢
  clear hn ha
  obtain ⟨y, hy⟩ : ∃ y, y = (w.alloc (.cells #[.slice ao n ac] 26)).alloc (.cells #[.slice none 0 0, .int .i64 0, .int .i64 0, .slice none 0 0, .bool false] 39) := ⟨_, rfl⟩
  have hsy : Since w y := by rw [hy]; exact ((Since.refl w).alloc _).alloc _
  have hzy : y.heap.size = w.heap.size + 2 := by rw [hy]; simp
  have BR : Hid (Blk y (w.heap.size + 1) 39 #[.slice none 0 0, .int .i64 0, .int .i64 0, .slice none 0 0, .bool false]) := by rw [hy]; exact Blk.new (by simp) _ _
  have HEX : Hid (∀ W, Since w W → Calls Tryd.prog 20 #[.agg #[.slice ao n ac]] W (XBOut W (exX xs) (exB xs))) := fun W k => implEX_any _ xs W (HF.out.since k) (HA.out.since k) hl
  have HY := Lib.hid hy
  clear hy
  go_enter Tryd.func18, Tryd.ntmps18
  go_wp2_with fail
  rw [← HY.out]
  refine (HEX.out _ hsy).mono ?_
  rintro e w1 ⟨v1, rfl, ho1, hs1⟩
  have HO1 := Lib.hid ho1
  obtain ⟨ro, N, rc, hN, rfl⟩ := ho1.lenN
  have s1 := hsy.trans hs1
  have R1 := Lib.hid (BR.out.since hs1)
  have zR := R1.out.lt
  clear ho1
  cases hx : exB xs with
  | false =>
    have HP : Hid (bpB xs = false) := bpB_ex hx
    have HQ := Lib.hid (bpP_no HP.out)
    clear hx
    obtain ⟨⟨e0, e1, e2, e3, e4⟩, r0, r1, r2, r3, r4⟩ := R1.out.fiveP
    go_wp2
    refine bodyPost_ret (v := .tuple #[.agg #[.slice none 0 0, .int .i64 0, .int .i64 0, .slice none 0 0, .bool false], .bool false]) (by simp [results, Tryd.results18, go_sem, *]) rfl ?_
    rw [HP.out, HQ.out]
    refine pbOut_nil ?_
    repeat' (first | exact s1 | with_reducible refine Since.alloc ?_ _ | with_reducible refine Since.setCell ?_ (by simp) _)
  | true =>
    have HX := Lib.hid hx
    obtain ⟨hok, hpost, h400⟩ := exB_tree hx
    clear hx
    obtain ⟨S, hS⟩ : ∃ S, S = exT (treeT xs) := ⟨_, rfl⟩
    have hSok : S.ok := by rw [hS]; exact exT_ok hok
    have hSno : noRep S := by rw [hS]; exact exT_no _
    rw [← hS] at hpost
    have HS := Lib.hid hS
    have HPO := Lib.hid hpost
    have hN4 : N ≤ 400 := by rw [hN.out]; exact h400
    obtain ⟨zs, hzs⟩ : ∃ zs, zs = exX xs := ⟨_, rfl⟩
    rw [← hzs] at hN HO1 HPO h400
    have HZ := Lib.hid hzs
    obtain ⟨L, hL⟩ : ∃ L, L = ltrC zs := ⟨_, rfl⟩
    have HL := Lib.hid hL
    have hL9 : L ≤ 400 := by rw [hL]; exact Nat.le_trans (ltrC_le _) h400
    have HLC : Hid (∀ W, Since w1 W → Calls Tryd.prog 61 #[.agg #[.slice ro N rc]] W fun e w' => e = .returned (.int .i64 ((L : Nat) : Int)) ∧ Since W w') := fun W k => by rw [hL]; exact letterCount_any _ zs W (HO1.out.since k).at (by omega)
    have HTO : Hid (∀ W, Since w1 W → Calls Tryd.prog 49 #[.agg #[.slice ro N rc]] W (TreOut W S)) := fun W k => by
      have := treeOf_any _ zs W (HF.out.since (s1.trans k)) (HO1.out.since k).at (by omega)
      rw [HPO.out, treeT_post hSok] at this
      exact this
    clear hS hok hpost hL hzs
    go_wp2_with fail
    have hal : Since w1 (w1.alloc (.cells #[.slice ro N rc] 26)) := (Since.refl w1).alloc _
    refine (HLC.out _ hal).mono ?_
    rintro e w2 ⟨rfl, hs2⟩
    have k2 := hal.trans hs2
    have s2 := s1.trans k2
    have X2 : Hid (Blk w2 w1.heap.size 26 #[.slice ro N rc]) := (Blk.new rfl _ _ : Blk (w1.alloc (.cells #[.slice ro N rc] 26)) _ _ _).since hs2
    have R2 := Lib.hid (R1.out.since k2)
    clear hal hs2
    by_cases h20 : L ≤ 20
    · have h20i : ¬ ((20 : Int) < (L : Int)) := by omega
      have HP : Hid (bpB xs = true) := bpB_all HX.out (by rw [← HZ.out, ← HL.out]; exact h20)
      have HQ := Lib.hid (bpP_yes HP.out)
      rw [← HS.out] at HQ
      have hltr : ltrN S ≤ 20 := by rw [← ltrC_post, ← HPO.out, ← HL.out]; exact h20
      obtain ⟨w3, hw3⟩ : ∃ w3, w3 = w2.alloc (.cells #[.slice none 0 0, .int .i64 0, .int .i64 0, .slice none 0 0, .bool false] 39) := ⟨_, rfl⟩
      have hs3 : Since w2 w3 := by rw [hw3]; exact (Since.refl w2).alloc _
      have B3 : Hid (BP w2.heap.size w3 (.slice none 0 0) (.slice none 0 0) [] []) := by
        rw [hw3]; exact ⟨Blk.new rfl _ _, own_nilI _ _, own_nilI _ _, .inl rfl⟩
      obtain ⟨⟨⟨l1, f1⟩, ⟨nu, fi, la⟩⟩, hg⟩ : ∃ g, g = glu S [] [] := ⟨_, rfl⟩
      obtain ⟨g1, g2, g3, g4, g5⟩ := glu_all S 20 [] [] rfl (fun f hf => by simp at hf) (by simpa using hltr) (.inr hSok)
      have HAD : Hid (∀ W V a b, Since w3 W → TreeAt W S a b V → Calls Tryd.prog 62 #[.pointer (some ⟨w2.heap.size, 0, none⟩), V] W (AddOut w2.heap.size W ((l1, f1), ⟨nu, fi, la⟩))) := fun W V a b k ht => by
        rw [hg]
        exact add_any S w2.heap.size [] [] _ _ a b V W (B3.out.since k) ht hSok hSno rfl (fun f hf => by simp at hf) (by simpa using hltr)
      rw [← hg] at g4 g5 HQ
      dsimp only at g4 g5 HQ
      have HW3 := Lib.hid hw3
      have k3 := k2.trans hs3
      have s3 := s2.trans hs3
      have R3 := Lib.hid (R2.out.since hs3)
      have X3 := Lib.hid (X2.out.since hs3)
      have zG : w2.heap.size < w3.heap.size := B3.out.blk.lt
      have z1 := s2.size
      have zR2 := R2.out.lt
      have z2 := k2.size
      obtain ⟨x0, _⟩ := X2.out.one
      obtain ⟨x0', _⟩ := X3.out.one
      rw [HW3.out] at x0'
      clear hw3 hg hltr g1 g2 g3 h20
      go_wp2_with fail
      rw [← HW3.out]
      refine (HTO.out _ k3).mono ?_
      rintro e w4 ⟨v4, rfl, ht4, hs4⟩
      obtain ⟨pt, rfl⟩ := ht4.isPtr
      have HT4 := Lib.hid ht4
      clear ht4
      go_wp2_with fail
      refine (HAD.out _ _ _ _ hs4 HT4.out).mono ?_
      rintro e w5 ⟨lv, fv, rfl, hb5, hk5⟩
      rw [frgW]
      have z4 := hs4.size
      have R5 : Hid (Blk w5 (w.heap.size + 1) 39 #[.slice none 0 0, .int .i64 0, .int .i64 0, .slice none 0 0, .bool false]) := (hk5.low (w.heap.size + 1) (R3.out.since hs4).lt (by omega)).trans (R3.out.since hs4)
      have s5 : Since w w5 := KI.since (s3.trans hs4) hk5 (by omega)
      have z5 := hk5.size
      obtain ⟨lo4, lc4, rfl⟩ := hb5.own1.len
      obtain ⟨fo4, fc4, rfl⟩ := hb5.own2.len
      obtain ⟨l4, hl4⟩ : ∃ l4, l4 = l1.length := ⟨_, rfl⟩
      obtain ⟨f4, hf4⟩ : ∃ f4, f4 = (natI f1).length := ⟨_, rfl⟩
      rw [← hl4, ← hf4] at hb5
      clear hl4 hf4
      have B5 := Lib.hid hb5
      clear hb5 hk5 x0 x0'
      have hal5 : Since w5 (w5.alloc (.cells #[.int .i64 (fi : Int), .int .i64 (la : Int), .bool nu] 87)) := (Since.refl w5).alloc _
      have hd1 : w.heap.size + 1 ≠ w2.heap.size := by omega
      have hd2 : w5.heap.size ≠ w2.heap.size := by omega
      have hd3 : w.heap.size ≤ w2.heap.size := by omega
      have hi1 : InI (fi : Int) := by unfold InI; omega
      have hi2 : InI (la : Int) := by unfold InI; omega
      go_upto_region 6 with fail
      have s6 := s5.trans hal5
      have P6 : Hid (Blk (w5.alloc (.cells #[.int .i64 (fi : Int), .int .i64 (la : Int), .bool nu] 87)) w5.heap.size 87 #[.int .i64 (fi : Int), .int .i64 (la : Int), .bool nu]) := Blk.new rfl _ _
      have B6 := Lib.hid (B5.out.since hal5)
      have R6 := Lib.hid (R5.out.since hal5)
      have B5a := B5
      clear hal5 B5 R5
      generalize w5.alloc (.cells #[.int .i64 (fi : Int), .int .i64 (la : Int), .bool nu] 87) = w6 at P6 B6 R6 s6 ⊢
      obtain ⟨⟨q0, q1, q2, q3, q4⟩, g0, g1, g2, g3, g6⟩ := B6.out.blk.fiveP
      obtain ⟨⟨p0, p1, p2⟩, _, _, _⟩ := P6.out.threeP
      go_region
      obtain ⟨hG7, o17, o27⟩ := bp_fields B6.out (.int .i64 (fi : Int)) (.int .i64 (la : Int)) (.bool nu)
      have R7 := ((R6.out.far (p := ⟨w2.heap.size, 1, none⟩) hd1 (.int .i64 (fi : Int))).far (p := ⟨w2.heap.size, 2, none⟩) hd1 (.int .i64 (la : Int))).far (p := ⟨w2.heap.size, 4, none⟩) hd1 (.bool nu)
      have s7 := ((s6.setCell (a := ⟨w2.heap.size, 1, none⟩) hd3 (.int .i64 (fi : Int))).setCell (a := ⟨w2.heap.size, 2, none⟩) hd3 (.int .i64 (la : Int))).setCell (a := ⟨w2.heap.size, 4, none⟩) hd3 (.bool nu)
      clear q0 q1 q2 q3 q4 g0 g1 g2 g3 g6 p0 p1 p2 s6 R6
      generalize ((w6.setCell ⟨w2.heap.size, 1, none⟩ (.int .i64 (fi : Int))).setCell ⟨w2.heap.size, 2, none⟩ (.int .i64 (la : Int))).setCell ⟨w2.heap.size, 4, none⟩ (.bool nu) = w7 at hG7 o17 o27 R7 s7 ⊢
      have O1 := Lib.hid o17
      have O2 := Lib.hid o27
      obtain ⟨⟨q0, q1, q2, q3, q4⟩, g0, g1, g2, g3, g6⟩ := hG7.fiveP
      obtain ⟨⟨r0, r1, r2, r3, r4⟩, t0, t1, t2, t3, t4⟩ := R7.fiveP
      have hR1 : w.heap.size + 1 < w2.heap.size + 1 := by omega
      have hR2 : w.heap.size ≤ w.heap.size + 1 := by omega
      clear hG7 R7 o17 o27
      go_wp2_with fail
      refine bodyPost_ret (v := .tuple #[.agg #[(.slice lo4 l4 lc4), .int .i64 (fi : Int), .int .i64 (la : Int), (.slice fo4 f4 fc4), .bool nu], .bool true]) (by simp [results, Tryd.results18, go_sem, *]) rfl ?_
      rw [HP.out, HQ.out]
      refine ⟨_, rfl, ⟨(.slice lo4 l4 lc4), (.slice fo4 f4 fc4), rfl, Own.mono (base := w2.heap.size + 1) ?_ (by omega), Own.mono (base := w2.heap.size + 1) ?_ (by omega), B5a.out.ap, hi1, hi2⟩, ?_⟩
      · exact own_five O1.out hR1 _ _ _ _ _
      · exact own_five O2.out hR1 _ _ _ _ _
      · with_reducible exact since_five s7 hR2 _ _ _ _ _
    · have h20i : (20 : Int) < (L : Int) := by omega
      have HP : Hid (bpB xs = false) := bpB_many (by rw [← HZ.out, ← HL.out]; exact h20)
      have HQ := Lib.hid (bpP_no HP.out)
      clear h20
      obtain ⟨⟨e0, e1, e2, e3, e4⟩, r0, r1, r2, r3, r4⟩ := R2.out.fiveP
      go_wp2_with fail
      refine bodyPost_ret (v := .tuple #[.agg #[.slice none 0 0, .int .i64 0, .int .i64 0, .slice none 0 0, .bool false], .bool false]) (by simp [results, Tryd.results18, go_sem, *]) rfl ?_
      rw [HP.out, HQ.out]
      refine pbOut_nil ?_
      repeat' (first | exact s2 | with_reducible refine Since.alloc ?_ _ | with_reducible refine Since.setCell ?_ (by simp) _)
end Go.Proofs.YtblmiocjhbpklaaDoor

/- Positions as results of a law: in a range of blocks; a box of them; BuildPositions' answers so. -/
namespace Go.Proofs.YtblmiocjhbpklaaDoor
set_option maxRecDepth 100000
open Go.ChangeShapes Go.WideShapes Go.ChangeAt Go.RowKit
set_option linter.unusedVariables false
set_option linter.unusedSimpArgs false

/-- v is positions of the call's own, the two rows in blocks from lo on and below hi. -/
def OwnPz (lo hi : Nat) (w : World) (v : Value) (p : Psn) : Prop :=
  ∃ a b, v = .agg #[a, .int .i64 p.fi, .int .i64 p.la, b, .bool p.nu] ∧ Own lo w a p.ls ∧ InR lo hi a ∧ Own lo w b p.fo ∧ InR lo hi b ∧ (a.ownBlock = none ∨ a.ownBlock ≠ b.ownBlock) ∧ InI p.fi ∧ InI p.la
section
variable {lo hi : Nat} {w w' : World} {v : Value} {p : Psn}
theorem OwnPs.z (h : OwnPs lo w v p) : OwnPz lo w.heap.size w v p := by
  obtain ⟨a, b, e, h1, h2, h3⟩ := h; exact ⟨a, b, e, h1, h1.inR, h2, h2.inR, h3⟩
theorem OwnPz.s (h : OwnPz lo hi w v p) : OwnPs lo w v p := by
  obtain ⟨a, b, e, h1, _, h2, _, h3⟩ := h; exact ⟨a, b, e, h1, h2, h3⟩
theorem OwnPz.at (h : OwnPz lo hi w v p) : PsAt w v p := h.s.at
theorem OwnPz.since (h : OwnPz lo hi w v p) (k : Since w w') : OwnPz lo hi w' v p := by
  obtain ⟨a, b, e, h1, r1, h2, r2, h3⟩ := h; exact ⟨a, b, e, h1.since k, r1, h2.since k, r2, h3⟩
theorem OwnPz.within {a b : Nat} (h : OwnPz a b w v p) (k : Within lo hi w w') (hd : b ≤ lo ∨ hi ≤ a) : OwnPz a b w' v p := by
  obtain ⟨x, y, e, h1, r1, h2, r2, h3⟩ := h; exact ⟨x, y, e, h1.within r1 k hd, r1, h2.within r2 k hd, r2, h3⟩
theorem OwnPz.far1 {B : Nat} (h : OwnPz lo hi w v p) (hB : B < lo ∨ hi ≤ B) (i : Nat) (u : Value) : OwnPz lo hi (w.setCell ⟨B, i, none⟩ u) v p := by
  have k : Within B (B + 1) w (w.setCell ⟨B, i, none⟩ u) := ⟨rfl, rfl, rfl, by simp [World.setCell], fun k _ hn => Below.heap_setCell w ⟨B, i, none⟩ u k (by show k ≠ B; omega)⟩
  exact h.within k (by omega)
theorem OwnPz.far5 {B : Nat} (h : OwnPz lo hi w v p) (hB : B < lo ∨ hi ≤ B) {i j k l m : Nat} {u u2 u3 u4 u5 : Value} :
    OwnPz lo hi (((((w.setCell ⟨B, i, none⟩ u).setCell ⟨B, j, none⟩ u2).setCell ⟨B, k, none⟩ u3).setCell ⟨B, l, none⟩ u4).setCell ⟨B, m, none⟩ u5) v p :=
  ((((h.far1 hB i u).far1 hB j u2).far1 hB k u3).far1 hB l u4).far1 hB m u5
end
def PzOut (w : World) (p : Psn) (e : Ending) (w' : World) : Prop := ∃ v, e = .returned v ∧ OwnPz w.heap.size w'.heap.size w' v p ∧ Since w w'
def PzBOut (w : World) (p : Psn) (c : Bool) (e : Ending) (w' : World) : Prop := ∃ v, e = .returned (.tuple #[v, .bool c]) ∧ OwnPz w.heap.size w'.heap.size w' v p ∧ Since w w'
theorem PsOut.z {w w' : World} {p : Psn} {e : Ending} (h : PsOut w p e w') : PzOut w p e w' := by
  obtain ⟨v, e, h1, h2⟩ := h; exact ⟨v, e, h1.z, h2⟩
theorem PBOut.z {w w' : World} {p : Psn} {c : Bool} {e : Ending} (h : PBOut w p c e w') : PzBOut w p c e w' := by
  obtain ⟨v, e, h1, h2⟩ := h; exact ⟨v, e, h1.z, h2⟩
/-- A box of a result. -/
def BoxP (w1 wx : World) (q : Value) (R : Psn) : Prop :=
  ∃ lo hi B ao ac bo bc, q = .pointer (some ⟨B, 0, none⟩) ∧ w1.heap.size ≤ lo ∧ w1.heap.size ≤ B ∧ hi ≤ wx.heap.size ∧ (B < lo ∨ hi ≤ B) ∧
    OwnPz lo hi wx (.agg #[.slice ao R.ls.length ac, .int .i64 R.fi, .int .i64 R.la, .slice bo R.fo.length bc, .bool R.nu]) R ∧ Blk wx B 39 #[.slice ao R.ls.length ac, .int .i64 R.fi, .int .i64 R.la, .slice bo R.fo.length bc, .bool R.nu] ∧ Since w1 wx
theorem boxP_mk {w1 wx : World} {lo hi : Nat} {ao bo : Option Addr} {ac bc : Nat} {R : Psn} (B : Nat) (hB : w1.heap.size ≤ B) (h0 : w1.heap.size ≤ lo) (h1 : hi ≤ wx.heap.size ∧ (B < lo ∨ hi ≤ B))
    (hO : OwnPz lo hi wx (.agg #[.slice ao R.ls.length ac, .int .i64 R.fi, .int .i64 R.la, .slice bo R.fo.length bc, .bool R.nu]) R) (hK : Blk wx B 39 #[.slice ao R.ls.length ac, .int .i64 R.fi, .int .i64 R.la, .slice bo R.fo.length bc, .bool R.nu]) (hS : Since w1 wx) :
    BoxP w1 wx (.pointer (some ⟨B, 0, none⟩)) R := ⟨lo, hi, B, ao, ac, bo, bc, rfl, h0, hB, h1.1, h1.2, hO, hK, hS⟩
def MarkZOut (lo hi : Nat) (w : World) (v : Value) (k : Int) (p : Psn) (e : Ending) (w' : World) : Prop :=
  e = .returned (.int .i64 (k + szOfP p)) ∧ OwnPz lo hi w' v (cntP k p) ∧ Within lo hi w w'
theorem markPosZ_any (lo hi : Nat) (v : Value) (p : Psn) (k : Int) (w : World) (h : OwnPz lo hi w v p) (hhi : hi ≤ w.heap.size) (hk0 : 0 ≤ k) (hk9 : k ≤ 1152921504) (h1 : p.ls.length ≤ 1152921504) (h2 : p.fo.length ≤ 1152921504) :
    Calls Tryd.prog 38 #[v, .int .i64 k] w (MarkZOut lo hi w v k p) := by
  obtain ⟨a, b, rfl, ha, ra, hb, rb, hr⟩ := h
  refine (markPositions_any lo hi _ p k w ⟨a, b, rfl, ha, hb, hr⟩ ?_ hhi hk0 hk9 h1 h2).mono ?_
  · intro a' b' x y z e
    injection e with e; injection e with e
    simp only [List.cons.injEq] at e
    obtain ⟨e1, _, _, e4, _⟩ := e
    subst e1; subst e4
    exact ⟨ra, rb⟩
  · rintro e w' ⟨he, ⟨a', b', e2, k1, k2, k3⟩, hw⟩
    refine ⟨he, ?_, hw⟩
    injection e2 with e2; injection e2 with e2
    simp only [List.cons.injEq] at e2
    obtain ⟨e3, e5, e6, e4, e7⟩ := e2
    subst e3; subst e4
    exact ⟨a, b, rfl, k1, ra, k2, rb, k3⟩
theorem bpP_len (xs : List Tok) : (bpP xs).ls.length ≤ 400 ∧ (bpP xs).fo.length ≤ 400 := by
  cases h : bpB xs with
  | false => rw [bpP_no h]; simp [zeroP0]
  | true =>
    have hx : exB xs = true := by unfold bpB at h; rw [Bool.and_eq_true] at h; exact h.1
    obtain ⟨hok, hpost, h400⟩ := exB_tree hx
    have hT : (exT (treeT xs)).ok := exT_ok hok
    have h5 := glu_all (exT (treeT xs)) (ltrN (exT (treeT xs))) [] [] rfl (by simp) (by simp) (.inr hT)
    have hc : ltrN (exT (treeT xs)) ≤ 400 := by rw [← ltrC_post, ← hpost]; exact Nat.le_trans (ltrC_le _) h400
    rw [bpP_yes h]
    simp only [List.length_nil, Nat.zero_add] at h5
    refine ⟨by simp only; omega, ?_⟩
    simp only [natI, List.length_map]; omega
end Go.Proofs.YtblmiocjhbpklaaDoor

/- The law of BuildPositions, walked. -/
namespace Go.Proofs.YtblmiocjhbpklaaDoor
set_option maxRecDepth 100000
open Go.ChangeShapes Go.WideShapes Go.ChangeAt Go.RowKit
set_option linter.unusedVariables false
set_option linter.unusedSimpArgs false

set_option maxHeartbeats 4000000 in
set_option maxRecDepth 100000 in
theorem fnExactBuildPositions_walk (v0 : Value) (x : List Tok) (w : World) (hfr : Forms w) (h0 : ExAt w v0 x) (hl0 : x.length ≤ maxLen) :
    Calls Tryd.prog 6 #[v0] w fun e w' => e = .returned (.bool true) ∧ Since w w' := by
  have HFRM := Lib.hid hfr
  clear hfr
  have H0 := Lib.hid h0
  have HL0 := Lib.hid hl0
  obtain ⟨s0, rfl, hss0⟩ := h0
  obtain ⟨so0, sc0, rfl⟩ := hss0.len
  obtain ⟨p0, hp0⟩ : ∃ p, p = x.length := ⟨_, rfl⟩
  rw [← hp0] at H0 ⊢
  clear hp0 hl0
  obtain ⟨y0, hy0⟩ : ∃ y, y = (w.alloc (.cells #[.slice so0 p0 sc0] 54)) := ⟨_, rfl⟩
  have hs0 : Since w y0 := by rw [hy0]; exact (Since.refl w).alloc _
  have hz0 : w.heap.size + 1 = y0.heap.size := by rw [hy0]; simp
  have bx0 : Hid (Blk y0 (w.heap.size) 54 #[.slice so0 p0 sc0]) := by rw [hy0]; exact Blk.new (by simp) _ _
  obtain ⟨x0, hx0⟩ : ∃ zz, zz = szLeft x.length 1048576 := ⟨_, rfl⟩
  by_cases hz0 : x0 < 0
  · have HX0 := Lib.hid hx0
    clear hx0
    go_enter Tryd.func6, Tryd.ntmps6
    go_wp2_with fail
    rw [← hy0]
    clear hy0
    refine (szExpr_any _ x 1048576 x0 _ (H0.out.since hs0) HL0.out (by decide) (by decide) HX0.out.symm).mono ?_
    rintro e wz0 ⟨rfl, hsz0⟩
    have hz00 := hs0.trans hsz0
    have hzz0 := hsz0.size
    have bz0_0 := Lib.hid (bx0.out.since hsz0)
    clear bx0
    clear hs0 hsz0
    go_wp2
    go_ret
    exact ⟨rfl, hz00⟩
  · have lx0 : 0 ≤ x0 ∧ x0 ≤ 1048576 := by rw [hx0]; rw [hx0] at hz0; exact (szX_small (x := x) (left := 1048576) (by decide) hz0).1
    have g10 : x.length ≤ 1048577 := by rw [hx0] at hz0; exact (szX_small (x := x) (left := 1048576) (by decide) hz0).2
    have HX0 := Lib.hid hx0
    clear hx0
    have HS : Hid (∀ V0 W, ExC W V0 x → Calls Tryd.prog 19 #[V0] W ((PzBOut W (bpP x) (bpB x)))) := fun V0 W k0 => (specBP_any V0 x W k0 (by omega)).mono fun _ _ h => h.z
    have HI : Hid (∀ V0 W, Since w W → ExC W V0 x → Calls Tryd.prog 18 #[V0] W ((PzBOut W (bpP x) (bpB x)))) := fun V0 W hW k0 => (implBP_any V0 x W (HFRM.out.since hW) k0.1 (by omega)).mono fun _ _ h => h.z
    have q0 : (bpP x).ls.length ≤ 2097160 := (by have := (bpP_len x).1; omega)
    have q1 : (bpP x).fo.length ≤ 2097160 := (by have := (bpP_len x).2; omega)
    generalize bpP x = R at HS HI q0 q1
    generalize bpB x = C at HS HI
    have eCC : (C != C) = false := by simp
    have qe0 : R.ls.length ≤ 1152921504606846976 := by omega
    have qm0 : R.ls.length ≤ 1152921504 := by omega
    have qe1 : R.fo.length ≤ 1152921504606846976 := by omega
    have qm1 : R.fo.length ≤ 1152921504 := by omega
    have dRR : decide (R = R) = true := by simp
    obtain ⟨kr, hkr⟩ : ∃ kr : Int, kr = 1 + szOfP R := ⟨_, rfl⟩
    have dkr : decide (kr < 0) = false := by unfold szOfP at hkr; simp; omega
    have ekr : (kr != kr) = false := by simp
    have HKR := Lib.hid hkr
    clear hkr
    obtain ⟨kx0, hkx0⟩ : ∃ kx : Int, kx = 1 + 4 * (x.length : Int) := ⟨_, rfl⟩
    have bk0 : 0 ≤ kx0 ∧ kx0 ≤ 10000000 := by omega
    have dkx : decide (kx0 < 0) = false := by simp; omega
    have HKX0 := Lib.hid hkx0
    clear hkx0
    have dgg0 : decide (x = x) = true := by simp
    have g40 : x.length ≤ 1152921504606846976 := by omega
    have g60 : x.length ≤ 288230376151711744 := by omega
    go_enter Tryd.func6, Tryd.ntmps6
    go_wp2_with fail
    rw [← hy0]
    clear hy0
    refine (szExpr_any _ x 1048576 x0 _ (H0.out.since hs0) HL0.out (by decide) (by decide) HX0.out.symm).mono ?_
    rintro e wz0 ⟨rfl, hsz0⟩
    have hz00 := hs0.trans hsz0
    have hzz0 := hsz0.size
    have bz0_0 := Lib.hid (bx0.out.since hsz0)
    clear bx0
    clear hs0 hsz0
    obtain ⟨p0, _⟩ := bz0_0.out.one
    go_wp2_with fail
    clear p0
    refine (toExpr_any _ x _ (H0.out.since hz00) g10).mono ?_
    rintro e w1 ⟨va, rfl, hoa, hq2⟩
    have F3 := Lib.hid (bz0_0.out.since hq2)
    clear bz0_0
    have hs4 := hz00.trans hq2
    have zhs4 := hq2.size
    go_wp2_with fail
    refine (HS.out _ _ hoa.atC).mono ?_
    rintro e w5 ⟨vs3, rfl, ho3, hq6⟩
    clear hoa
    have SR := Lib.hid ho3
    obtain ⟨wa, wb, rfl, wk, _, wl, _⟩ := ho3
    obtain ⟨wao, wac, rfl⟩ := wk.len
    obtain ⟨wbo, wbc, rfl⟩ := wl.len
    clear wk wl
    have F7 := Lib.hid (F3.out.since hq6)
    clear F3
    have hs8 := hs4.trans hq6
    have zhs8 := hq6.size
    obtain ⟨y9, hy9⟩ : ∃ y, y = w5.alloc (.cells #[.slice wao R.ls.length wac, .int .i64 R.fi, .int .i64 R.la, .slice wbo R.fo.length wbc, .bool R.nu] 39) := ⟨_, rfl⟩
    have ha10 : Since w5 y9 := by rw [hy9]; exact (Since.refl w5).alloc _
    have zby9 : w5.heap.size + 1 = y9.heap.size := by rw [hy9]; simp
    have SB11 : Hid (Blk y9 w5.heap.size 39 #[.slice wao R.ls.length wac, .int .i64 R.fi, .int .i64 R.la, .slice wbo R.fo.length wbc, .bool R.nu]) := by rw [hy9]; exact Blk.new rfl _ _
    have F12 := Lib.hid (F7.out.since ha10)
    clear F7
    have F13 := Lib.hid (SR.out.since ha10)
    clear SR
    have hs14 := hs8.trans ha10
    have zhs14 := ha10.size
    obtain ⟨p0, _⟩ := F12.out.one
    rw [hy9] at p0
    go_wp2_with fail
    rw [← hy9]
    clear hy9 p0
    refine (toExpr_any _ x _ (H0.out.since hs14) g10).mono ?_
    rintro e w15 ⟨vx0, rfl, hox0, hq16⟩
    have XO0 := Lib.hid hox0
    obtain ⟨xa0, rfl, ka, _⟩ := hox0
    obtain ⟨xso0, xsc0, rfl⟩ := ka.len
    clear ka
    obtain ⟨y17, hy17⟩ : ∃ y, y = w15.alloc (.cells #[.slice xso0 x.length xsc0] 26) := ⟨_, rfl⟩
    have ha18 : Since w15 y17 := by rw [hy17]; exact (Since.refl w15).alloc _
    have zy0 : w15.heap.size + 1 = y17.heap.size := by rw [hy17]; simp
    have XB0 : Hid (Blk y17 w15.heap.size 26 #[.slice xso0 x.length xsc0]) := by rw [hy17]; exact Blk.new rfl _ _
    have XP0 := Lib.hid (XO0.out.since ha18)
    clear XO0
    have hc19 := hq16.trans ha18
    have zq0 := hq16.size
    have F20 := Lib.hid (F12.out.since hc19)
    clear F12
    have F21 := Lib.hid (F13.out.since hc19)
    clear F13
    have F22 := Lib.hid (SB11.out.since hc19)
    clear SB11
    have hs23 := hs14.trans hc19
    have zhs23 := hc19.size
    obtain ⟨q00, _⟩ := XB0.out.one
    rw [hy17] at q00
    go_wp2_with fail
    rw [← hy17]
    clear hy17 q00
    refine (HI.out _ _ hs23 XP0.out.atC).mono ?_
    rintro e w24 ⟨vg5, rfl, ho5, hq25⟩
    have GO := Lib.hid ho5
    obtain ⟨ga, gb, rfl, gk, _, gl, _⟩ := ho5
    obtain ⟨gao, gac, rfl⟩ := gk.len
    obtain ⟨gbo, gbc, rfl⟩ := gl.len
    clear gk gl
    have F26 := Lib.hid (F20.out.since hq25)
    clear F20
    have F27 := Lib.hid (F21.out.since hq25)
    clear F21
    have F28 := Lib.hid (F22.out.since hq25)
    clear F22
    have F29 := Lib.hid (XP0.out.since hq25)
    clear XP0
    have F30 := Lib.hid (XB0.out.since hq25)
    clear XB0
    have hs31 := hs23.trans hq25
    have zhs31 := hq25.size
    obtain ⟨y32, hy32⟩ : ∃ y, y = w24.alloc (.cells #[.slice gao R.ls.length gac, .int .i64 R.fi, .int .i64 R.la, .slice gbo R.fo.length gbc, .bool R.nu] 39) := ⟨_, rfl⟩
    have ha33 : Since w24 y32 := by rw [hy32]; exact (Since.refl w24).alloc _
    have zby32 : w24.heap.size + 1 = y32.heap.size := by rw [hy32]; simp
    have SB34 : Hid (Blk y32 w24.heap.size 39 #[.slice gao R.ls.length gac, .int .i64 R.fi, .int .i64 R.la, .slice gbo R.fo.length gbc, .bool R.nu]) := by rw [hy32]; exact Blk.new rfl _ _
    have F35 := Lib.hid (F26.out.since ha33)
    clear F26
    have F36 := Lib.hid (F27.out.since ha33)
    clear F27
    have F37 := Lib.hid (F28.out.since ha33)
    clear F28
    have F38 := Lib.hid (F29.out.since ha33)
    clear F29
    have F39 := Lib.hid (F30.out.since ha33)
    clear F30
    have F40 := Lib.hid (GO.out.since ha33)
    clear GO
    have hs41 := hs31.trans ha33
    have zhs41 := ha33.size
    obtain ⟨⟨p0, p1, p2, p3, p4⟩, _, _, _, _, _⟩ := F37.out.fiveP
    obtain ⟨⟨r0, r1, r2, r3, r4⟩, _, _, _, _, _⟩ := SB34.out.fiveP
    rw [hy32] at p0 p1 p2 p3 p4 r0 r1 r2 r3 r4
    go_wp2_with fail
    rw [← hy32]
    clear hy32 p0 p1 p2 p3 p4 r0 r1 r2 r3 r4
    refine (eqPositions_any _ _ R R _ F40.out.at F36.out.at qe0 qe1 qe0 qe1).mono ?_
    rintro e w42 ⟨rfl, hq43⟩
    have F44 := Lib.hid (F35.out.since hq43)
    clear F35
    have F45 := Lib.hid (F36.out.since hq43)
    clear F36
    have F46 := Lib.hid (F37.out.since hq43)
    clear F37
    have F47 := Lib.hid (F38.out.since hq43)
    clear F38
    have F48 := Lib.hid (F39.out.since hq43)
    clear F39
    have F49 := Lib.hid (F40.out.since hq43)
    clear F40
    have F50 := Lib.hid (SB34.out.since hq43)
    clear SB34
    have hs51 := hs41.trans hq43
    have zhs51 := hq43.size
    go_wp2_with fail
    have HKC : Hid (∀ w', Since w42 w' → w'.cell? ⟨w.heap.size, 0, none⟩ = some (.slice so0 p0 sc0) ∧ w'.cell? ⟨w15.heap.size, 0, none⟩ = some (.slice xso0 x.length xsc0)) := by
      intro w' hs
      obtain ⟨r00, _⟩ := (F44.out.since hs).one
      obtain ⟨r10, _⟩ := (F48.out.since hs).one
      exact ⟨r00, r10⟩
    refine wp_region_held_drew (S := (fun w' => w'.cell? ⟨w.heap.size, 0, none⟩ = some (.slice so0 p0 sc0) ∧ w'.cell? ⟨w15.heap.size, 0, none⟩ = some (.slice xso0 x.length xsc0))) (by kernel_rfl) (HKC.out _ (Since.refl _).drew) (fun hHeld => ?_)
    refine take_yes 0 (some 41) (v := ?_) rfl (by kernel_rfl) (by kernel_rfl) (by kernel_rfl) (by kernel_rfl) (fun _ _ _ h => h) (by rfl) (by assumption) ?_ ?_
    rotate_left
    · (intro w' hSw; (try dsimp only at hSw); go_simp; try with_reducible rfl)
    try simp only [Act.put, List.setIfInBounds_toArray, List.set_cons_zero, List.set_cons_succ]
    refine take_yes 1 (some 42) (v := ?_) rfl (by kernel_rfl) (by kernel_rfl) (by kernel_rfl) (by kernel_rfl) (fun _ _ _ h => h) (by rfl) (by assumption) ?_ ?_
    rotate_left
    · (intro w' hSw; (try dsimp only at hSw); go_simp; try with_reducible rfl)
    try simp only [Act.put, List.setIfInBounds_toArray, List.set_cons_zero, List.set_cons_succ]
    refine take_run 2 rfl (by kernel_rfl) (by rfl) (fun K hK => ?_)
    go_simp
    refine (toExpr_any _ x _ (H0.out.since hs51.drew) g10).mono ?_
    rintro e w52 ⟨va, rfl, hoa, hq53⟩
    have hc54 := Since.of_drew hq53
    refine hK.out _ _ (HKC.out _ hc54) (fun hHeld2 => ?_)
    clear hK K hHeld
    try simp only [Act.put, List.setIfInBounds_toArray, List.set_cons_zero, List.set_cons_succ]
    refine take_run 3 rfl (by kernel_rfl) (by rfl) (fun K hK => ?_)
    go_simp
    refine (eqExpr_any _ _ x x _ (F47.out.at.since hc54) hoa.at g40 g40).mono ?_
    rintro e w55 ⟨rfl, hq56⟩
    have hc57 := hc54.trans hq56
    refine hK.out _ _ (HKC.out _ hc57) (fun hHeld3 => ?_)
    clear hK K hHeld2
    try simp only [Act.put, List.setIfInBounds_toArray, List.set_cons_zero, List.set_cons_succ]
    refine take_yes 4 (some 45) (v := ?_) rfl (by kernel_rfl) (by kernel_rfl) (by kernel_rfl) (by kernel_rfl) (fun _ _ _ h => h) (by rfl) (by assumption) ?_ ?_
    rotate_left
    · (intro w' hSw; (try dsimp only at hSw); go_simp; try with_reducible rfl)
    try simp only [Act.put, List.setIfInBounds_toArray, List.set_cons_zero, List.set_cons_succ]
    refine wpAnyH_done (by kernel_rfl) ?_ _
    clear hHeld3 HKC hoa
    have F58 := Lib.hid (F44.out.since hc57)
    clear F44
    have F59 := Lib.hid (F45.out.since hc57)
    clear F45
    have F60 := Lib.hid (F46.out.since hc57)
    clear F46
    have F61 := Lib.hid (F47.out.since hc57)
    clear F47
    have F62 := Lib.hid (F48.out.since hc57)
    clear F48
    have F63 := Lib.hid (F49.out.since hc57)
    clear F49
    have F64 := Lib.hid (F50.out.since hc57)
    clear F50
    have hs65 := hs51.trans hc57
    have zhs65 := hc57.size
    obtain ⟨r0, _⟩ := F62.out.one
    go_wp2_with fail
    clear r0
    refine (markExpr_any y9.heap.size w15.heap.size _ x 1 _ F61.out (by decide) (by decide) g60).mono ?_
    rintro e w66 ⟨rfl, hmx0, hw67⟩
    rw [← HKX0.out]
    clear hmx0
    clear F61
    have F68 := Lib.hid (F58.out.within hw67 (by omega))
    clear F58
    have F69 := Lib.hid (F59.out.within hw67 (by omega))
    clear F59
    have F70 := Lib.hid (F60.out.within hw67 (by omega))
    clear F60
    have F71 := Lib.hid (F62.out.within hw67 (by omega))
    clear F62
    have F72 := Lib.hid (F63.out.within hw67 (by omega))
    clear F63
    have F73 := Lib.hid (F64.out.within hw67 (by omega))
    clear F64
    have hs74 := hs65.within (by omega) hw67
    have zhs74 := hw67.size
    clear F71
    obtain ⟨⟨p0, p1, p2, p3, p4⟩, _, _, _, _, _⟩ := F70.out.fiveP
    obtain ⟨⟨r0, r1, r2, r3, r4⟩, _, _, _, _, _⟩ := F73.out.fiveP
    go_wp2_with fail
    clear p0 p1 p2 p3 p4 r0 r1 r2 r3 r4
    refine (eqPositions_any _ _ R R _ F72.out.at F69.out.at qe0 qe1 qe0 qe1).mono ?_
    rintro e w75 ⟨rfl, hq76⟩
    have F77 := Lib.hid (F68.out.since hq76)
    clear F68
    have F78 := Lib.hid (F69.out.since hq76)
    clear F69
    have F79 := Lib.hid (F70.out.since hq76)
    clear F70
    have F80 := Lib.hid (F72.out.since hq76)
    clear F72
    have F81 := Lib.hid (F73.out.since hq76)
    clear F73
    have hs82 := hs74.trans hq76
    have zhs82 := hq76.size
    obtain ⟨⟨r0, r1, r2, r3, r4⟩, _, _, _, _, _⟩ := F81.out.fiveP
    go_wp2_with fail
    clear r0 r1 r2 r3 r4
    refine (markPosZ_any _ _ _ R 1 _ F80.out (by omega) (by decide) (by decide) qm0 qm1).mono ?_
    rintro e w83 ⟨rfl, hmg, hw84⟩
    rw [← HKR.out]
    have HM := Lib.hid hmg
    clear hmg
    clear F80
    have F85 := Lib.hid (F77.out.within hw84 (by omega))
    clear F77
    have F86 := Lib.hid (F78.out.within hw84 (by omega))
    clear F78
    have F87 := Lib.hid (F79.out.within hw84 (by omega))
    clear F79
    have F88 := Lib.hid (F81.out.within hw84 (by omega))
    clear F81
    have hs89 := hs82.within (by omega) hw84
    have zhs89 := hw84.size
    obtain ⟨⟨r0, r1, r2, r3, r4⟩, _, _, _, _, _⟩ := F88.out.fiveP
    go_wp2_with fail
    clear r0 r1 r2 r3 r4
    refine (heldPositions_any _ R 1 _ HM.out.at (by decide) (by decide) qm0 qm1).mono ?_
    rintro e w90 ⟨rfl, hq91⟩
    rw [← HKR.out]
    have F92 := Lib.hid (F85.out.since hq91)
    clear F85
    have F93 := Lib.hid (F86.out.since hq91)
    clear F86
    have F94 := Lib.hid (F87.out.since hq91)
    clear F87
    have F95 := Lib.hid (F88.out.since hq91)
    clear F88
    have F96 := Lib.hid (HM.out.since hq91)
    clear HM
    have hs97 := hs89.trans hq91
    have zhs97 := hq91.size
    obtain ⟨p0, _⟩ := F92.out.one
    go_wp2_with fail
    clear p0
    refine (toExpr_any _ x _ (H0.out.since hs97) g10).mono ?_
    rintro e w98 ⟨va, rfl, hoa, hq99⟩
    have F100 := Lib.hid (F92.out.since hq99)
    clear F92
    have F101 := Lib.hid (F93.out.since hq99)
    clear F93
    have F102 := Lib.hid (F94.out.since hq99)
    clear F94
    have F103 := Lib.hid (F95.out.since hq99)
    clear F95
    have F104 := Lib.hid (F96.out.since hq99)
    clear F96
    have hs105 := hs97.trans hq99
    have zhs105 := hq99.size
    go_wp2_with fail
    refine (HI.out _ _ hs105 hoa.atC).mono ?_
    rintro e w106 ⟨vs4, rfl, ho3, hq107⟩
    clear hoa
    have HOO := Lib.hid ho3
    obtain ⟨ha, hb, rfl, hk, _, hl, _⟩ := ho3
    obtain ⟨hao, hac, rfl⟩ := hk.len
    obtain ⟨hbo, hbc, rfl⟩ := hl.len
    clear hk hl
    have F108 := Lib.hid (F100.out.since hq107)
    clear F100
    have F109 := Lib.hid (F101.out.since hq107)
    clear F101
    have F110 := Lib.hid (F102.out.since hq107)
    clear F102
    have F111 := Lib.hid (F103.out.since hq107)
    clear F103
    have F112 := Lib.hid (F104.out.since hq107)
    clear F104
    have hs113 := hs105.trans hq107
    have zhs113 := hq107.size
    obtain ⟨y114, hy114⟩ : ∃ y, y = w106.alloc (.cells #[.slice hao R.ls.length hac, .int .i64 R.fi, .int .i64 R.la, .slice hbo R.fo.length hbc, .bool R.nu] 39) := ⟨_, rfl⟩
    have ha115 : Since w106 y114 := by rw [hy114]; exact (Since.refl w106).alloc _
    have zby114 : w106.heap.size + 1 = y114.heap.size := by rw [hy114]; simp
    have SB116 : Hid (Blk y114 w106.heap.size 39 #[.slice hao R.ls.length hac, .int .i64 R.fi, .int .i64 R.la, .slice hbo R.fo.length hbc, .bool R.nu]) := by rw [hy114]; exact Blk.new rfl _ _
    have F117 := Lib.hid (F108.out.since ha115)
    clear F108
    have F118 := Lib.hid (F109.out.since ha115)
    clear F109
    have F119 := Lib.hid (F110.out.since ha115)
    clear F110
    have F120 := Lib.hid (F111.out.since ha115)
    clear F111
    have F121 := Lib.hid (F112.out.since ha115)
    clear F112
    have F122 := Lib.hid (HOO.out.since ha115)
    clear HOO
    have hs123 := hs113.trans ha115
    have zhs123 := ha115.size
    obtain ⟨⟨p0, p1, p2, p3, p4⟩, _, _, _, _, _⟩ := F119.out.fiveP
    obtain ⟨⟨r0, r1, r2, r3, r4⟩, _, _, _, _, _⟩ := SB116.out.fiveP
    rw [hy114] at p0 p1 p2 p3 p4 r0 r1 r2 r3 r4
    go_wp2_with fail
    rw [← hy114]
    clear hy114 p0 p1 p2 p3 p4 r0 r1 r2 r3 r4
    refine (eqPositions_any _ _ R R _ F122.out.at F118.out.at qe0 qe1 qe0 qe1).mono ?_
    rintro e w124 ⟨rfl, hq125⟩
    have F126 := Lib.hid (F117.out.since hq125)
    clear F117
    have F127 := Lib.hid (F118.out.since hq125)
    clear F118
    have F128 := Lib.hid (F119.out.since hq125)
    clear F119
    have F129 := Lib.hid (F120.out.since hq125)
    clear F120
    have F130 := Lib.hid (F121.out.since hq125)
    clear F121
    have F131 := Lib.hid (F122.out.since hq125)
    clear F122
    have F132 := Lib.hid (SB116.out.since hq125)
    clear SB116
    have hs133 := hs123.trans hq125
    have zhs133 := hq125.size
    clear F127
    clear F131
    clear F128
    clear F132
    obtain ⟨⟨r0, r1, r2, r3, r4⟩, _, _, _, _, _⟩ := F129.out.fiveP
    go_wp2_with fail
    clear r0 r1 r2 r3 r4
    refine (heldPositions_any _ R 1 _ F130.out.at (by decide) (by decide) qm0 qm1).mono ?_
    rintro e w134 ⟨rfl, hq135⟩
    rw [← HKR.out]
    have F136 := Lib.hid (F126.out.since hq135)
    clear F126
    have F137 := Lib.hid (F129.out.since hq135)
    clear F129
    have F138 := Lib.hid (F130.out.since hq135)
    clear F130
    have hs139 := hs133.trans hq135
    have zhs139 := hq135.size
    go_wp2
    go_ret
    exact ⟨rfl, hs139⟩
end Go.Proofs.YtblmiocjhbpklaaDoor
