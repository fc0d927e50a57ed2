/- The program's BatchBetween. -/
import Derived.Test.YtdbedoediicmhaaCon
import Derived.Test.YtdbedoediicmhaaK2
import Derived.Test.YtdbedoediicmhaaEqG
namespace Go.Proofs.Ytdbedoediicmhaa
set_option maxRecDepth 100000
open Go.ChangeShapes Go.WideShapes Go.ChangeAt Go.RowKit
set_option linter.unusedVariables false
set_option linter.unusedSimpArgs false

theorem bb_no {w w1 : World} {xs : List Chg} {C : Bool} {B : Nat} (hc : C = false) (hx : xs = []) (hB : w.heap.size ≤ B) (hs : Since w w1) (u : Value) :
    BBOut w xs C (.returned (.tuple #[.agg #[.slice none 0 0], .bool false])) (w1.setCell ⟨B, 0, none⟩ u) := by
  subst hc; subst hx
  exact ⟨_, rfl, OwnB.mk ⟨fun x hx => by simp at hx, World.ownsRow_nil _ _ _ _⟩, hs.setCell hB u⟩
theorem bb_yes {w w1 : World} {xs : List Chg} {C : Bool} {B : Nat} {v : Value} {lo : Nat} (hc : C = true) (ho : OwnC lo w1 v xs) (hlo : w.heap.size ≤ lo) (hB2 : B < lo) (hB : w.heap.size ≤ B) (hs : Since w w1) (u : Value) :
    BBOut w xs C (.returned (.tuple #[.agg #[v], .bool true])) (w1.setCell ⟨B, 0, none⟩ u) := by
  subst hc
  exact ⟨_, rfl, OwnB.mk ((ho.far (p := ⟨B, 0, none⟩) hB2 u).mono hlo), hs.setCell hB u⟩
theorem bet_no {g h : Grf} (hc : betC g h = false) : betC g h = false ∧ betB g h = [] := ⟨hc, by unfold betB; rw [hc]; rfl⟩
theorem bet_yes {g h : Grf} (hc : betC g h = true) : betC g h = true ∧ betB g h = betL g h := ⟨hc, by unfold betB; rw [if_pos hc]⟩
set_option maxHeartbeats 2000000 in
set_option maxRecDepth 100000 in
theorem implBB_any (v u : Value) (g h : Grf) (w : World) (kg : GrfAt w v g) (kh : GrfAt w u h) (g1 : g.vs.length ≤ 1048577) (g2 : g.es.length ≤ 1048577) (h1 : h.vs.length ≤ 1048577) (h2 : h.es.length ≤ 1048577) :
    Calls Try.prog 28 #[v, u] w (BBOut w (betB g h) (betC g h)) := by
  have HG := Lib.hid kg
  have HH := Lib.hid kh
  obtain ⟨a, b, rfl, ha, hb⟩ := kg
  have HGV := Lib.hid ha
  have HGE := Lib.hid hb
  obtain ⟨ao, ac, rfl, _⟩ := ha.row
  obtain ⟨bo, bc, rfl⟩ := hb.len
  obtain ⟨a', b', rfl, ha', hb'⟩ := kh
  have HHV := Lib.hid ha'
  have HHE := Lib.hid hb'
  obtain ⟨co, cc, rfl, _⟩ := ha'.row
  obtain ⟨dO, dc, rfl⟩ := hb'.len
  clear ha hb ha' hb'
  obtain ⟨y, hy⟩ : ∃ y, y = ((w.alloc (.cells #[.slice ao g.vs.length ac, .slice bo g.es.length bc] 33)).alloc (.cells #[.slice co h.vs.length cc, .slice dO h.es.length dc] 33)).alloc (.cells #[.slice none 0 0] 39) := ⟨_, rfl⟩
  have hs0 : Since w y := by rw [hy]; exact (((Since.refl w).alloc _).alloc _).alloc _
  have hz : w.heap.size + 1 + 1 + 1 = y.heap.size := by rw [hy]; simp
  have BG : Hid (Blk y w.heap.size 33 #[.slice ao g.vs.length ac, .slice bo g.es.length bc]) := by rw [hy]; exact ((Blk.new rfl _ _).alloc _).alloc _
  have BH : Hid (Blk y (w.heap.size + 1) 33 #[.slice co h.vs.length cc, .slice dO h.es.length dc]) := by rw [hy]; exact (Blk.new (by simp) _ _).alloc _
  have BR : Hid (Blk y (w.heap.size + 1 + 1) 39 #[.slice none 0 0]) := by rw [hy]; exact Blk.new (by simp) _ _
  rcases Bool.eq_false_or_eq_true (validB g) with hv | hv
  rotate_left
  · have HV := Lib.hid hv
    have HA := Lib.hid (bet_no (g := g) (h := h) (by unfold betC; rw [hv]; rfl))
    clear hv
    go_enter Try.func28, Try.ntmps28
    go_wp2_with fail
    rw [← hy]
    clear hy
    refine (implVG_any _ g _ (HG.out.since hs0) g1 g2).mono ?_
    rintro en w1 ⟨rfl, hs1⟩
    rw [HV.out]
    have hs01 := hs0.trans hs1
    obtain ⟨r0, r1⟩ := (BR.out.since hs1).one
    go_wp2_with fail
    refine bodyPost_ret (v := .tuple #[.agg #[.slice none 0 0], .bool false]) (by simp [results, Try.results28, go_sem, *]) rfl ?_
    exact bb_no HA.out.1 HA.out.2 (by omega) hs01 _
  have HV := Lib.hid hv
  rcases Bool.eq_false_or_eq_true (validB h) with hv2 | hv2
  rotate_left
  · have HV2 := Lib.hid hv2
    have HA := Lib.hid (bet_no (g := g) (h := h) (by unfold betC; rw [hv, hv2]; rfl))
    clear hv hv2
    go_enter Try.func28, Try.ntmps28
    go_wp2_with fail
    rw [← hy]
    clear hy
    refine (implVG_any _ g _ (HG.out.since hs0) g1 g2).mono ?_
    rintro en w1 ⟨rfl, hs1⟩
    rw [HV.out]
    have hs01 := hs0.trans hs1
    obtain ⟨p0, p1, _, _⟩ := (BH.out.since hs1).two
    go_wp2_with fail
    clear p0 p1
    refine (implVG_any _ h _ (HH.out.since hs01) h1 h2).mono ?_
    rintro en w2 ⟨rfl, hs2⟩
    rw [HV2.out]
    have hs02 := hs01.trans hs2
    obtain ⟨r0, r1⟩ := (BR.out.since (hs1.trans hs2)).one
    go_wp2_with fail
    refine bodyPost_ret (v := .tuple #[.agg #[.slice none 0 0], .bool false]) (by simp [results, Try.results28, go_sem, *]) rfl ?_
    exact bb_no HA.out.1 HA.out.2 (by omega) hs02 _
  have HV2 := Lib.hid hv2
  by_cases hvs : g.vs = h.vs
  rotate_left
  · have HA := Lib.hid (bet_no (g := g) (h := h) (by unfold betC; rw [hv, hv2, decide_eq_false hvs]; rfl))
    have HQ := Lib.hid (show decide (g.vs = h.vs) = false from decide_eq_false hvs)
    clear hv hv2 hvs
    go_enter Try.func28, Try.ntmps28
    go_wp2_with fail
    rw [← hy]
    clear hy
    refine (implVG_any _ g _ (HG.out.since hs0) g1 g2).mono ?_
    rintro en w1 ⟨rfl, hs1⟩
    rw [HV.out]
    have hs01 := hs0.trans hs1
    obtain ⟨p0, p1, _, _⟩ := (BH.out.since hs1).two
    go_wp2_with fail
    clear p0 p1
    refine (implVG_any _ h _ (HH.out.since hs01) h1 h2).mono ?_
    rintro en w2 ⟨rfl, hs2⟩
    rw [HV2.out]
    have hs02 := hs01.trans hs2
    have hs12 := hs1.trans hs2
    obtain ⟨p0, p1, _, _⟩ := (BG.out.since hs12).two
    obtain ⟨q0, q1, _, _⟩ := (BH.out.since hs12).two
    go_wp2_with fail
    clear p0 p1 q0 q1
    refine (slicesEqual_ints _ _ g.vs h.vs _ (HGV.out.since hs02) (HHV.out.since hs02) (by omega) (by omega)).mono ?_
    rintro en w3 ⟨rfl, hs3⟩
    rw [HQ.out]
    have hs03 := hs02.trans hs3
    obtain ⟨r0, r1⟩ := (BR.out.since (hs12.trans hs3)).one
    go_wp2_with fail
    refine bodyPost_ret (v := .tuple #[.agg #[.slice none 0 0], .bool false]) (by simp [results, Try.results28, go_sem, *]) rfl ?_
    exact bb_no HA.out.1 HA.out.2 (by omega) hs03 _
  have HQ := Lib.hid (show decide (g.vs = h.vs) = true from decide_eq_true hvs)
  have HCC : Hid (betC g h = decide ((betL g h).length ≤ 6)) := by unfold Hid betC; rw [hv, hv2, decide_eq_true hvs]; rfl
  clear hv hv2 hvs
  go_enter Try.func28, Try.ntmps28
  go_wp2_with fail
  rw [← hy]
  clear hy
  refine (implVG_any _ g _ (HG.out.since hs0) g1 g2).mono ?_
  rintro en w1 ⟨rfl, hs1⟩
  rw [HV.out]
  have hs01 := hs0.trans hs1
  obtain ⟨p0, p1, _, _⟩ := (BH.out.since hs1).two
  go_wp2_with fail
  clear p0 p1
  refine (implVG_any _ h _ (HH.out.since hs01) h1 h2).mono ?_
  rintro en w2 ⟨rfl, hs2⟩
  rw [HV2.out]
  have hs02 := hs01.trans hs2
  have hs12 := hs1.trans hs2
  obtain ⟨p0, p1, _, _⟩ := (BG.out.since hs12).two
  obtain ⟨q0, q1, _, _⟩ := (BH.out.since hs12).two
  go_wp2_with fail
  clear p0 p1 q0 q1
  refine (slicesEqual_ints _ _ g.vs h.vs _ (HGV.out.since hs02) (HHV.out.since hs02) (by omega) (by omega)).mono ?_
  rintro en w3 ⟨rfl, hs3⟩
  rw [HQ.out]
  have hs03 := hs02.trans hs3
  have hs13 := hs12.trans hs3
  obtain ⟨p0, p1, _, _⟩ := (BG.out.since hs13).two
  obtain ⟨q0, q1, _, _⟩ := (BH.out.since hs13).two
  go_wp2_with fail
  clear p0 p1 q0 q1
  refine (missing_any _ _ g.es h.es false _ (HGE.out.since hs03) (HHE.out.since hs03) g2 h2).mono ?_
  rintro en w4 ⟨v4, rfl, ho4, hs4⟩
  have HD := Lib.hid ho4
  obtain ⟨xo, xc, rfl⟩ := ho4.len
  clear ho4
  have hs04 := hs03.trans hs4
  have hs14 := hs13.trans hs4
  obtain ⟨p0, p1, _, _⟩ := (BG.out.since hs14).two
  obtain ⟨q0, q1, _, _⟩ := (BH.out.since hs14).two
  go_wp2_with fail
  clear p0 p1 q0 q1
  refine (missing_any _ _ h.es g.es true _ (HHE.out.since hs04) (HGE.out.since hs04) h2 g2).mono ?_
  rintro en w5 ⟨v5, rfl, ho5, hs5⟩
  have HI := Lib.hid ho5
  obtain ⟨zo, zc, rfl⟩ := ho5.len
  clear ho5
  have HD5 := Lib.hid (HD.out.since hs5)
  have hs05 := hs04.trans hs5
  have hs15 := hs14.trans hs5
  have hl1 := missB_len g.es h.es false
  have hl2 := missB_len h.es g.es true
  have HCL : Hid ((betL g h).length = (missB g.es h.es false).length + (missB h.es g.es true).length) := by unfold Hid betL; rw [List.length_append]
  have HLL : Hid (betL g h = missB g.es h.es false ++ missB h.es g.es true) := rfl
  generalize missB g.es h.es false = D at HD5 HCL HLL hl1 HD ⊢
  generalize missB h.es g.es true = I at HI HCL HLL hl2 ⊢
  clear HD
  have hz5 := hs15.size
  by_cases hlen : 6 < D.length + I.length
  · have hgt : (6 : Int) < (D.length : Int) + (I.length : Int) := by omega
    have HA := Lib.hid (bet_no (g := g) (h := h) (by rw [HCC.out]; exact decide_eq_false (by rw [HCL.out]; omega)))
    obtain ⟨r0, r1⟩ := (BR.out.since hs15).one
    go_wp2_with fail
    refine bodyPost_ret (v := .tuple #[.agg #[.slice none 0 0], .bool false]) (by simp [results, Try.results28, go_sem, *]) rfl ?_
    exact bb_no HA.out.1 HA.out.2 (by omega) hs05 _
  · have hgt : ¬ (6 : Int) < (D.length : Int) + (I.length : Int) := by omega
    have HA := Lib.hid (bet_yes (g := g) (h := h) (by rw [HCC.out]; exact decide_eq_true (by rw [HCL.out]; omega)))
    have hal : Since w5 (w5.alloc (.cells #[.slice xo D.length xc, .slice zo I.length zc] 37)) := (Since.refl w5).alloc _
    go_wp2_with fail
    refine (concat_any w5.heap.size _ _ D I _ (Blk.new rfl _ _) (HD5.out.at.since hal) (HI.out.at.since hal) (by omega) (by omega)).mono ?_
    rintro en w6 ⟨v6, rfl, ho6, hs6⟩
    have HO6 := Lib.hid ho6
    obtain ⟨oo, oc, rfl⟩ := ho6.len
    clear ho6
    have hs16 := (hs15.trans hal).trans hs6
    have hs06 := hs0.trans hs16
    have hz6 := hal.size
    obtain ⟨r0, r1⟩ := (BR.out.since hs16).one
    rw [← HLL.out] at HO6 ⊢
    go_wp2_with fail
    refine bodyPost_ret (v := .tuple #[.agg #[.slice oo (betL g h).length oc], .bool true]) (by simp [results, Try.results28, go_sem, *]) rfl ?_
    rw [HA.out.2]
    exact bb_yes HA.out.1 HO6.out (by omega) (by omega) (by omega) hs06 _
end Go.Proofs.Ytdbedoediicmhaa
