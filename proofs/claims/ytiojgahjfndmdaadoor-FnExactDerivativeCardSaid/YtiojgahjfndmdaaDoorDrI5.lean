/- Derivatives of trees, the program's: unions. -/
import Derived.Test.YtiojgahjfndmdaaDoorDrI0
namespace Go.Proofs.YtiojgahjfndmdaaDoor
set_option maxRecDepth 100000
open Go.ChangeShapes Go.WideShapes Go.ChangeAt Go.RowKit
set_option linter.unusedVariables false
set_option linter.unusedSimpArgs false


set_option maxHeartbeats 4000000 in
set_option maxRecDepth 100000 in
theorem derI_uni (c lr lo hi : Int) (l r : Tr) (hl : DerI c l) (hr : DerI c r) : DerI c (.node ⟨5, lr, lo, hi⟩ l r) := by
    intro a0 b0 v w hv hok hlen
    obtain ⟨htok, hcase⟩ := hok
    have HT0 := Lib.hid hv
    obtain ⟨htin, g, lv, rv, a, b, c0, d, rfl, hg, hB, _, _, _, _, hL, hR⟩ := hv
    have hll : l.len + r.len + 1 ≤ 400 := hlen
    have HL := Lib.hid hL
    have HR := Lib.hid hR
    obtain ⟨pl, rfl⟩ := hL.isPtr
    obtain ⟨pr, rfl⟩ := hR.isPtr
    have BX := Lib.hid hB
    rw [opN_of] at hcase
    unfold ncells at BX
    dsimp only at BX
    obtain ⟨y, hy⟩ : ∃ y, y = w.alloc (.cells #[.slice none 0 0] 26) := ⟨_, rfl⟩
    have hsy : Since w y := by rw [hy]; exact (Since.refl w).alloc _
    have BR : Hid (Blk y w.heap.size 26 #[.slice none 0 0]) := by rw [hy]; exact Blk.new rfl _ _
    have hgl : g < w.heap.size := hB.lt
    obtain ⟨⟨x0, x1, x2, x3, x4, x5⟩, _⟩ := (BX.out.since hsy).all6
    rw [hy] at x0 x1 x2 x3 x4 x5
    have HY := Lib.hid hy
    clear htin hB hL hR hlen hy
    obtain ⟨hlo, hro⟩ : l.ok ∧ r.ok := by
      rcases hcase with ⟨h0, _⟩ | ⟨h1, _⟩ | ⟨_, a, b⟩
      · simp at h0
      · simp at h1
      · exact ⟨a, b⟩
    have hdl : (derT c l).length ≤ 160000 := derT_400 c hlo (by omega)
    have hdr : (derT c r).length ≤ 160000 := derT_400 c hro (by omega)
    have hpr : r.post.length ≤ 400 := by rw [post_len]; omega
    clear hcase
    have HD : Hid (derT c (Tr.node ⟨5, lr, lo, hi⟩ l r) = uniX (derT c l) (derT c r)) := by unfold Hid; simp [derT]
    go_enter Tryd.func80, Tryd.ntmps80
    go_upto_region 1 with fail
    go_region
    go_wp2_with fail
    try rw [← HY.out]
    have hyd : Since w y.drew := hsy.drew
    clear x0 x1 x2 x3 x4 x5
    first
    | (refine (hl a b _ _ (HL.out.since hyd) hlo (by omega)).mono ?_)
    | (refine (hl a b _ _ (HL.out.since hsy) hlo (by omega)).mono ?_)
    rintro e w3 ⟨v3, rfl, ⟨b3, rfl, ho3, _⟩, hs3⟩
    obtain ⟨uo, un, uc, huN, rfl⟩ := ho3.lenN
    have hs3y : Since y w3 := by first | exact Since.of_drew hs3 | exact hs3
    have HO3 := Lib.hid ho3
    have hyw3 := hsy.trans hs3y
    have BR3 := Lib.hid (BR.out.since hs3y)
    clear ho3 hs3
    go_wp2_with fail
    refine (hr c0 d _ _ (HR.out.since hyw3) hro (by omega)).mono ?_
    rintro e w4 ⟨v4, rfl, ⟨b4, rfl, ho4, _⟩, hs4⟩
    obtain ⟨qo, qn, qc, hqN, rfl⟩ := ho4.lenN
    have HO4 := Lib.hid ho4
    have HO34 := Lib.hid (HO3.out.since hs4)
    have BR4 := Lib.hid (BR3.out.since hs4)
    have hyw4 := hyw3.trans hs4
    clear ho4
    go_wp2_with fail
    refine (implUE_any _ _ (derT c l) (derT c r) _ ⟨_, rfl, HO34.out.at⟩ ⟨_, rfl, HO4.out.at⟩ (by omega) (by omega)).mono ?_
    rintro e w9 ⟨v, rfl, ⟨b9, rfl, ho, _⟩, hs9⟩
    obtain ⟨ro, N, rc, hN, rfl⟩ := ho.lenN
    have HO : Hid (OwnK w.heap.size w9 (.slice ro N rc) _) := ho.mono hyw4.size
    have hcc := hyw4.trans hs9
    have BR9 := Lib.hid (BR4.out.since hs9)
    clear ho
    obtain ⟨r0, r1⟩ := BR9.out.one
    go_wp2_with fail
    refine bodyPost_ret (v := .agg #[.slice ro N rc]) (by simp [results, Tryd.results80, go_sem, *]) rfl ?_
    rw [HD.out]
    exact xout_boxT HO.out hcc BR9.out (by decide) (Nat.le_refl _) _
end Go.Proofs.YtiojgahjfndmdaaDoor
