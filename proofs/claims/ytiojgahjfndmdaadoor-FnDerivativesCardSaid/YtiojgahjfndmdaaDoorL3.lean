/- DrI0, DrI4, DrI5, DrI7, DrI: small words and contracts that the other texts use. -/
import Derived.Test.YtiojgahjfndmdaaDoorL1
/- Derivatives of trees, the program's: leaves and stars. -/
namespace Go.Proofs.YtiojgahjfndmdaaDoor
set_option maxRecDepth 100000
open Go.ChangeShapes Go.WideShapes Go.ChangeAt Go.RowKit
set_option linter.unusedVariables false
set_option linter.unusedSimpArgs false

/-- What is shown of a tree's derivative, by trees. -/
def DerI (c : Int) (T : Tr) : Prop := ∀ (a0 b0 : Nat) (v : Value) (w : World), TreeAt w T a0 b0 v → T.ok → T.len ≤ 400 →
    Calls Tryd.prog 80 #[v, .int .i64 c] w (XOut w (derT c T))
set_option maxHeartbeats 4000000 in
set_option maxRecDepth 100000 in
theorem derI_none (c lr lo hi : Int) (l r : Tr) (hl : DerI c l) (hr : DerI c r) : DerI c (.node ⟨1, lr, lo, hi⟩ l r) := by
    intro a0 b0 v w hv hok hlen
    obtain ⟨htok, hcase⟩ := hok
    have HT0 := Lib.hid hv
    obtain ⟨htin, g, lv, rv, a, b, c0, d, rfl, hg, hB, _, _, _, _, hL, hR⟩ := hv
    have hll : l.len + r.len + 1 ≤ 400 := hlen
    have HL := Lib.hid hL
    have HR := Lib.hid hR
    obtain ⟨pl, rfl⟩ := hL.isPtr
    obtain ⟨pr, rfl⟩ := hR.isPtr
    have BX := Lib.hid hB
    rw [opN_of] at hcase
    unfold ncells at BX
    dsimp only at BX
    obtain ⟨y, hy⟩ : ∃ y, y = w.alloc (.cells #[.slice none 0 0] 26) := ⟨_, rfl⟩
    have hsy : Since w y := by rw [hy]; exact (Since.refl w).alloc _
    have BR : Hid (Blk y w.heap.size 26 #[.slice none 0 0]) := by rw [hy]; exact Blk.new rfl _ _
    have hgl : g < w.heap.size := hB.lt
    obtain ⟨⟨x0, x1, x2, x3, x4, x5⟩, _⟩ := (BX.out.since hsy).all6
    rw [hy] at x0 x1 x2 x3 x4 x5
    have HY := Lib.hid hy
    clear htin hB hL hR hlen hy
    have HD : Hid (derT c (Tr.node ⟨1, lr, lo, hi⟩ l r) = [leafK 1]) := by unfold Hid; simp [derT]
    clear hcase
    go_enter Tryd.func80, Tryd.ntmps80
    go_upto_region 1 with fail
    go_region
    go_wp2_with fail
    try rw [← HY.out]
    refine (leaf_any 1 _ (by decide)).mono ?_
    rintro e w9 ⟨v, rfl, ⟨b9, rfl, ho, _⟩, hs9⟩
    have hs9 : Since y w9 := by first | exact Since.of_drew hs9 | exact hs9
    clear x0 x1 x2 x3 x4 x5
    obtain ⟨ro, N, rc, hN, rfl⟩ := ho.lenN
    have HO : Hid (OwnK w.heap.size w9 (.slice ro N rc) _) := ho.mono hsy.size
    have hcc := hsy.trans hs9
    have BR9 := Lib.hid (BR.out.since hs9)
    clear ho
    obtain ⟨r0, r1⟩ := BR9.out.one
    go_wp2_with fail
    refine bodyPost_ret (v := .agg #[.slice ro N rc]) (by simp [results, Tryd.results80, go_sem, *]) rfl ?_
    rw [HD.out]
    exact xout_boxT HO.out hcc BR9.out (by decide) (Nat.le_refl _) _
set_option maxHeartbeats 4000000 in
set_option maxRecDepth 100000 in
theorem derI_empty (c lr lo hi : Int) (l r : Tr) (hl : DerI c l) (hr : DerI c r) : DerI c (.node ⟨2, lr, lo, hi⟩ l r) := by
    intro a0 b0 v w hv hok hlen
    obtain ⟨htok, hcase⟩ := hok
    have HT0 := Lib.hid hv
    obtain ⟨htin, g, lv, rv, a, b, c0, d, rfl, hg, hB, _, _, _, _, hL, hR⟩ := hv
    have hll : l.len + r.len + 1 ≤ 400 := hlen
    have HL := Lib.hid hL
    have HR := Lib.hid hR
    obtain ⟨pl, rfl⟩ := hL.isPtr
    obtain ⟨pr, rfl⟩ := hR.isPtr
    have BX := Lib.hid hB
    rw [opN_of] at hcase
    unfold ncells at BX
    dsimp only at BX
    obtain ⟨y, hy⟩ : ∃ y, y = w.alloc (.cells #[.slice none 0 0] 26) := ⟨_, rfl⟩
    have hsy : Since w y := by rw [hy]; exact (Since.refl w).alloc _
    have BR : Hid (Blk y w.heap.size 26 #[.slice none 0 0]) := by rw [hy]; exact Blk.new rfl _ _
    have hgl : g < w.heap.size := hB.lt
    obtain ⟨⟨x0, x1, x2, x3, x4, x5⟩, _⟩ := (BX.out.since hsy).all6
    rw [hy] at x0 x1 x2 x3 x4 x5
    have HY := Lib.hid hy
    clear htin hB hL hR hlen hy
    have HD : Hid (derT c (Tr.node ⟨2, lr, lo, hi⟩ l r) = [leafK 1]) := by unfold Hid; simp [derT]
    clear hcase
    go_enter Tryd.func80, Tryd.ntmps80
    go_upto_region 1 with fail
    go_region
    go_wp2_with fail
    try rw [← HY.out]
    refine (leaf_any 1 _ (by decide)).mono ?_
    rintro e w9 ⟨v, rfl, ⟨b9, rfl, ho, _⟩, hs9⟩
    have hs9 : Since y w9 := by first | exact Since.of_drew hs9 | exact hs9
    clear x0 x1 x2 x3 x4 x5
    obtain ⟨ro, N, rc, hN, rfl⟩ := ho.lenN
    have HO : Hid (OwnK w.heap.size w9 (.slice ro N rc) _) := ho.mono hsy.size
    have hcc := hsy.trans hs9
    have BR9 := Lib.hid (BR.out.since hs9)
    clear ho
    obtain ⟨r0, r1⟩ := BR9.out.one
    go_wp2_with fail
    refine bodyPost_ret (v := .agg #[.slice ro N rc]) (by simp [results, Tryd.results80, go_sem, *]) rfl ?_
    rw [HD.out]
    exact xout_boxT HO.out hcc BR9.out (by decide) (Nat.le_refl _) _
set_option maxHeartbeats 4000000 in
set_option maxRecDepth 100000 in
theorem derI_letter (c lr lo hi : Int) (l r : Tr) (hl : DerI c l) (hr : DerI c r) : DerI c (.node ⟨3, lr, lo, hi⟩ l r) := by
    intro a0 b0 v w hv hok hlen
    obtain ⟨htok, hcase⟩ := hok
    have HT0 := Lib.hid hv
    obtain ⟨htin, g, lv, rv, a, b, c0, d, rfl, hg, hB, _, _, _, _, hL, hR⟩ := hv
    have hll : l.len + r.len + 1 ≤ 400 := hlen
    have HL := Lib.hid hL
    have HR := Lib.hid hR
    obtain ⟨pl, rfl⟩ := hL.isPtr
    obtain ⟨pr, rfl⟩ := hR.isPtr
    have BX := Lib.hid hB
    rw [opN_of] at hcase
    unfold ncells at BX
    dsimp only at BX
    obtain ⟨y, hy⟩ : ∃ y, y = w.alloc (.cells #[.slice none 0 0] 26) := ⟨_, rfl⟩
    have hsy : Since w y := by rw [hy]; exact (Since.refl w).alloc _
    have BR : Hid (Blk y w.heap.size 26 #[.slice none 0 0]) := by rw [hy]; exact Blk.new rfl _ _
    have hgl : g < w.heap.size := hB.lt
    obtain ⟨⟨x0, x1, x2, x3, x4, x5⟩, _⟩ := (BX.out.since hsy).all6
    rw [hy] at x0 x1 x2 x3 x4 x5
    have HY := Lib.hid hy
    clear htin hB hL hR hlen hy
    clear hcase
    by_cases hc : lr = c
    · have HD : Hid (derT c (Tr.node ⟨3, lr, lo, hi⟩ l r) = [leafK 2]) := by unfold Hid; simp [derT, hc]
      have ec : (lr == c) = true := by simp [hc]
      clear hc
      go_enter Tryd.func80, Tryd.ntmps80
      go_upto_region 1 with fail
      go_region
      go_wp2_with fail
      try rw [← HY.out]
      refine (leaf_any 2 _ (by decide)).mono ?_
      rintro e w9 ⟨v, rfl, ⟨b9, rfl, ho, _⟩, hs9⟩
      have hs9 : Since y w9 := by first | exact Since.of_drew hs9 | exact hs9
      clear x0 x1 x2 x3 x4 x5
      obtain ⟨ro, N, rc, hN, rfl⟩ := ho.lenN
      have HO : Hid (OwnK w.heap.size w9 (.slice ro N rc) _) := ho.mono hsy.size
      have hcc := hsy.trans hs9
      have BR9 := Lib.hid (BR.out.since hs9)
      clear ho
      obtain ⟨r0, r1⟩ := BR9.out.one
      go_wp2_with fail
      refine bodyPost_ret (v := .agg #[.slice ro N rc]) (by simp [results, Tryd.results80, go_sem, *]) rfl ?_
      rw [HD.out]
      exact xout_boxT HO.out hcc BR9.out (by decide) (Nat.le_refl _) _
    · have HD : Hid (derT c (Tr.node ⟨3, lr, lo, hi⟩ l r) = [leafK 1]) := by unfold Hid; simp [derT, hc]
      have ec : (lr == c) = false := by simp [hc]
      clear hc
      go_enter Tryd.func80, Tryd.ntmps80
      go_upto_region 1 with fail
      go_region
      go_wp2_with fail
      try rw [← HY.out]
      refine (leaf_any 1 _ (by decide)).mono ?_
      rintro e w9 ⟨v, rfl, ⟨b9, rfl, ho, _⟩, hs9⟩
      have hs9 : Since y w9 := by first | exact Since.of_drew hs9 | exact hs9
      clear x0 x1 x2 x3 x4 x5
      obtain ⟨ro, N, rc, hN, rfl⟩ := ho.lenN
      have HO : Hid (OwnK w.heap.size w9 (.slice ro N rc) _) := ho.mono hsy.size
      have hcc := hsy.trans hs9
      have BR9 := Lib.hid (BR.out.since hs9)
      clear ho
      obtain ⟨r0, r1⟩ := BR9.out.one
      go_wp2_with fail
      refine bodyPost_ret (v := .agg #[.slice ro N rc]) (by simp [results, Tryd.results80, go_sem, *]) rfl ?_
      rw [HD.out]
      exact xout_boxT HO.out hcc BR9.out (by decide) (Nat.le_refl _) _
set_option maxHeartbeats 4000000 in
set_option maxRecDepth 100000 in
theorem derI_star (c lr lo hi : Int) (l r : Tr) (hl : DerI c l) (hr : DerI c r) : DerI c (.node ⟨6, lr, lo, hi⟩ l r) := by
    intro a0 b0 v w hv hok hlen
    obtain ⟨htok, hcase⟩ := hok
    have HT0 := Lib.hid hv
    obtain ⟨htin, g, lv, rv, a, b, c0, d, rfl, hg, hB, _, _, _, _, hL, hR⟩ := hv
    have hll : l.len + r.len + 1 ≤ 400 := hlen
    have HL := Lib.hid hL
    have HR := Lib.hid hR
    obtain ⟨pl, rfl⟩ := hL.isPtr
    obtain ⟨pr, rfl⟩ := hR.isPtr
    have BX := Lib.hid hB
    rw [opN_of] at hcase
    unfold ncells at BX
    dsimp only at BX
    obtain ⟨y, hy⟩ : ∃ y, y = w.alloc (.cells #[.slice none 0 0] 26) := ⟨_, rfl⟩
    have hsy : Since w y := by rw [hy]; exact (Since.refl w).alloc _
    have BR : Hid (Blk y w.heap.size 26 #[.slice none 0 0]) := by rw [hy]; exact Blk.new rfl _ _
    have hgl : g < w.heap.size := hB.lt
    obtain ⟨⟨x0, x1, x2, x3, x4, x5⟩, _⟩ := (BX.out.since hsy).all6
    rw [hy] at x0 x1 x2 x3 x4 x5
    have HY := Lib.hid hy
    clear htin hB hL hR hlen hy
    have HPN : Hid ((Tr.node ⟨6, lr, lo, hi⟩ l r).post.length ≤ 400) := by unfold Hid; rw [post_len]; exact hll
    obtain ⟨hlo, rfl⟩ : l.ok ∧ r = .nil := by
      rcases hcase with ⟨h0, _⟩ | ⟨_, a, b⟩ | ⟨h2, _⟩
      · simp at h0
      · exact ⟨a, b⟩
      · simp at h2
    have hdl : (derT c l).length ≤ 160000 := derT_400 c hlo (by omega)
    have hpl : l.post.length ≤ 400 := by rw [post_len]; omega
    clear hcase
    have HD : Hid (derT c (Tr.node ⟨6, lr, lo, hi⟩ l .nil) = catX (derT c l) (Tr.node ⟨6, lr, lo, hi⟩ l .nil).post) := by unfold Hid; simp [derT]
    go_enter Tryd.func80, Tryd.ntmps80
    go_upto_region 1 with fail
    go_region
    go_wp2_with fail
    try rw [← HY.out]
    have hyd : Since w y.drew := hsy.drew
    have BRd := Lib.hid (BR.out.drew)
    clear x0 x1 x2 x3 x4 x5
    first
    | (refine (hl a b _ _ (HL.out.since hyd) hlo (by omega)).mono ?_)
    | (refine (hl a b _ _ (HL.out.since hsy) hlo (by omega)).mono ?_)
    rintro e w3 ⟨v3, rfl, ⟨b3, rfl, ho3, _⟩, hs3⟩
    obtain ⟨uo, un, uc, huN, rfl⟩ := ho3.lenN
    have hs3y : Since y w3 := by first | exact Since.of_drew hs3 | exact hs3
    have HO3 := Lib.hid ho3
    have hyw3 := hsy.trans hs3y
    have BR3 := Lib.hid (BR.out.since hs3y)
    clear ho3 hs3
    go_wp2_with fail
    refine (nodeExpr_any _ a0 b0 _ _ (HT0.out.since hyw3) (by show l.len + Tr.nil.len + 1 ≤ _; omega)).mono ?_
    rintro e w4 ⟨v4, rfl, ⟨b4, rfl, ho4, _⟩, hs4⟩
    obtain ⟨qo, qn, qc, hqN, rfl⟩ := ho4.lenN
    have HO4 := Lib.hid ho4
    have HO34 := Lib.hid (HO3.out.since hs4)
    have BR4 := Lib.hid (BR3.out.since hs4)
    have hyw4 := hyw3.trans hs4
    clear ho4
    go_wp2_with fail
    refine (implCE_any _ _ (derT c l) (Tr.node ⟨6, lr, lo, hi⟩ l .nil).post _ ⟨_, rfl, HO34.out.at⟩ ⟨_, rfl, HO4.out.at⟩ (by omega) (by have := HPN.out; omega)).mono ?_
    rintro e w9 ⟨v, rfl, ⟨b9, rfl, ho, _⟩, hs9⟩
    obtain ⟨ro, N, rc, hN, rfl⟩ := ho.lenN
    have HO : Hid (OwnK w.heap.size w9 (.slice ro N rc) _) := ho.mono hyw4.size
    have hcc := hyw4.trans hs9
    have BR9 := Lib.hid (BR4.out.since hs9)
    clear ho
    obtain ⟨r0, r1⟩ := BR9.out.one
    go_wp2_with fail
    refine bodyPost_ret (v := .agg #[.slice ro N rc]) (by simp [results, Tryd.results80, go_sem, *]) rfl ?_
    rw [HD.out]
    exact xout_boxT HO.out hcc BR9.out (by decide) (Nat.le_refl _) _
end Go.Proofs.YtiojgahjfndmdaaDoor

/- Derivatives of trees, the program's: concatenations. -/
namespace Go.Proofs.YtiojgahjfndmdaaDoor
set_option maxRecDepth 100000
open Go.ChangeShapes Go.WideShapes Go.ChangeAt Go.RowKit
set_option linter.unusedVariables false
set_option linter.unusedSimpArgs false


set_option maxHeartbeats 4000000 in
set_option maxRecDepth 100000 in
theorem derI_cat (c lr lo hi : Int) (l r : Tr) (hl : DerI c l) (hr : DerI c r) : DerI c (.node ⟨4, lr, lo, hi⟩ l r) := by
    intro a0 b0 v w hv hok hlen
    obtain ⟨htok, hcase⟩ := hok
    have HT0 := Lib.hid hv
    obtain ⟨htin, g, lv, rv, a, b, c0, d, rfl, hg, hB, _, _, _, _, hL, hR⟩ := hv
    have hll : l.len + r.len + 1 ≤ 400 := hlen
    have HL := Lib.hid hL
    have HR := Lib.hid hR
    obtain ⟨pl, rfl⟩ := hL.isPtr
    obtain ⟨pr, rfl⟩ := hR.isPtr
    have BX := Lib.hid hB
    rw [opN_of] at hcase
    unfold ncells at BX
    dsimp only at BX
    obtain ⟨y, hy⟩ : ∃ y, y = w.alloc (.cells #[.slice none 0 0] 26) := ⟨_, rfl⟩
    have hsy : Since w y := by rw [hy]; exact (Since.refl w).alloc _
    have BR : Hid (Blk y w.heap.size 26 #[.slice none 0 0]) := by rw [hy]; exact Blk.new rfl _ _
    have hgl : g < w.heap.size := hB.lt
    obtain ⟨⟨x0, x1, x2, x3, x4, x5⟩, _⟩ := (BX.out.since hsy).all6
    rw [hy] at x0 x1 x2 x3 x4 x5
    have HY := Lib.hid hy
    clear htin hB hL hR hlen hy
    obtain ⟨hlo, hro⟩ : l.ok ∧ r.ok := by
      rcases hcase with ⟨h0, _⟩ | ⟨h1, _⟩ | ⟨_, a, b⟩
      · simp at h0
      · simp at h1
      · exact ⟨a, b⟩
    have hdl : (derT c l).length ≤ 160000 := derT_400 c hlo (by omega)
    have hdr : (derT c r).length ≤ 160000 := derT_400 c hro (by omega)
    have hpr : r.post.length ≤ 400 := by rw [post_len]; omega
    clear hcase
    go_enter Tryd.func80, Tryd.ntmps80
    go_upto_region 1 with fail
    go_region
    go_wp2_with fail
    try rw [← HY.out]
    have hyd : Since w y.drew := hsy.drew
    clear x0 x1 x2 x3 x4 x5
    first
    | (refine (hl a b _ _ (HL.out.since hyd) hlo (by omega)).mono ?_)
    | (refine (hl a b _ _ (HL.out.since hsy) hlo (by omega)).mono ?_)
    rintro e w3 ⟨v3, rfl, ⟨b3, rfl, ho3, _⟩, hs3⟩
    obtain ⟨uo, un, uc, huN, rfl⟩ := ho3.lenN
    have hs3y : Since y w3 := by first | exact Since.of_drew hs3 | exact hs3
    have HO3 := Lib.hid ho3
    have hyw3 := hsy.trans hs3y
    have BR3 := Lib.hid (BR.out.since hs3y)
    clear ho3 hs3
    go_wp2_with fail
    refine (nodeExpr_any _ c0 d _ _ (HR.out.since hyw3) (by omega)).mono ?_
    rintro e w4 ⟨v4, rfl, ⟨b4, rfl, ho4, _⟩, hs4⟩
    obtain ⟨qo, qn, qc, hqN, rfl⟩ := ho4.lenN
    have HO4 := Lib.hid ho4
    have HO34 := Lib.hid (HO3.out.since hs4)
    have BR4 := Lib.hid (BR3.out.since hs4)
    have hyw4 := hyw3.trans hs4
    clear ho4
    go_wp2_with fail
    refine (implCE_any _ _ (derT c l) r.post _ ⟨_, rfl, HO34.out.at⟩ ⟨_, rfl, HO4.out.at⟩ (by omega) (by omega)).mono ?_
    rintro e w5 ⟨v, rfl, ⟨b9, rfl, ho, _⟩, hs5⟩
    obtain ⟨xo, xn, xc, hxN, rfl⟩ := ho.lenN
    have HO5 : Hid (OwnK w.heap.size w5 (.slice xo xn xc) (catX (derT c l) r.post)) := ho.mono hyw4.size
    have hyw5 := hyw4.trans hs5
    have BR5 := Lib.hid (BR4.out.since hs5)
    clear ho
    obtain ⟨A, hA⟩ : ∃ A, A = w5.heap.size := ⟨_, rfl⟩
    have hA2 : w.heap.size < A := by rw [hA]; exact BR5.out.lt
    obtain ⟨y6, hy6⟩ : ∃ y6, y6 = w5.alloc (.cells #[.slice xo xn xc] 26) := ⟨_, rfl⟩
    have al6 : Since w5 y6 := by rw [hy6]; exact (Since.refl w5).alloc _
    have BX6 : Hid (Blk y6 A 26 #[.slice xo xn xc]) := by rw [hy6, hA]; exact Blk.new rfl _ _
    have BR6 := Lib.hid (BR5.out.since al6)
    have HO6 := Lib.hid (HO5.out.since al6)
    have hyw6 := hyw5.trans al6
    have HY6 := Lib.hid hy6
    have HAA := Lib.hid hA
    clear hy6 hA HO5 BR5
    go_wp2_with fail
    rw [← HY6.out]
    try rw [← HAA.out]
    refine (isNullable_any l a b _ _ (HL.out.since hyw6) hlo).mono ?_
    rintro e w7 ⟨rfl, hs7⟩
    have BX7 := Lib.hid (BX6.out.since hs7)
    have BR7 := Lib.hid (BR6.out.since hs7)
    have HO7 := Lib.hid (HO6.out.since hs7)
    have c7 := hyw6.trans hs7
    obtain ⟨nl, hnl⟩ : ∃ nl, nl = nulT l := ⟨_, rfl⟩
    rw [← hnl]
    have HNL := Lib.hid hnl
    clear hnl
    cases nl with
    | false =>
      have HD : Hid (derT c (Tr.node ⟨4, lr, lo, hi⟩ l r) = catX (derT c l) r.post) := by unfold Hid; simp [derT, ← HNL.out]
      obtain ⟨p0, p1⟩ := BX7.out.one
      obtain ⟨r0, r1⟩ := BR7.out.one
      go_wp2
      refine bodyPost_ret (v := .agg #[.slice xo xn xc]) (by simp [results, Tryd.results80, go_sem, *]) rfl ?_
      rw [HD.out]
      exact xout_boxT HO7.out c7 BR7.out (by decide) (Nat.le_refl _) _
    | true =>
      have HD : Hid (derT c (Tr.node ⟨4, lr, lo, hi⟩ l r) = uniX (catX (derT c l) r.post) (derT c r)) := by unfold Hid; simp [derT, ← HNL.out]
      go_upto_region 10 with fail
      have HKC : Hid (∀ w', Blk w' A 26 #[.slice xo xn xc] → w'.cell? ⟨A, 0, none⟩ = some (.slice xo xn xc)) := by
        intro w' hb0
        obtain ⟨r00, _⟩ := hb0.one
        exact r00
      refine wp_region_held_drew (S := (fun w' => w'.cell? ⟨A, 0, none⟩ = some (.slice xo xn xc))) (by kernel_rfl) (HKC.out _ (BX7.out.drew)) (fun hHeld => ?_)
      refine take_yes 0 (some 45) (v := ?_) rfl (by kernel_rfl) (by kernel_rfl) (by kernel_rfl) (by kernel_rfl) (fun _ _ _ h => h) (by rfl) (by assumption) ?_ ?_
      rotate_left
      · (intro w' hSw; (try dsimp only at hSw); go_simp; try with_reducible rfl)
      try simp only [Act.put, List.setIfInBounds_toArray, List.set_cons_zero, List.set_cons_succ]
      refine take_yes 1 (some 46) (v := ?_) rfl (by kernel_rfl) (by kernel_rfl) (by kernel_rfl) (by kernel_rfl) (fun _ _ _ h => h) (by rfl) (by assumption) ?_ ?_
      rotate_left
      · (intro w' hSw; (try dsimp only at hSw); go_simp; try with_reducible rfl)
      try simp only [Act.put, List.setIfInBounds_toArray, List.set_cons_zero, List.set_cons_succ]
      refine take_yes 2 (some 47) (v := ?_) rfl (by kernel_rfl) (by kernel_rfl) (by kernel_rfl) (by kernel_rfl) (fun _ _ _ h => h) (by rfl) (by assumption) ?_ ?_
      rotate_left
      · (intro w' hSw; (try dsimp only at hSw); go_simp; try with_reducible rfl)
      try simp only [Act.put, List.setIfInBounds_toArray, List.set_cons_zero, List.set_cons_succ]
      refine take_run 3 rfl (by kernel_rfl) (by rfl) (fun K hK => ?_)
      have dr_6 : Since w7 w7.drew := (Since.refl _).drew
      have c_7 := Since.trans c7 dr_6
      have M_8 := Lib.hid (BX7.out.since dr_6)
      clear BX7
      have M_9 := Lib.hid (BR7.out.since dr_6)
      clear BR7
      have M_10 := Lib.hid (HO7.out.since dr_6)
      clear HO7
      clear dr_6
      go_simp
      refine (hr c0 d _ _ (HR.out.since c_7) hro (by omega)).mono ?_
      rintro en q_1 ⟨v_2, rfl, ⟨v_2b, rfl, ho_3, _⟩, hs_4⟩
      obtain ⟨x_5o, x_5n, x_5c, x_5N, rfl⟩ := ho_3.lenN
      have O_11 := Lib.hid (ho_3.mono (base' := w.heap.size) c_7.size)
      clear ho_3
      have c_12 := Since.trans c_7 hs_4
      have M_13 := Lib.hid (M_8.out.since hs_4)
      clear M_8
      have M_14 := Lib.hid (M_9.out.since hs_4)
      clear M_9
      have M_15 := Lib.hid (M_10.out.since hs_4)
      clear M_10
      clear hs_4
      refine hK.out _ _ (HKC.out _ M_13.out) (fun hHeld_16 => ?_)
      clear hK K hHeld
      try simp only [Act.put, List.setIfInBounds_toArray, List.set_cons_zero, List.set_cons_succ]
      refine take_run 4 rfl (by kernel_rfl) (by rfl) (fun K hK => ?_)
      go_simp
      refine (implUE_any _ _ (catX (derT c l) r.post) (derT c r) _ ⟨_, rfl, M_15.out.at⟩ ⟨_, rfl, O_11.out.at⟩ (by have := catX_len (derT c l) r.post; omega) (by omega)).mono ?_
      rintro en q_17 ⟨v_18, rfl, ⟨v_18b, rfl, ho_19, _⟩, hs_20⟩
      obtain ⟨Z_21o, Z_21n, Z_21c, Z_21N, rfl⟩ := ho_19.lenN
      have O_22 := Lib.hid (ho_19.mono (base' := w.heap.size) c_12.size)
      clear ho_19
      have c_23 := Since.trans c_12 hs_20
      have M_24 := Lib.hid (M_13.out.since hs_20)
      clear M_13
      have M_25 := Lib.hid (M_14.out.since hs_20)
      clear M_14
      have M_26 := Lib.hid (M_15.out.since hs_20)
      clear M_15
      have M_27 := Lib.hid (O_11.out.since hs_20)
      clear O_11
      clear hs_20
      refine hK.out _ _ (HKC.out _ M_24.out) (fun hHeld_28 => ?_)
      clear hK K hHeld_16
      try simp only [Act.put, List.setIfInBounds_toArray, List.set_cons_zero, List.set_cons_succ]
      refine take_run 5 rfl (by kernel_rfl) (by rfl) (fun K hK => ?_)
      obtain ⟨q0, q1⟩ := M_25.out.one
      go_simp
      clear q0 q1
      have c_29 := Since.setCell c_23 (a := ⟨w.heap.size, 0, none⟩) (by show w.heap.size ≤ w.heap.size; omega) (.slice Z_21o Z_21n Z_21c)
      have M_31 := Lib.hid (M_26.out.farT M_25.out (by decide) 0 (.slice Z_21o Z_21n Z_21c))
      clear M_26
      have M_32 := Lib.hid (M_27.out.farT M_25.out (by decide) 0 (.slice Z_21o Z_21n Z_21c))
      clear M_27
      have M_33 := Lib.hid (O_22.out.farT M_25.out (by decide) 0 (.slice Z_21o Z_21n Z_21c))
      clear O_22
      have M_34 := Lib.hid (M_24.out.far (p := ⟨w.heap.size, 0, none⟩) (by show A ≠ w.heap.size; omega) (.slice Z_21o Z_21n Z_21c))
      clear M_24
      have B_35 := Lib.hid (M_25.out.set 0 (.slice Z_21o Z_21n Z_21c))
      clear M_25
      refine hK.out _ _ (HKC.out _ M_34.out) (fun hHeld_36 => ?_)
      clear hK K hHeld_28
      try simp only [Act.put, List.setIfInBounds_toArray, List.set_cons_zero, List.set_cons_succ]
      generalize q_17.setCell ⟨w.heap.size, 0, none⟩ (.slice Z_21o Z_21n Z_21c) = wS_30 at M_34 B_35 M_31 M_32 M_33 c_29 hHeld_36 ⊢
      refine wpAnyH_done (by kernel_rfl) ?_ _
      clear hHeld_36
      obtain ⟨r0, r1⟩ := B_35.out.one
      go_wp2
      refine bodyPost_ret (v := .agg #[.slice Z_21o Z_21n Z_21c]) (by simp [results, Tryd.results80, go_sem, *]) rfl ?_
      rw [HD.out]
      exact xout_mk M_33.out c_29
end Go.Proofs.YtiojgahjfndmdaaDoor

/- Derivatives of trees, the program's: unions. -/
namespace Go.Proofs.YtiojgahjfndmdaaDoor
set_option maxRecDepth 100000
open Go.ChangeShapes Go.WideShapes Go.ChangeAt Go.RowKit
set_option linter.unusedVariables false
set_option linter.unusedSimpArgs false


set_option maxHeartbeats 4000000 in
set_option maxRecDepth 100000 in
theorem derI_uni (c lr lo hi : Int) (l r : Tr) (hl : DerI c l) (hr : DerI c r) : DerI c (.node ⟨5, lr, lo, hi⟩ l r) := by
    intro a0 b0 v w hv hok hlen
    obtain ⟨htok, hcase⟩ := hok
    have HT0 := Lib.hid hv
    obtain ⟨htin, g, lv, rv, a, b, c0, d, rfl, hg, hB, _, _, _, _, hL, hR⟩ := hv
    have hll : l.len + r.len + 1 ≤ 400 := hlen
    have HL := Lib.hid hL
    have HR := Lib.hid hR
    obtain ⟨pl, rfl⟩ := hL.isPtr
    obtain ⟨pr, rfl⟩ := hR.isPtr
    have BX := Lib.hid hB
    rw [opN_of] at hcase
    unfold ncells at BX
    dsimp only at BX
    obtain ⟨y, hy⟩ : ∃ y, y = w.alloc (.cells #[.slice none 0 0] 26) := ⟨_, rfl⟩
    have hsy : Since w y := by rw [hy]; exact (Since.refl w).alloc _
    have BR : Hid (Blk y w.heap.size 26 #[.slice none 0 0]) := by rw [hy]; exact Blk.new rfl _ _
    have hgl : g < w.heap.size := hB.lt
    obtain ⟨⟨x0, x1, x2, x3, x4, x5⟩, _⟩ := (BX.out.since hsy).all6
    rw [hy] at x0 x1 x2 x3 x4 x5
    have HY := Lib.hid hy
    clear htin hB hL hR hlen hy
    obtain ⟨hlo, hro⟩ : l.ok ∧ r.ok := by
      rcases hcase with ⟨h0, _⟩ | ⟨h1, _⟩ | ⟨_, a, b⟩
      · simp at h0
      · simp at h1
      · exact ⟨a, b⟩
    have hdl : (derT c l).length ≤ 160000 := derT_400 c hlo (by omega)
    have hdr : (derT c r).length ≤ 160000 := derT_400 c hro (by omega)
    have hpr : r.post.length ≤ 400 := by rw [post_len]; omega
    clear hcase
    have HD : Hid (derT c (Tr.node ⟨5, lr, lo, hi⟩ l r) = uniX (derT c l) (derT c r)) := by unfold Hid; simp [derT]
    go_enter Tryd.func80, Tryd.ntmps80
    go_upto_region 1 with fail
    go_region
    go_wp2_with fail
    try rw [← HY.out]
    have hyd : Since w y.drew := hsy.drew
    clear x0 x1 x2 x3 x4 x5
    first
    | (refine (hl a b _ _ (HL.out.since hyd) hlo (by omega)).mono ?_)
    | (refine (hl a b _ _ (HL.out.since hsy) hlo (by omega)).mono ?_)
    rintro e w3 ⟨v3, rfl, ⟨b3, rfl, ho3, _⟩, hs3⟩
    obtain ⟨uo, un, uc, huN, rfl⟩ := ho3.lenN
    have hs3y : Since y w3 := by first | exact Since.of_drew hs3 | exact hs3
    have HO3 := Lib.hid ho3
    have hyw3 := hsy.trans hs3y
    have BR3 := Lib.hid (BR.out.since hs3y)
    clear ho3 hs3
    go_wp2_with fail
    refine (hr c0 d _ _ (HR.out.since hyw3) hro (by omega)).mono ?_
    rintro e w4 ⟨v4, rfl, ⟨b4, rfl, ho4, _⟩, hs4⟩
    obtain ⟨qo, qn, qc, hqN, rfl⟩ := ho4.lenN
    have HO4 := Lib.hid ho4
    have HO34 := Lib.hid (HO3.out.since hs4)
    have BR4 := Lib.hid (BR3.out.since hs4)
    have hyw4 := hyw3.trans hs4
    clear ho4
    go_wp2_with fail
    refine (implUE_any _ _ (derT c l) (derT c r) _ ⟨_, rfl, HO34.out.at⟩ ⟨_, rfl, HO4.out.at⟩ (by omega) (by omega)).mono ?_
    rintro e w9 ⟨v, rfl, ⟨b9, rfl, ho, _⟩, hs9⟩
    obtain ⟨ro, N, rc, hN, rfl⟩ := ho.lenN
    have HO : Hid (OwnK w.heap.size w9 (.slice ro N rc) _) := ho.mono hyw4.size
    have hcc := hyw4.trans hs9
    have BR9 := Lib.hid (BR4.out.since hs9)
    clear ho
    obtain ⟨r0, r1⟩ := BR9.out.one
    go_wp2_with fail
    refine bodyPost_ret (v := .agg #[.slice ro N rc]) (by simp [results, Tryd.results80, go_sem, *]) rfl ?_
    rw [HD.out]
    exact xout_boxT HO.out hcc BR9.out (by decide) (Nat.le_refl _) _
end Go.Proofs.YtiojgahjfndmdaaDoor

/- Derivatives of trees, the program's: repetitions. -/
namespace Go.Proofs.YtiojgahjfndmdaaDoor
set_option maxRecDepth 100000
open Go.ChangeShapes Go.WideShapes Go.ChangeAt Go.RowKit
set_option linter.unusedVariables false
set_option linter.unusedSimpArgs false


set_option maxHeartbeats 4000000 in
set_option maxRecDepth 100000 in
theorem derI_rep (c lr lo hi : Int) (l r : Tr) (hl : DerI c l) (hr : DerI c r) : DerI c (.node ⟨7, lr, lo, hi⟩ l r) := by
    intro a0 b0 v w hv hok hlen
    obtain ⟨htok, hcase⟩ := hok
    have HT0 := Lib.hid hv
    obtain ⟨htin, g, lv, rv, a, b, c0, d, rfl, hg, hB, _, _, _, _, hL, hR⟩ := hv
    have hll : l.len + r.len + 1 ≤ 400 := hlen
    have HL := Lib.hid hL
    have HR := Lib.hid hR
    obtain ⟨pl, rfl⟩ := hL.isPtr
    obtain ⟨pr, rfl⟩ := hR.isPtr
    have BX := Lib.hid hB
    rw [opN_of] at hcase
    unfold ncells at BX
    dsimp only at BX
    obtain ⟨y, hy⟩ : ∃ y, y = w.alloc (.cells #[.slice none 0 0] 26) := ⟨_, rfl⟩
    have hsy : Since w y := by rw [hy]; exact (Since.refl w).alloc _
    have BR : Hid (Blk y w.heap.size 26 #[.slice none 0 0]) := by rw [hy]; exact Blk.new rfl _ _
    have hgl : g < w.heap.size := hB.lt
    obtain ⟨⟨x0, x1, x2, x3, x4, x5⟩, _⟩ := (BX.out.since hsy).all6
    rw [hy] at x0 x1 x2 x3 x4 x5
    have HY := Lib.hid hy
    clear htin hB hL hR hlen hy
    obtain ⟨hlo, rfl⟩ : l.ok ∧ r = .nil := by
      rcases hcase with ⟨h0, _⟩ | ⟨_, a, b⟩ | ⟨h2, _⟩
      · simp at h0
      · exact ⟨a, b⟩
      · simp at h2
    have hdl : (derT c l).length ≤ 160000 := derT_400 c hlo (by omega)
    have hpl : l.post.length ≤ 400 := by rw [post_len]; omega
    clear hcase
    obtain ⟨k0, k1, k2, k3⟩ := okT_repD htok rfl
    dsimp only at k0 k1 k2 k3
    have HD : Hid (derT c (Tr.node ⟨7, lr, lo, hi⟩ l .nil) = catX (derT c l) (repX l.post (max 0 (lo - 1)) (hi - 1))) := by unfold Hid; simp [derT]
    have HMX : Hid ((if 1 < lo then lo - 1 else 0) = max 0 (lo - 1)) := by unfold Hid; split <;> omega
    have ew1 : IntKind.i64.wrap (lo - 1) = lo - 1 := by rw [IntKind.wrap_i64]; omega
    have ew2 : IntKind.i64.wrap (hi - 1) = hi - 1 := by rw [IntKind.wrap_i64]; omega
    go_enter Tryd.func80, Tryd.ntmps80
    go_upto_region 1 with fail
    go_region
    go_upto_region 16 with fail
    try rw [← HY.out]
    clear x0 x1 x2 x3 x4 x5
    obtain ⟨z, hz⟩ : ∃ z, z = y.drew := ⟨_, rfl⟩
    try rw [← hz]
    have hsz : Since w z := by rw [hz]; exact hsy.drew
    have BZ : Hid (Blk z w.heap.size 26 #[.slice none 0 0]) := by rw [hz]; exact BR.out.drew
    have BXZ := Lib.hid (BX.out.since hsz)
    clear hz
    have HKC : Hid (∀ w', Blk w' g 103 #[.int .i64 7, .int .i64 lr, .int .i64 lo, .int .i64 hi, .pointer pl, .pointer pr] → w'.cell? ⟨g, 0, none⟩ = some (.int .i64 7) ∧ w'.cell? ⟨g, 1, none⟩ = some (.int .i64 lr) ∧ w'.cell? ⟨g, 2, none⟩ = some (.int .i64 lo) ∧ w'.cell? ⟨g, 3, none⟩ = some (.int .i64 hi) ∧ w'.cell? ⟨g, 4, none⟩ = some (.pointer pl) ∧ w'.cell? ⟨g, 5, none⟩ = some (.pointer pr)) := by
      intro w' hb0
      obtain ⟨⟨r00, r01, r02, r03, r04, r05⟩, _⟩ := hb0.all6
      exact ⟨r00, r01, r02, r03, r04, r05⟩
    refine wp_region_held_drew (S := (fun w' => w'.cell? ⟨g, 0, none⟩ = some (.int .i64 7) ∧ w'.cell? ⟨g, 1, none⟩ = some (.int .i64 lr) ∧ w'.cell? ⟨g, 2, none⟩ = some (.int .i64 lo) ∧ w'.cell? ⟨g, 3, none⟩ = some (.int .i64 hi) ∧ w'.cell? ⟨g, 4, none⟩ = some (.pointer pl) ∧ w'.cell? ⟨g, 5, none⟩ = some (.pointer pr))) (by kernel_rfl) (HKC.out _ (BXZ.out.drew)) (fun hHeld => ?_)
    refine take_yes 0 (some 69) (v := ?_) rfl (by kernel_rfl) (by kernel_rfl) (by kernel_rfl) (by kernel_rfl) (fun _ _ _ h => h) (by rfl) (by assumption) ?_ ?_
    rotate_left
    · (intro w' hSw; (try dsimp only at hSw); go_simp; try with_reducible rfl)
    try simp only [Act.put, List.setIfInBounds_toArray, List.set_cons_zero, List.set_cons_succ]
    refine take_yes 2 (some 71) (v := ?_) rfl (by kernel_rfl) (by kernel_rfl) (by kernel_rfl) (by kernel_rfl) (fun _ _ _ h => h) (by rfl) (by assumption) ?_ ?_
    rotate_left
    · (intro w' hSw; (try dsimp only at hSw); go_simp; try with_reducible rfl)
    try simp only [Act.put, List.setIfInBounds_toArray, List.set_cons_zero, List.set_cons_succ]
    refine take_yes 3 (some 72) (v := ?_) rfl (by kernel_rfl) (by kernel_rfl) (by kernel_rfl) (by kernel_rfl) (fun _ _ _ h => h) (by rfl) (by assumption) ?_ ?_
    rotate_left
    · (intro w' hSw; (try dsimp only at hSw); go_simp; try with_reducible rfl)
    try simp only [Act.put, List.setIfInBounds_toArray, List.set_cons_zero, List.set_cons_succ]
    refine take_yes 4 (some 73) (v := ?_) rfl (by kernel_rfl) (by kernel_rfl) (by kernel_rfl) (by kernel_rfl) (fun _ _ _ h => h) (by rfl) (by assumption) ?_ ?_
    rotate_left
    · (intro w' hSw; (try dsimp only at hSw); go_simp; try with_reducible rfl)
    try simp only [Act.put, List.setIfInBounds_toArray, List.set_cons_zero, List.set_cons_succ]
    refine take_yes 5 (some 74) (v := ?_) rfl (by kernel_rfl) (by kernel_rfl) (by kernel_rfl) (by kernel_rfl) (fun _ _ _ h => h) (by rfl) (by assumption) ?_ ?_
    rotate_left
    · (intro w' hSw; (try dsimp only at hSw); go_simp; try with_reducible rfl)
    try simp only [Act.put, List.setIfInBounds_toArray, List.set_cons_zero, List.set_cons_succ]
    refine take_yes 6 (some 75) (v := ?_) rfl (by kernel_rfl) (by kernel_rfl) (by kernel_rfl) (by kernel_rfl) (fun _ _ _ h => h) (by rfl) (by assumption) ?_ ?_
    rotate_left
    · (intro w' hSw; (try dsimp only at hSw); go_simp; try with_reducible rfl)
    try simp only [Act.put, List.setIfInBounds_toArray, List.set_cons_zero, List.set_cons_succ]
    refine take_yes 7 (some 76) (v := ?_) rfl (by kernel_rfl) (by kernel_rfl) (by kernel_rfl) (by kernel_rfl) (fun _ _ _ h => h) (by rfl) (by assumption) ?_ ?_
    rotate_left
    · (intro w' hSw; (try dsimp only at hSw); go_simp; try with_reducible rfl)
    try simp only [Act.put, List.setIfInBounds_toArray, List.set_cons_zero, List.set_cons_succ]
    refine take_yes 9 (some 78) (v := ?_) rfl (by kernel_rfl) (by kernel_rfl) (by kernel_rfl) (by kernel_rfl) (fun _ _ _ h => h) (by rfl) (by assumption) ?_ ?_
    rotate_left
    · (intro w' hSw; (try dsimp only at hSw); go_simp; try with_reducible rfl)
    try simp only [Act.put, List.setIfInBounds_toArray, List.set_cons_zero, List.set_cons_succ]
    refine take_yes 10 (some 79) (v := ?_) rfl (by kernel_rfl) (by kernel_rfl) (by kernel_rfl) (by kernel_rfl) (fun _ _ _ h => h) (by rfl) (by assumption) ?_ ?_
    rotate_left
    · (intro w' hSw; (try dsimp only at hSw); go_simp; try with_reducible rfl)
    try simp only [Act.put, List.setIfInBounds_toArray, List.set_cons_zero, List.set_cons_succ]
    refine take_yes 11 (some 80) (v := ?_) rfl (by kernel_rfl) (by kernel_rfl) (by kernel_rfl) (by kernel_rfl) (fun _ _ _ h => h) (by rfl) (by assumption) ?_ ?_
    rotate_left
    · (intro w' hSw; (try dsimp only at hSw); go_simp; try with_reducible rfl)
    try simp only [Act.put, List.setIfInBounds_toArray, List.set_cons_zero, List.set_cons_succ]
    refine take_yes 12 (some 81) (v := ?_) rfl (by kernel_rfl) (by kernel_rfl) (by kernel_rfl) (by kernel_rfl) (fun _ _ _ h => h) (by rfl) (by assumption) ?_ ?_
    rotate_left
    · (intro w' hSw; (try dsimp only at hSw); go_simp; try with_reducible rfl)
    try simp only [Act.put, List.setIfInBounds_toArray, List.set_cons_zero, List.set_cons_succ]
    refine take_yes 13 (some 82) (v := ?_) rfl (by kernel_rfl) (by kernel_rfl) (by kernel_rfl) (by kernel_rfl) (fun _ _ _ h => h) (by rfl) (by assumption) ?_ ?_
    rotate_left
    · (intro w' hSw; (try dsimp only at hSw); go_simp; try with_reducible rfl)
    try simp only [Act.put, List.setIfInBounds_toArray, List.set_cons_zero, List.set_cons_succ]
    refine take_yes 14 (some 83) (v := ?_) rfl (by kernel_rfl) (by kernel_rfl) (by kernel_rfl) (by kernel_rfl) (fun _ _ _ h => h) (by rfl) (by assumption) ?_ ?_
    rotate_left
    · (intro w' hSw; (try dsimp only at hSw); go_simp; try with_reducible rfl)
    try simp only [Act.put, List.setIfInBounds_toArray, List.set_cons_zero, List.set_cons_succ]
    refine take_three 1 8 16 rfl rfl rfl (by kernel_rfl) (by rfl) (by rfl) (by rfl) (fun K hK => ?_) (fun K hK => ?_) (fun K hK => ?_)
    · skip
      have dr_42 : Since z z.drew := (Since.refl _).drew
      have c_43 := Since.trans hsz dr_42
      have M_44 := Lib.hid (BXZ.out.since dr_42)
      clear BXZ
      have M_45 := Lib.hid (BZ.out.since dr_42)
      clear BZ
      clear dr_42
      go_simp
      refine (nodeExpr_any _ a b _ _ (HL.out.since c_43) (by omega)).mono ?_
      rintro en q_37 ⟨v_38, rfl, ⟨v_38b, rfl, ho_39, _⟩, hs_40⟩
      obtain ⟨e_41o, e_41n, e_41c, e_41N, rfl⟩ := ho_39.lenN
      have O_46 := Lib.hid (ho_39.mono (base' := w.heap.size) c_43.size)
      clear ho_39
      have c_47 := Since.trans c_43 hs_40
      have M_48 := Lib.hid (M_44.out.since hs_40)
      clear M_44
      have M_49 := Lib.hid (M_45.out.since hs_40)
      clear M_45
      clear hs_40
      refine hK.out _ _ (HKC.out _ M_48.out) (fun hHeld_50 => ?_)
      clear hK K hHeld
      try simp only [Act.put, List.setIfInBounds_toArray, List.set_cons_zero, List.set_cons_succ]
      refine take_two 8 16 rfl rfl (by kernel_rfl) (by rfl) (by rfl) (fun K hK => ?_) (fun K hK => ?_)
      · skip
        go_simp
        refine hK.out _ _ (HKC.out _ M_48.out) (fun hHeld_51 => ?_)
        clear hK K hHeld_50
        try simp only [Act.put, List.setIfInBounds_toArray, List.set_cons_zero, List.set_cons_succ]
        refine take_two 15 16 rfl rfl (by kernel_rfl) (by rfl) (by rfl) (fun K hK => ?_) (fun K hK => ?_)
        · skip
          go_simp
          rw [HMX.out]
          refine (implPE8_any _ l.post (max 0 (lo - 1)) (hi - 1) _ ⟨_, rfl, O_46.out.at⟩ (by omega) (by unfold InI; omega) (by unfold InI; omega)).mono ?_
          rintro en q_52 ⟨v_53, rfl, ⟨v_53b, rfl, ho_54, _⟩, hs_55⟩
          obtain ⟨p_56o, p_56n, p_56c, p_56N, rfl⟩ := ho_54.lenN
          have O_57 := Lib.hid (ho_54.mono (base' := w.heap.size) c_47.size)
          clear ho_54
          have c_58 := Since.trans c_47 hs_55
          have M_59 := Lib.hid (M_48.out.since hs_55)
          clear M_48
          have M_60 := Lib.hid (M_49.out.since hs_55)
          clear M_49
          have M_61 := Lib.hid (O_46.out.since hs_55)
          clear O_46
          clear hs_55
          refine hK.out _ _ (HKC.out _ M_59.out) (fun hHeld_62 => ?_)
          clear hK K hHeld_51
          try simp only [Act.put, List.setIfInBounds_toArray, List.set_cons_zero, List.set_cons_succ]
          refine take_run 16 rfl (by kernel_rfl) (by rfl) (fun K hK => ?_)
          go_simp
          have al_64 : Since q_52 (q_52.alloc (.cells #[.slice none 0 0] 26)) := ((Since.refl _).alloc _)
          have B_65 : Hid (Blk (q_52.alloc (.cells #[.slice none 0 0] 26)) q_52.heap.size 26 #[.slice none 0 0]) := (Blk.new rfl _ _ : Blk (q_52.alloc (.cells #[.slice none 0 0] 26)) _ _ _)
          have zA_63 : w.heap.size ≤ q_52.heap.size := c_58.size
          have yA_63_N : g < q_52.heap.size := M_59.out.lt
          have yA_63_R : w.heap.size < q_52.heap.size := M_60.out.lt
          have c_66 := Since.trans c_58 al_64
          have M_67 := Lib.hid (M_59.out.since al_64)
          clear M_59
          have M_68 := Lib.hid (M_60.out.since al_64)
          clear M_60
          have M_69 := Lib.hid (M_61.out.since al_64)
          clear M_61
          have M_70 := Lib.hid (O_57.out.since al_64)
          clear O_57
          clear al_64
          refine hK.out _ _ (HKC.out _ M_67.out) (fun hHeld_71 => ?_)
          clear hK K hHeld_62
          try simp only [Act.put, List.setIfInBounds_toArray, List.set_cons_zero, List.set_cons_succ]
          obtain ⟨A_63, hA_63⟩ : ∃ A, A = q_52.heap.size := ⟨_, rfl⟩
          rw [← hA_63] at B_65 zA_63 yA_63_N yA_63_R
          try rw [← hA_63]
          clear hA_63
          generalize q_52.alloc (.cells #[.slice none 0 0] 26) = wA_72 at M_67 M_68 B_65 M_69 M_70 c_66 hHeld_71 ⊢
          refine take_run 17 rfl (by kernel_rfl) (by rfl) (fun K hK => ?_)
          obtain ⟨q0, q1⟩ := B_65.out.one
          go_simp
          clear q0 q1
          have c_73 := Since.setCell c_66 (a := ⟨A_63, 0, none⟩) (by show w.heap.size ≤ A_63; omega) (.slice p_56o p_56n p_56c)
          have M_75 := Lib.hid (M_69.out.farT B_65.out (by decide) 0 (.slice p_56o p_56n p_56c))
          clear M_69
          have M_76 := Lib.hid (M_70.out.farT B_65.out (by decide) 0 (.slice p_56o p_56n p_56c))
          clear M_70
          have M_77 := Lib.hid (M_67.out.far (p := ⟨A_63, 0, none⟩) (by show g ≠ A_63; omega) (.slice p_56o p_56n p_56c))
          clear M_67
          have M_78 := Lib.hid (M_68.out.far (p := ⟨A_63, 0, none⟩) (by show w.heap.size ≠ A_63; omega) (.slice p_56o p_56n p_56c))
          clear M_68
          have B_79 := Lib.hid (B_65.out.set 0 (.slice p_56o p_56n p_56c))
          clear B_65
          refine hK.out _ _ (HKC.out _ M_77.out) (fun hHeld_80 => ?_)
          clear hK K hHeld_71
          try simp only [Act.put, List.setIfInBounds_toArray, List.set_cons_zero, List.set_cons_succ]
          generalize wA_72.setCell ⟨A_63, 0, none⟩ (.slice p_56o p_56n p_56c) = wS_74 at M_77 M_78 B_79 M_75 M_76 c_73 hHeld_80 ⊢
          refine wpAnyH_done (by kernel_rfl) ?_ _
          clear hHeld_80 HKC
          go_upto_region 17 with fail
          have HKC : Hid (∀ w', Blk w' A_63 26 #[.slice p_56o p_56n p_56c] → w'.cell? ⟨A_63, 0, none⟩ = some (.slice p_56o p_56n p_56c)) := by
            intro w' hb0
            obtain ⟨r00, _⟩ := hb0.one
            exact r00
          refine wp_region_held_drew (S := (fun w' => w'.cell? ⟨A_63, 0, none⟩ = some (.slice p_56o p_56n p_56c))) (by kernel_rfl) (HKC.out _ (B_79.out.drew)) (fun hHeld => ?_)
          refine take_yes 0 (some 85) (v := ?_) rfl (by kernel_rfl) (by kernel_rfl) (by kernel_rfl) (by kernel_rfl) (fun _ _ _ h => h) (by rfl) (by assumption) ?_ ?_
          rotate_left
          · (intro w' hSw; (try dsimp only at hSw); go_simp; try with_reducible rfl)
          try simp only [Act.put, List.setIfInBounds_toArray, List.set_cons_zero, List.set_cons_succ]
          refine take_yes 1 (some 86) (v := ?_) rfl (by kernel_rfl) (by kernel_rfl) (by kernel_rfl) (by kernel_rfl) (fun _ _ _ h => h) (by rfl) (by assumption) ?_ ?_
          rotate_left
          · (intro w' hSw; (try dsimp only at hSw); go_simp; try with_reducible rfl)
          try simp only [Act.put, List.setIfInBounds_toArray, List.set_cons_zero, List.set_cons_succ]
          refine take_yes 3 (some 88) (v := ?_) rfl (by kernel_rfl) (by kernel_rfl) (by kernel_rfl) (by kernel_rfl) (fun _ _ _ h => h) (by rfl) (by assumption) ?_ ?_
          rotate_left
          · (intro w' hSw; (try dsimp only at hSw); go_simp; try with_reducible rfl)
          try simp only [Act.put, List.setIfInBounds_toArray, List.set_cons_zero, List.set_cons_succ]
          refine take_run 2 rfl (by kernel_rfl) (by rfl) (fun K hK => ?_)
          have dr_86 : Since wS_74 wS_74.drew := (Since.refl _).drew
          have c_87 := Since.trans c_73 dr_86
          have M_88 := Lib.hid (M_77.out.since dr_86)
          clear M_77
          have M_89 := Lib.hid (M_78.out.since dr_86)
          clear M_78
          have M_90 := Lib.hid (B_79.out.since dr_86)
          clear B_79
          have M_91 := Lib.hid (M_75.out.since dr_86)
          clear M_75
          have M_92 := Lib.hid (M_76.out.since dr_86)
          clear M_76
          clear dr_86
          go_simp
          refine (hl a b _ _ (HL.out.since c_87) hlo (by omega)).mono ?_
          rintro en q_81 ⟨v_82, rfl, ⟨v_82b, rfl, ho_83, _⟩, hs_84⟩
          obtain ⟨u_85o, u_85n, u_85c, u_85N, rfl⟩ := ho_83.lenN
          have O_93 := Lib.hid (ho_83.mono (base' := w.heap.size) c_87.size)
          clear ho_83
          have c_94 := Since.trans c_87 hs_84
          have M_95 := Lib.hid (M_88.out.since hs_84)
          clear M_88
          have M_96 := Lib.hid (M_89.out.since hs_84)
          clear M_89
          have M_97 := Lib.hid (M_90.out.since hs_84)
          clear M_90
          have M_98 := Lib.hid (M_91.out.since hs_84)
          clear M_91
          have M_99 := Lib.hid (M_92.out.since hs_84)
          clear M_92
          clear hs_84
          refine hK.out _ _ (HKC.out _ M_97.out) (fun hHeld_100 => ?_)
          clear hK K hHeld
          try simp only [Act.put, List.setIfInBounds_toArray, List.set_cons_zero, List.set_cons_succ]
          refine take_run 4 rfl (by kernel_rfl) (by rfl) (fun K hK => ?_)
          go_simp
          refine (implCE_any _ _ (derT c l) (repX l.post (max 0 (lo - 1)) (hi - 1)) _ ⟨_, rfl, O_93.out.at⟩ ⟨_, rfl, M_99.out.at⟩ (by omega) (by have := repX_len l.post (max 0 (lo - 1)) (hi - 1); omega)).mono ?_
          rintro en q_101 ⟨v_102, rfl, ⟨v_102b, rfl, ho_103, _⟩, hs_104⟩
          obtain ⟨Z_105o, Z_105n, Z_105c, Z_105N, rfl⟩ := ho_103.lenN
          have O_106 := Lib.hid (ho_103.mono (base' := w.heap.size) c_94.size)
          clear ho_103
          have c_107 := Since.trans c_94 hs_104
          have M_108 := Lib.hid (M_95.out.since hs_104)
          clear M_95
          have M_109 := Lib.hid (M_96.out.since hs_104)
          clear M_96
          have M_110 := Lib.hid (M_97.out.since hs_104)
          clear M_97
          have M_111 := Lib.hid (M_98.out.since hs_104)
          clear M_98
          have M_112 := Lib.hid (M_99.out.since hs_104)
          clear M_99
          have M_113 := Lib.hid (O_93.out.since hs_104)
          clear O_93
          clear hs_104
          refine hK.out _ _ (HKC.out _ M_110.out) (fun hHeld_114 => ?_)
          clear hK K hHeld_100
          try simp only [Act.put, List.setIfInBounds_toArray, List.set_cons_zero, List.set_cons_succ]
          refine take_run 5 rfl (by kernel_rfl) (by rfl) (fun K hK => ?_)
          obtain ⟨q0, q1⟩ := M_109.out.one
          go_simp
          clear q0 q1
          have c_115 := Since.setCell c_107 (a := ⟨w.heap.size, 0, none⟩) (by show w.heap.size ≤ w.heap.size; omega) (.slice Z_105o Z_105n Z_105c)
          have M_117 := Lib.hid (M_111.out.farT M_109.out (by decide) 0 (.slice Z_105o Z_105n Z_105c))
          clear M_111
          have M_118 := Lib.hid (M_112.out.farT M_109.out (by decide) 0 (.slice Z_105o Z_105n Z_105c))
          clear M_112
          have M_119 := Lib.hid (M_113.out.farT M_109.out (by decide) 0 (.slice Z_105o Z_105n Z_105c))
          clear M_113
          have M_120 := Lib.hid (O_106.out.farT M_109.out (by decide) 0 (.slice Z_105o Z_105n Z_105c))
          clear O_106
          have M_121 := Lib.hid (M_108.out.far (p := ⟨w.heap.size, 0, none⟩) (by show g ≠ w.heap.size; omega) (.slice Z_105o Z_105n Z_105c))
          clear M_108
          have M_122 := Lib.hid (M_110.out.far (p := ⟨w.heap.size, 0, none⟩) (by show A_63 ≠ w.heap.size; omega) (.slice Z_105o Z_105n Z_105c))
          clear M_110
          have B_123 := Lib.hid (M_109.out.set 0 (.slice Z_105o Z_105n Z_105c))
          clear M_109
          refine hK.out _ _ (HKC.out _ M_122.out) (fun hHeld_124 => ?_)
          clear hK K hHeld_114
          try simp only [Act.put, List.setIfInBounds_toArray, List.set_cons_zero, List.set_cons_succ]
          generalize q_101.setCell ⟨w.heap.size, 0, none⟩ (.slice Z_105o Z_105n Z_105c) = wS_116 at M_121 B_123 M_122 M_117 M_118 M_119 M_120 c_115 hHeld_124 ⊢
          refine wpAnyH_done (by kernel_rfl) ?_ _
          clear hHeld_124
          obtain ⟨r0, r1⟩ := B_123.out.one
          go_wp2
          refine bodyPost_ret (v := .agg #[.slice Z_105o Z_105n Z_105c]) (by simp [results, Tryd.results80, go_sem, *]) rfl ?_
          rw [HD.out]
          exact xout_mk M_120.out c_115
        · skip
          go_simp
          have al_126 : Since q_37 (q_37.alloc (.cells #[.slice none 0 0] 26)) := ((Since.refl _).alloc _)
          have B_127 : Hid (Blk (q_37.alloc (.cells #[.slice none 0 0] 26)) q_37.heap.size 26 #[.slice none 0 0]) := (Blk.new rfl _ _ : Blk (q_37.alloc (.cells #[.slice none 0 0] 26)) _ _ _)
          have zA_125 : w.heap.size ≤ q_37.heap.size := c_47.size
          have yA_125_N : g < q_37.heap.size := M_48.out.lt
          have yA_125_R : w.heap.size < q_37.heap.size := M_49.out.lt
          have c_128 := Since.trans c_47 al_126
          have M_129 := Lib.hid (M_48.out.since al_126)
          clear M_48
          have M_130 := Lib.hid (M_49.out.since al_126)
          clear M_49
          have M_131 := Lib.hid (O_46.out.since al_126)
          clear O_46
          clear al_126
          refine hK.out _ _ (HKC.out _ M_129.out) (fun hHeld_132 => ?_)
          clear hK K hHeld_51
          try simp only [Act.put, List.setIfInBounds_toArray, List.set_cons_zero, List.set_cons_succ]
          obtain ⟨A_125, hA_125⟩ : ∃ A, A = q_37.heap.size := ⟨_, rfl⟩
          rw [← hA_125] at B_127 zA_125 yA_125_N yA_125_R
          try rw [← hA_125]
          clear hA_125
          generalize q_37.alloc (.cells #[.slice none 0 0] 26) = wA_133 at M_129 M_130 B_127 M_131 c_128 hHeld_132 ⊢
          refine take_run 15 rfl (by kernel_rfl) (by rfl) (fun K hK => ?_)
          go_simp
          rw [HMX.out]
          refine (implPE8_any _ l.post (max 0 (lo - 1)) (hi - 1) _ ⟨_, rfl, M_131.out.at⟩ (by omega) (by unfold InI; omega) (by unfold InI; omega)).mono ?_
          rintro en q_134 ⟨v_135, rfl, ⟨v_135b, rfl, ho_136, _⟩, hs_137⟩
          obtain ⟨p_138o, p_138n, p_138c, p_138N, rfl⟩ := ho_136.lenN
          have O_139 := Lib.hid (ho_136.mono (base' := w.heap.size) c_128.size)
          clear ho_136
          have c_140 := Since.trans c_128 hs_137
          have M_141 := Lib.hid (M_129.out.since hs_137)
          clear M_129
          have M_142 := Lib.hid (M_130.out.since hs_137)
          clear M_130
          have M_143 := Lib.hid (B_127.out.since hs_137)
          clear B_127
          have M_144 := Lib.hid (M_131.out.since hs_137)
          clear M_131
          clear hs_137
          refine hK.out _ _ (HKC.out _ M_141.out) (fun hHeld_145 => ?_)
          clear hK K hHeld_132
          try simp only [Act.put, List.setIfInBounds_toArray, List.set_cons_zero, List.set_cons_succ]
          refine take_run 17 rfl (by kernel_rfl) (by rfl) (fun K hK => ?_)
          obtain ⟨q0, q1⟩ := M_143.out.one
          go_simp
          clear q0 q1
          have c_146 := Since.setCell c_140 (a := ⟨A_125, 0, none⟩) (by show w.heap.size ≤ A_125; omega) (.slice p_138o p_138n p_138c)
          have M_148 := Lib.hid (M_144.out.farT M_143.out (by decide) 0 (.slice p_138o p_138n p_138c))
          clear M_144
          have M_149 := Lib.hid (O_139.out.farT M_143.out (by decide) 0 (.slice p_138o p_138n p_138c))
          clear O_139
          have M_150 := Lib.hid (M_141.out.far (p := ⟨A_125, 0, none⟩) (by show g ≠ A_125; omega) (.slice p_138o p_138n p_138c))
          clear M_141
          have M_151 := Lib.hid (M_142.out.far (p := ⟨A_125, 0, none⟩) (by show w.heap.size ≠ A_125; omega) (.slice p_138o p_138n p_138c))
          clear M_142
          have B_152 := Lib.hid (M_143.out.set 0 (.slice p_138o p_138n p_138c))
          clear M_143
          refine hK.out _ _ (HKC.out _ M_150.out) (fun hHeld_153 => ?_)
          clear hK K hHeld_145
          try simp only [Act.put, List.setIfInBounds_toArray, List.set_cons_zero, List.set_cons_succ]
          generalize q_134.setCell ⟨A_125, 0, none⟩ (.slice p_138o p_138n p_138c) = wS_147 at M_150 M_151 B_152 M_148 M_149 c_146 hHeld_153 ⊢
          refine wpAnyH_done (by kernel_rfl) ?_ _
          clear hHeld_153 HKC
          go_upto_region 17 with fail
          have HKC : Hid (∀ w', Blk w' A_125 26 #[.slice p_138o p_138n p_138c] → w'.cell? ⟨A_125, 0, none⟩ = some (.slice p_138o p_138n p_138c)) := by
            intro w' hb0
            obtain ⟨r00, _⟩ := hb0.one
            exact r00
          refine wp_region_held_drew (S := (fun w' => w'.cell? ⟨A_125, 0, none⟩ = some (.slice p_138o p_138n p_138c))) (by kernel_rfl) (HKC.out _ (B_152.out.drew)) (fun hHeld => ?_)
          refine take_yes 0 (some 85) (v := ?_) rfl (by kernel_rfl) (by kernel_rfl) (by kernel_rfl) (by kernel_rfl) (fun _ _ _ h => h) (by rfl) (by assumption) ?_ ?_
          rotate_left
          · (intro w' hSw; (try dsimp only at hSw); go_simp; try with_reducible rfl)
          try simp only [Act.put, List.setIfInBounds_toArray, List.set_cons_zero, List.set_cons_succ]
          refine take_yes 1 (some 86) (v := ?_) rfl (by kernel_rfl) (by kernel_rfl) (by kernel_rfl) (by kernel_rfl) (fun _ _ _ h => h) (by rfl) (by assumption) ?_ ?_
          rotate_left
          · (intro w' hSw; (try dsimp only at hSw); go_simp; try with_reducible rfl)
          try simp only [Act.put, List.setIfInBounds_toArray, List.set_cons_zero, List.set_cons_succ]
          refine take_yes 3 (some 88) (v := ?_) rfl (by kernel_rfl) (by kernel_rfl) (by kernel_rfl) (by kernel_rfl) (fun _ _ _ h => h) (by rfl) (by assumption) ?_ ?_
          rotate_left
          · (intro w' hSw; (try dsimp only at hSw); go_simp; try with_reducible rfl)
          try simp only [Act.put, List.setIfInBounds_toArray, List.set_cons_zero, List.set_cons_succ]
          refine take_run 2 rfl (by kernel_rfl) (by rfl) (fun K hK => ?_)
          have dr_159 : Since wS_147 wS_147.drew := (Since.refl _).drew
          have c_160 := Since.trans c_146 dr_159
          have M_161 := Lib.hid (M_150.out.since dr_159)
          clear M_150
          have M_162 := Lib.hid (M_151.out.since dr_159)
          clear M_151
          have M_163 := Lib.hid (B_152.out.since dr_159)
          clear B_152
          have M_164 := Lib.hid (M_148.out.since dr_159)
          clear M_148
          have M_165 := Lib.hid (M_149.out.since dr_159)
          clear M_149
          clear dr_159
          go_simp
          refine (hl a b _ _ (HL.out.since c_160) hlo (by omega)).mono ?_
          rintro en q_154 ⟨v_155, rfl, ⟨v_155b, rfl, ho_156, _⟩, hs_157⟩
          obtain ⟨u_158o, u_158n, u_158c, u_158N, rfl⟩ := ho_156.lenN
          have O_166 := Lib.hid (ho_156.mono (base' := w.heap.size) c_160.size)
          clear ho_156
          have c_167 := Since.trans c_160 hs_157
          have M_168 := Lib.hid (M_161.out.since hs_157)
          clear M_161
          have M_169 := Lib.hid (M_162.out.since hs_157)
          clear M_162
          have M_170 := Lib.hid (M_163.out.since hs_157)
          clear M_163
          have M_171 := Lib.hid (M_164.out.since hs_157)
          clear M_164
          have M_172 := Lib.hid (M_165.out.since hs_157)
          clear M_165
          clear hs_157
          refine hK.out _ _ (HKC.out _ M_170.out) (fun hHeld_173 => ?_)
          clear hK K hHeld
          try simp only [Act.put, List.setIfInBounds_toArray, List.set_cons_zero, List.set_cons_succ]
          refine take_run 4 rfl (by kernel_rfl) (by rfl) (fun K hK => ?_)
          go_simp
          refine (implCE_any _ _ (derT c l) (repX l.post (max 0 (lo - 1)) (hi - 1)) _ ⟨_, rfl, O_166.out.at⟩ ⟨_, rfl, M_172.out.at⟩ (by omega) (by have := repX_len l.post (max 0 (lo - 1)) (hi - 1); omega)).mono ?_
          rintro en q_174 ⟨v_175, rfl, ⟨v_175b, rfl, ho_176, _⟩, hs_177⟩
          obtain ⟨Z_178o, Z_178n, Z_178c, Z_178N, rfl⟩ := ho_176.lenN
          have O_179 := Lib.hid (ho_176.mono (base' := w.heap.size) c_167.size)
          clear ho_176
          have c_180 := Since.trans c_167 hs_177
          have M_181 := Lib.hid (M_168.out.since hs_177)
          clear M_168
          have M_182 := Lib.hid (M_169.out.since hs_177)
          clear M_169
          have M_183 := Lib.hid (M_170.out.since hs_177)
          clear M_170
          have M_184 := Lib.hid (M_171.out.since hs_177)
          clear M_171
          have M_185 := Lib.hid (M_172.out.since hs_177)
          clear M_172
          have M_186 := Lib.hid (O_166.out.since hs_177)
          clear O_166
          clear hs_177
          refine hK.out _ _ (HKC.out _ M_183.out) (fun hHeld_187 => ?_)
          clear hK K hHeld_173
          try simp only [Act.put, List.setIfInBounds_toArray, List.set_cons_zero, List.set_cons_succ]
          refine take_run 5 rfl (by kernel_rfl) (by rfl) (fun K hK => ?_)
          obtain ⟨q0, q1⟩ := M_182.out.one
          go_simp
          clear q0 q1
          have c_188 := Since.setCell c_180 (a := ⟨w.heap.size, 0, none⟩) (by show w.heap.size ≤ w.heap.size; omega) (.slice Z_178o Z_178n Z_178c)
          have M_190 := Lib.hid (M_184.out.farT M_182.out (by decide) 0 (.slice Z_178o Z_178n Z_178c))
          clear M_184
          have M_191 := Lib.hid (M_185.out.farT M_182.out (by decide) 0 (.slice Z_178o Z_178n Z_178c))
          clear M_185
          have M_192 := Lib.hid (M_186.out.farT M_182.out (by decide) 0 (.slice Z_178o Z_178n Z_178c))
          clear M_186
          have M_193 := Lib.hid (O_179.out.farT M_182.out (by decide) 0 (.slice Z_178o Z_178n Z_178c))
          clear O_179
          have M_194 := Lib.hid (M_181.out.far (p := ⟨w.heap.size, 0, none⟩) (by show g ≠ w.heap.size; omega) (.slice Z_178o Z_178n Z_178c))
          clear M_181
          have M_195 := Lib.hid (M_183.out.far (p := ⟨w.heap.size, 0, none⟩) (by show A_125 ≠ w.heap.size; omega) (.slice Z_178o Z_178n Z_178c))
          clear M_183
          have B_196 := Lib.hid (M_182.out.set 0 (.slice Z_178o Z_178n Z_178c))
          clear M_182
          refine hK.out _ _ (HKC.out _ M_195.out) (fun hHeld_197 => ?_)
          clear hK K hHeld_187
          try simp only [Act.put, List.setIfInBounds_toArray, List.set_cons_zero, List.set_cons_succ]
          generalize q_174.setCell ⟨w.heap.size, 0, none⟩ (.slice Z_178o Z_178n Z_178c) = wS_189 at M_194 B_196 M_195 M_190 M_191 M_192 M_193 c_188 hHeld_197 ⊢
          refine wpAnyH_done (by kernel_rfl) ?_ _
          clear hHeld_197
          obtain ⟨r0, r1⟩ := B_196.out.one
          go_wp2
          refine bodyPost_ret (v := .agg #[.slice Z_178o Z_178n Z_178c]) (by simp [results, Tryd.results80, go_sem, *]) rfl ?_
          rw [HD.out]
          exact xout_mk M_193.out c_188
      · skip
        go_simp
        have al_199 : Since q_37 (q_37.alloc (.cells #[.slice none 0 0] 26)) := ((Since.refl _).alloc _)
        have B_200 : Hid (Blk (q_37.alloc (.cells #[.slice none 0 0] 26)) q_37.heap.size 26 #[.slice none 0 0]) := (Blk.new rfl _ _ : Blk (q_37.alloc (.cells #[.slice none 0 0] 26)) _ _ _)
        have zA_198 : w.heap.size ≤ q_37.heap.size := c_47.size
        have yA_198_N : g < q_37.heap.size := M_48.out.lt
        have yA_198_R : w.heap.size < q_37.heap.size := M_49.out.lt
        have c_201 := Since.trans c_47 al_199
        have M_202 := Lib.hid (M_48.out.since al_199)
        clear M_48
        have M_203 := Lib.hid (M_49.out.since al_199)
        clear M_49
        have M_204 := Lib.hid (O_46.out.since al_199)
        clear O_46
        clear al_199
        refine hK.out _ _ (HKC.out _ M_202.out) (fun hHeld_205 => ?_)
        clear hK K hHeld_50
        try simp only [Act.put, List.setIfInBounds_toArray, List.set_cons_zero, List.set_cons_succ]
        obtain ⟨A_198, hA_198⟩ : ∃ A, A = q_37.heap.size := ⟨_, rfl⟩
        rw [← hA_198] at B_200 zA_198 yA_198_N yA_198_R
        try rw [← hA_198]
        clear hA_198
        generalize q_37.alloc (.cells #[.slice none 0 0] 26) = wA_206 at M_202 M_203 B_200 M_204 c_201 hHeld_205 ⊢
        refine take_run 8 rfl (by kernel_rfl) (by rfl) (fun K hK => ?_)
        go_simp
        refine hK.out _ _ (HKC.out _ M_202.out) (fun hHeld_207 => ?_)
        clear hK K hHeld_205
        try simp only [Act.put, List.setIfInBounds_toArray, List.set_cons_zero, List.set_cons_succ]
        refine take_run 15 rfl (by kernel_rfl) (by rfl) (fun K hK => ?_)
        go_simp
        rw [HMX.out]
        refine (implPE8_any _ l.post (max 0 (lo - 1)) (hi - 1) _ ⟨_, rfl, M_204.out.at⟩ (by omega) (by unfold InI; omega) (by unfold InI; omega)).mono ?_
        rintro en q_208 ⟨v_209, rfl, ⟨v_209b, rfl, ho_210, _⟩, hs_211⟩
        obtain ⟨p_212o, p_212n, p_212c, p_212N, rfl⟩ := ho_210.lenN
        have O_213 := Lib.hid (ho_210.mono (base' := w.heap.size) c_201.size)
        clear ho_210
        have c_214 := Since.trans c_201 hs_211
        have M_215 := Lib.hid (M_202.out.since hs_211)
        clear M_202
        have M_216 := Lib.hid (M_203.out.since hs_211)
        clear M_203
        have M_217 := Lib.hid (B_200.out.since hs_211)
        clear B_200
        have M_218 := Lib.hid (M_204.out.since hs_211)
        clear M_204
        clear hs_211
        refine hK.out _ _ (HKC.out _ M_215.out) (fun hHeld_219 => ?_)
        clear hK K hHeld_207
        try simp only [Act.put, List.setIfInBounds_toArray, List.set_cons_zero, List.set_cons_succ]
        refine take_run 17 rfl (by kernel_rfl) (by rfl) (fun K hK => ?_)
        obtain ⟨q0, q1⟩ := M_217.out.one
        go_simp
        clear q0 q1
        have c_220 := Since.setCell c_214 (a := ⟨A_198, 0, none⟩) (by show w.heap.size ≤ A_198; omega) (.slice p_212o p_212n p_212c)
        have M_222 := Lib.hid (M_218.out.farT M_217.out (by decide) 0 (.slice p_212o p_212n p_212c))
        clear M_218
        have M_223 := Lib.hid (O_213.out.farT M_217.out (by decide) 0 (.slice p_212o p_212n p_212c))
        clear O_213
        have M_224 := Lib.hid (M_215.out.far (p := ⟨A_198, 0, none⟩) (by show g ≠ A_198; omega) (.slice p_212o p_212n p_212c))
        clear M_215
        have M_225 := Lib.hid (M_216.out.far (p := ⟨A_198, 0, none⟩) (by show w.heap.size ≠ A_198; omega) (.slice p_212o p_212n p_212c))
        clear M_216
        have B_226 := Lib.hid (M_217.out.set 0 (.slice p_212o p_212n p_212c))
        clear M_217
        refine hK.out _ _ (HKC.out _ M_224.out) (fun hHeld_227 => ?_)
        clear hK K hHeld_219
        try simp only [Act.put, List.setIfInBounds_toArray, List.set_cons_zero, List.set_cons_succ]
        generalize q_208.setCell ⟨A_198, 0, none⟩ (.slice p_212o p_212n p_212c) = wS_221 at M_224 M_225 B_226 M_222 M_223 c_220 hHeld_227 ⊢
        refine wpAnyH_done (by kernel_rfl) ?_ _
        clear hHeld_227 HKC
        go_upto_region 17 with fail
        have HKC : Hid (∀ w', Blk w' A_198 26 #[.slice p_212o p_212n p_212c] → w'.cell? ⟨A_198, 0, none⟩ = some (.slice p_212o p_212n p_212c)) := by
          intro w' hb0
          obtain ⟨r00, _⟩ := hb0.one
          exact r00
        refine wp_region_held_drew (S := (fun w' => w'.cell? ⟨A_198, 0, none⟩ = some (.slice p_212o p_212n p_212c))) (by kernel_rfl) (HKC.out _ (B_226.out.drew)) (fun hHeld => ?_)
        refine take_yes 0 (some 85) (v := ?_) rfl (by kernel_rfl) (by kernel_rfl) (by kernel_rfl) (by kernel_rfl) (fun _ _ _ h => h) (by rfl) (by assumption) ?_ ?_
        rotate_left
        · (intro w' hSw; (try dsimp only at hSw); go_simp; try with_reducible rfl)
        try simp only [Act.put, List.setIfInBounds_toArray, List.set_cons_zero, List.set_cons_succ]
        refine take_yes 1 (some 86) (v := ?_) rfl (by kernel_rfl) (by kernel_rfl) (by kernel_rfl) (by kernel_rfl) (fun _ _ _ h => h) (by rfl) (by assumption) ?_ ?_
        rotate_left
        · (intro w' hSw; (try dsimp only at hSw); go_simp; try with_reducible rfl)
        try simp only [Act.put, List.setIfInBounds_toArray, List.set_cons_zero, List.set_cons_succ]
        refine take_yes 3 (some 88) (v := ?_) rfl (by kernel_rfl) (by kernel_rfl) (by kernel_rfl) (by kernel_rfl) (fun _ _ _ h => h) (by rfl) (by assumption) ?_ ?_
        rotate_left
        · (intro w' hSw; (try dsimp only at hSw); go_simp; try with_reducible rfl)
        try simp only [Act.put, List.setIfInBounds_toArray, List.set_cons_zero, List.set_cons_succ]
        refine take_run 2 rfl (by kernel_rfl) (by rfl) (fun K hK => ?_)
        have dr_233 : Since wS_221 wS_221.drew := (Since.refl _).drew
        have c_234 := Since.trans c_220 dr_233
        have M_235 := Lib.hid (M_224.out.since dr_233)
        clear M_224
        have M_236 := Lib.hid (M_225.out.since dr_233)
        clear M_225
        have M_237 := Lib.hid (B_226.out.since dr_233)
        clear B_226
        have M_238 := Lib.hid (M_222.out.since dr_233)
        clear M_222
        have M_239 := Lib.hid (M_223.out.since dr_233)
        clear M_223
        clear dr_233
        go_simp
        refine (hl a b _ _ (HL.out.since c_234) hlo (by omega)).mono ?_
        rintro en q_228 ⟨v_229, rfl, ⟨v_229b, rfl, ho_230, _⟩, hs_231⟩
        obtain ⟨u_232o, u_232n, u_232c, u_232N, rfl⟩ := ho_230.lenN
        have O_240 := Lib.hid (ho_230.mono (base' := w.heap.size) c_234.size)
        clear ho_230
        have c_241 := Since.trans c_234 hs_231
        have M_242 := Lib.hid (M_235.out.since hs_231)
        clear M_235
        have M_243 := Lib.hid (M_236.out.since hs_231)
        clear M_236
        have M_244 := Lib.hid (M_237.out.since hs_231)
        clear M_237
        have M_245 := Lib.hid (M_238.out.since hs_231)
        clear M_238
        have M_246 := Lib.hid (M_239.out.since hs_231)
        clear M_239
        clear hs_231
        refine hK.out _ _ (HKC.out _ M_244.out) (fun hHeld_247 => ?_)
        clear hK K hHeld
        try simp only [Act.put, List.setIfInBounds_toArray, List.set_cons_zero, List.set_cons_succ]
        refine take_run 4 rfl (by kernel_rfl) (by rfl) (fun K hK => ?_)
        go_simp
        refine (implCE_any _ _ (derT c l) (repX l.post (max 0 (lo - 1)) (hi - 1)) _ ⟨_, rfl, O_240.out.at⟩ ⟨_, rfl, M_246.out.at⟩ (by omega) (by have := repX_len l.post (max 0 (lo - 1)) (hi - 1); omega)).mono ?_
        rintro en q_248 ⟨v_249, rfl, ⟨v_249b, rfl, ho_250, _⟩, hs_251⟩
        obtain ⟨Z_252o, Z_252n, Z_252c, Z_252N, rfl⟩ := ho_250.lenN
        have O_253 := Lib.hid (ho_250.mono (base' := w.heap.size) c_241.size)
        clear ho_250
        have c_254 := Since.trans c_241 hs_251
        have M_255 := Lib.hid (M_242.out.since hs_251)
        clear M_242
        have M_256 := Lib.hid (M_243.out.since hs_251)
        clear M_243
        have M_257 := Lib.hid (M_244.out.since hs_251)
        clear M_244
        have M_258 := Lib.hid (M_245.out.since hs_251)
        clear M_245
        have M_259 := Lib.hid (M_246.out.since hs_251)
        clear M_246
        have M_260 := Lib.hid (O_240.out.since hs_251)
        clear O_240
        clear hs_251
        refine hK.out _ _ (HKC.out _ M_257.out) (fun hHeld_261 => ?_)
        clear hK K hHeld_247
        try simp only [Act.put, List.setIfInBounds_toArray, List.set_cons_zero, List.set_cons_succ]
        refine take_run 5 rfl (by kernel_rfl) (by rfl) (fun K hK => ?_)
        obtain ⟨q0, q1⟩ := M_256.out.one
        go_simp
        clear q0 q1
        have c_262 := Since.setCell c_254 (a := ⟨w.heap.size, 0, none⟩) (by show w.heap.size ≤ w.heap.size; omega) (.slice Z_252o Z_252n Z_252c)
        have M_264 := Lib.hid (M_258.out.farT M_256.out (by decide) 0 (.slice Z_252o Z_252n Z_252c))
        clear M_258
        have M_265 := Lib.hid (M_259.out.farT M_256.out (by decide) 0 (.slice Z_252o Z_252n Z_252c))
        clear M_259
        have M_266 := Lib.hid (M_260.out.farT M_256.out (by decide) 0 (.slice Z_252o Z_252n Z_252c))
        clear M_260
        have M_267 := Lib.hid (O_253.out.farT M_256.out (by decide) 0 (.slice Z_252o Z_252n Z_252c))
        clear O_253
        have M_268 := Lib.hid (M_255.out.far (p := ⟨w.heap.size, 0, none⟩) (by show g ≠ w.heap.size; omega) (.slice Z_252o Z_252n Z_252c))
        clear M_255
        have M_269 := Lib.hid (M_257.out.far (p := ⟨w.heap.size, 0, none⟩) (by show A_198 ≠ w.heap.size; omega) (.slice Z_252o Z_252n Z_252c))
        clear M_257
        have B_270 := Lib.hid (M_256.out.set 0 (.slice Z_252o Z_252n Z_252c))
        clear M_256
        refine hK.out _ _ (HKC.out _ M_269.out) (fun hHeld_271 => ?_)
        clear hK K hHeld_261
        try simp only [Act.put, List.setIfInBounds_toArray, List.set_cons_zero, List.set_cons_succ]
        generalize q_248.setCell ⟨w.heap.size, 0, none⟩ (.slice Z_252o Z_252n Z_252c) = wS_263 at M_268 B_270 M_269 M_264 M_265 M_266 M_267 c_262 hHeld_271 ⊢
        refine wpAnyH_done (by kernel_rfl) ?_ _
        clear hHeld_271
        obtain ⟨r0, r1⟩ := B_270.out.one
        go_wp2
        refine bodyPost_ret (v := .agg #[.slice Z_252o Z_252n Z_252c]) (by simp [results, Tryd.results80, go_sem, *]) rfl ?_
        rw [HD.out]
        exact xout_mk M_267.out c_262
    · skip
      go_simp
      refine hK.out _ _ (HKC.out _ (BXZ.out.drew)) (fun hHeld_272 => ?_)
      clear hK K hHeld
      try simp only [Act.put, List.setIfInBounds_toArray, List.set_cons_zero, List.set_cons_succ]
      refine take_two 1 16 rfl rfl (by kernel_rfl) (by rfl) (by rfl) (fun K hK => ?_) (fun K hK => ?_)
      · skip
        have dr_278 : Since z z.drew := (Since.refl _).drew
        have c_279 := Since.trans hsz dr_278
        have M_280 := Lib.hid (BXZ.out.since dr_278)
        clear BXZ
        have M_281 := Lib.hid (BZ.out.since dr_278)
        clear BZ
        clear dr_278
        go_simp
        refine (nodeExpr_any _ a b _ _ (HL.out.since c_279) (by omega)).mono ?_
        rintro en q_273 ⟨v_274, rfl, ⟨v_274b, rfl, ho_275, _⟩, hs_276⟩
        obtain ⟨e_277o, e_277n, e_277c, e_277N, rfl⟩ := ho_275.lenN
        have O_282 := Lib.hid (ho_275.mono (base' := w.heap.size) c_279.size)
        clear ho_275
        have c_283 := Since.trans c_279 hs_276
        have M_284 := Lib.hid (M_280.out.since hs_276)
        clear M_280
        have M_285 := Lib.hid (M_281.out.since hs_276)
        clear M_281
        clear hs_276
        refine hK.out _ _ (HKC.out _ M_284.out) (fun hHeld_286 => ?_)
        clear hK K hHeld_272
        try simp only [Act.put, List.setIfInBounds_toArray, List.set_cons_zero, List.set_cons_succ]
        refine take_two 15 16 rfl rfl (by kernel_rfl) (by rfl) (by rfl) (fun K hK => ?_) (fun K hK => ?_)
        · skip
          go_simp
          rw [HMX.out]
          refine (implPE8_any _ l.post (max 0 (lo - 1)) (hi - 1) _ ⟨_, rfl, O_282.out.at⟩ (by omega) (by unfold InI; omega) (by unfold InI; omega)).mono ?_
          rintro en q_287 ⟨v_288, rfl, ⟨v_288b, rfl, ho_289, _⟩, hs_290⟩
          obtain ⟨p_291o, p_291n, p_291c, p_291N, rfl⟩ := ho_289.lenN
          have O_292 := Lib.hid (ho_289.mono (base' := w.heap.size) c_283.size)
          clear ho_289
          have c_293 := Since.trans c_283 hs_290
          have M_294 := Lib.hid (M_284.out.since hs_290)
          clear M_284
          have M_295 := Lib.hid (M_285.out.since hs_290)
          clear M_285
          have M_296 := Lib.hid (O_282.out.since hs_290)
          clear O_282
          clear hs_290
          refine hK.out _ _ (HKC.out _ M_294.out) (fun hHeld_297 => ?_)
          clear hK K hHeld_286
          try simp only [Act.put, List.setIfInBounds_toArray, List.set_cons_zero, List.set_cons_succ]
          refine take_run 16 rfl (by kernel_rfl) (by rfl) (fun K hK => ?_)
          go_simp
          have al_299 : Since q_287 (q_287.alloc (.cells #[.slice none 0 0] 26)) := ((Since.refl _).alloc _)
          have B_300 : Hid (Blk (q_287.alloc (.cells #[.slice none 0 0] 26)) q_287.heap.size 26 #[.slice none 0 0]) := (Blk.new rfl _ _ : Blk (q_287.alloc (.cells #[.slice none 0 0] 26)) _ _ _)
          have zA_298 : w.heap.size ≤ q_287.heap.size := c_293.size
          have yA_298_N : g < q_287.heap.size := M_294.out.lt
          have yA_298_R : w.heap.size < q_287.heap.size := M_295.out.lt
          have c_301 := Since.trans c_293 al_299
          have M_302 := Lib.hid (M_294.out.since al_299)
          clear M_294
          have M_303 := Lib.hid (M_295.out.since al_299)
          clear M_295
          have M_304 := Lib.hid (M_296.out.since al_299)
          clear M_296
          have M_305 := Lib.hid (O_292.out.since al_299)
          clear O_292
          clear al_299
          refine hK.out _ _ (HKC.out _ M_302.out) (fun hHeld_306 => ?_)
          clear hK K hHeld_297
          try simp only [Act.put, List.setIfInBounds_toArray, List.set_cons_zero, List.set_cons_succ]
          obtain ⟨A_298, hA_298⟩ : ∃ A, A = q_287.heap.size := ⟨_, rfl⟩
          rw [← hA_298] at B_300 zA_298 yA_298_N yA_298_R
          try rw [← hA_298]
          clear hA_298
          generalize q_287.alloc (.cells #[.slice none 0 0] 26) = wA_307 at M_302 M_303 B_300 M_304 M_305 c_301 hHeld_306 ⊢
          refine take_run 17 rfl (by kernel_rfl) (by rfl) (fun K hK => ?_)
          obtain ⟨q0, q1⟩ := B_300.out.one
          go_simp
          clear q0 q1
          have c_308 := Since.setCell c_301 (a := ⟨A_298, 0, none⟩) (by show w.heap.size ≤ A_298; omega) (.slice p_291o p_291n p_291c)
          have M_310 := Lib.hid (M_304.out.farT B_300.out (by decide) 0 (.slice p_291o p_291n p_291c))
          clear M_304
          have M_311 := Lib.hid (M_305.out.farT B_300.out (by decide) 0 (.slice p_291o p_291n p_291c))
          clear M_305
          have M_312 := Lib.hid (M_302.out.far (p := ⟨A_298, 0, none⟩) (by show g ≠ A_298; omega) (.slice p_291o p_291n p_291c))
          clear M_302
          have M_313 := Lib.hid (M_303.out.far (p := ⟨A_298, 0, none⟩) (by show w.heap.size ≠ A_298; omega) (.slice p_291o p_291n p_291c))
          clear M_303
          have B_314 := Lib.hid (B_300.out.set 0 (.slice p_291o p_291n p_291c))
          clear B_300
          refine hK.out _ _ (HKC.out _ M_312.out) (fun hHeld_315 => ?_)
          clear hK K hHeld_306
          try simp only [Act.put, List.setIfInBounds_toArray, List.set_cons_zero, List.set_cons_succ]
          generalize wA_307.setCell ⟨A_298, 0, none⟩ (.slice p_291o p_291n p_291c) = wS_309 at M_312 M_313 B_314 M_310 M_311 c_308 hHeld_315 ⊢
          refine wpAnyH_done (by kernel_rfl) ?_ _
          clear hHeld_315 HKC
          go_upto_region 17 with fail
          have HKC : Hid (∀ w', Blk w' A_298 26 #[.slice p_291o p_291n p_291c] → w'.cell? ⟨A_298, 0, none⟩ = some (.slice p_291o p_291n p_291c)) := by
            intro w' hb0
            obtain ⟨r00, _⟩ := hb0.one
            exact r00
          refine wp_region_held_drew (S := (fun w' => w'.cell? ⟨A_298, 0, none⟩ = some (.slice p_291o p_291n p_291c))) (by kernel_rfl) (HKC.out _ (B_314.out.drew)) (fun hHeld => ?_)
          refine take_yes 0 (some 85) (v := ?_) rfl (by kernel_rfl) (by kernel_rfl) (by kernel_rfl) (by kernel_rfl) (fun _ _ _ h => h) (by rfl) (by assumption) ?_ ?_
          rotate_left
          · (intro w' hSw; (try dsimp only at hSw); go_simp; try with_reducible rfl)
          try simp only [Act.put, List.setIfInBounds_toArray, List.set_cons_zero, List.set_cons_succ]
          refine take_yes 1 (some 86) (v := ?_) rfl (by kernel_rfl) (by kernel_rfl) (by kernel_rfl) (by kernel_rfl) (fun _ _ _ h => h) (by rfl) (by assumption) ?_ ?_
          rotate_left
          · (intro w' hSw; (try dsimp only at hSw); go_simp; try with_reducible rfl)
          try simp only [Act.put, List.setIfInBounds_toArray, List.set_cons_zero, List.set_cons_succ]
          refine take_yes 3 (some 88) (v := ?_) rfl (by kernel_rfl) (by kernel_rfl) (by kernel_rfl) (by kernel_rfl) (fun _ _ _ h => h) (by rfl) (by assumption) ?_ ?_
          rotate_left
          · (intro w' hSw; (try dsimp only at hSw); go_simp; try with_reducible rfl)
          try simp only [Act.put, List.setIfInBounds_toArray, List.set_cons_zero, List.set_cons_succ]
          refine take_run 2 rfl (by kernel_rfl) (by rfl) (fun K hK => ?_)
          have dr_321 : Since wS_309 wS_309.drew := (Since.refl _).drew
          have c_322 := Since.trans c_308 dr_321
          have M_323 := Lib.hid (M_312.out.since dr_321)
          clear M_312
          have M_324 := Lib.hid (M_313.out.since dr_321)
          clear M_313
          have M_325 := Lib.hid (B_314.out.since dr_321)
          clear B_314
          have M_326 := Lib.hid (M_310.out.since dr_321)
          clear M_310
          have M_327 := Lib.hid (M_311.out.since dr_321)
          clear M_311
          clear dr_321
          go_simp
          refine (hl a b _ _ (HL.out.since c_322) hlo (by omega)).mono ?_
          rintro en q_316 ⟨v_317, rfl, ⟨v_317b, rfl, ho_318, _⟩, hs_319⟩
          obtain ⟨u_320o, u_320n, u_320c, u_320N, rfl⟩ := ho_318.lenN
          have O_328 := Lib.hid (ho_318.mono (base' := w.heap.size) c_322.size)
          clear ho_318
          have c_329 := Since.trans c_322 hs_319
          have M_330 := Lib.hid (M_323.out.since hs_319)
          clear M_323
          have M_331 := Lib.hid (M_324.out.since hs_319)
          clear M_324
          have M_332 := Lib.hid (M_325.out.since hs_319)
          clear M_325
          have M_333 := Lib.hid (M_326.out.since hs_319)
          clear M_326
          have M_334 := Lib.hid (M_327.out.since hs_319)
          clear M_327
          clear hs_319
          refine hK.out _ _ (HKC.out _ M_332.out) (fun hHeld_335 => ?_)
          clear hK K hHeld
          try simp only [Act.put, List.setIfInBounds_toArray, List.set_cons_zero, List.set_cons_succ]
          refine take_run 4 rfl (by kernel_rfl) (by rfl) (fun K hK => ?_)
          go_simp
          refine (implCE_any _ _ (derT c l) (repX l.post (max 0 (lo - 1)) (hi - 1)) _ ⟨_, rfl, O_328.out.at⟩ ⟨_, rfl, M_334.out.at⟩ (by omega) (by have := repX_len l.post (max 0 (lo - 1)) (hi - 1); omega)).mono ?_
          rintro en q_336 ⟨v_337, rfl, ⟨v_337b, rfl, ho_338, _⟩, hs_339⟩
          obtain ⟨Z_340o, Z_340n, Z_340c, Z_340N, rfl⟩ := ho_338.lenN
          have O_341 := Lib.hid (ho_338.mono (base' := w.heap.size) c_329.size)
          clear ho_338
          have c_342 := Since.trans c_329 hs_339
          have M_343 := Lib.hid (M_330.out.since hs_339)
          clear M_330
          have M_344 := Lib.hid (M_331.out.since hs_339)
          clear M_331
          have M_345 := Lib.hid (M_332.out.since hs_339)
          clear M_332
          have M_346 := Lib.hid (M_333.out.since hs_339)
          clear M_333
          have M_347 := Lib.hid (M_334.out.since hs_339)
          clear M_334
          have M_348 := Lib.hid (O_328.out.since hs_339)
          clear O_328
          clear hs_339
          refine hK.out _ _ (HKC.out _ M_345.out) (fun hHeld_349 => ?_)
          clear hK K hHeld_335
          try simp only [Act.put, List.setIfInBounds_toArray, List.set_cons_zero, List.set_cons_succ]
          refine take_run 5 rfl (by kernel_rfl) (by rfl) (fun K hK => ?_)
          obtain ⟨q0, q1⟩ := M_344.out.one
          go_simp
          clear q0 q1
          have c_350 := Since.setCell c_342 (a := ⟨w.heap.size, 0, none⟩) (by show w.heap.size ≤ w.heap.size; omega) (.slice Z_340o Z_340n Z_340c)
          have M_352 := Lib.hid (M_346.out.farT M_344.out (by decide) 0 (.slice Z_340o Z_340n Z_340c))
          clear M_346
          have M_353 := Lib.hid (M_347.out.farT M_344.out (by decide) 0 (.slice Z_340o Z_340n Z_340c))
          clear M_347
          have M_354 := Lib.hid (M_348.out.farT M_344.out (by decide) 0 (.slice Z_340o Z_340n Z_340c))
          clear M_348
          have M_355 := Lib.hid (O_341.out.farT M_344.out (by decide) 0 (.slice Z_340o Z_340n Z_340c))
          clear O_341
          have M_356 := Lib.hid (M_343.out.far (p := ⟨w.heap.size, 0, none⟩) (by show g ≠ w.heap.size; omega) (.slice Z_340o Z_340n Z_340c))
          clear M_343
          have M_357 := Lib.hid (M_345.out.far (p := ⟨w.heap.size, 0, none⟩) (by show A_298 ≠ w.heap.size; omega) (.slice Z_340o Z_340n Z_340c))
          clear M_345
          have B_358 := Lib.hid (M_344.out.set 0 (.slice Z_340o Z_340n Z_340c))
          clear M_344
          refine hK.out _ _ (HKC.out _ M_357.out) (fun hHeld_359 => ?_)
          clear hK K hHeld_349
          try simp only [Act.put, List.setIfInBounds_toArray, List.set_cons_zero, List.set_cons_succ]
          generalize q_336.setCell ⟨w.heap.size, 0, none⟩ (.slice Z_340o Z_340n Z_340c) = wS_351 at M_356 B_358 M_357 M_352 M_353 M_354 M_355 c_350 hHeld_359 ⊢
          refine wpAnyH_done (by kernel_rfl) ?_ _
          clear hHeld_359
          obtain ⟨r0, r1⟩ := B_358.out.one
          go_wp2
          refine bodyPost_ret (v := .agg #[.slice Z_340o Z_340n Z_340c]) (by simp [results, Tryd.results80, go_sem, *]) rfl ?_
          rw [HD.out]
          exact xout_mk M_355.out c_350
        · skip
          go_simp
          have al_361 : Since q_273 (q_273.alloc (.cells #[.slice none 0 0] 26)) := ((Since.refl _).alloc _)
          have B_362 : Hid (Blk (q_273.alloc (.cells #[.slice none 0 0] 26)) q_273.heap.size 26 #[.slice none 0 0]) := (Blk.new rfl _ _ : Blk (q_273.alloc (.cells #[.slice none 0 0] 26)) _ _ _)
          have zA_360 : w.heap.size ≤ q_273.heap.size := c_283.size
          have yA_360_N : g < q_273.heap.size := M_284.out.lt
          have yA_360_R : w.heap.size < q_273.heap.size := M_285.out.lt
          have c_363 := Since.trans c_283 al_361
          have M_364 := Lib.hid (M_284.out.since al_361)
          clear M_284
          have M_365 := Lib.hid (M_285.out.since al_361)
          clear M_285
          have M_366 := Lib.hid (O_282.out.since al_361)
          clear O_282
          clear al_361
          refine hK.out _ _ (HKC.out _ M_364.out) (fun hHeld_367 => ?_)
          clear hK K hHeld_286
          try simp only [Act.put, List.setIfInBounds_toArray, List.set_cons_zero, List.set_cons_succ]
          obtain ⟨A_360, hA_360⟩ : ∃ A, A = q_273.heap.size := ⟨_, rfl⟩
          rw [← hA_360] at B_362 zA_360 yA_360_N yA_360_R
          try rw [← hA_360]
          clear hA_360
          generalize q_273.alloc (.cells #[.slice none 0 0] 26) = wA_368 at M_364 M_365 B_362 M_366 c_363 hHeld_367 ⊢
          refine take_run 15 rfl (by kernel_rfl) (by rfl) (fun K hK => ?_)
          go_simp
          rw [HMX.out]
          refine (implPE8_any _ l.post (max 0 (lo - 1)) (hi - 1) _ ⟨_, rfl, M_366.out.at⟩ (by omega) (by unfold InI; omega) (by unfold InI; omega)).mono ?_
          rintro en q_369 ⟨v_370, rfl, ⟨v_370b, rfl, ho_371, _⟩, hs_372⟩
          obtain ⟨p_373o, p_373n, p_373c, p_373N, rfl⟩ := ho_371.lenN
          have O_374 := Lib.hid (ho_371.mono (base' := w.heap.size) c_363.size)
          clear ho_371
          have c_375 := Since.trans c_363 hs_372
          have M_376 := Lib.hid (M_364.out.since hs_372)
          clear M_364
          have M_377 := Lib.hid (M_365.out.since hs_372)
          clear M_365
          have M_378 := Lib.hid (B_362.out.since hs_372)
          clear B_362
          have M_379 := Lib.hid (M_366.out.since hs_372)
          clear M_366
          clear hs_372
          refine hK.out _ _ (HKC.out _ M_376.out) (fun hHeld_380 => ?_)
          clear hK K hHeld_367
          try simp only [Act.put, List.setIfInBounds_toArray, List.set_cons_zero, List.set_cons_succ]
          refine take_run 17 rfl (by kernel_rfl) (by rfl) (fun K hK => ?_)
          obtain ⟨q0, q1⟩ := M_378.out.one
          go_simp
          clear q0 q1
          have c_381 := Since.setCell c_375 (a := ⟨A_360, 0, none⟩) (by show w.heap.size ≤ A_360; omega) (.slice p_373o p_373n p_373c)
          have M_383 := Lib.hid (M_379.out.farT M_378.out (by decide) 0 (.slice p_373o p_373n p_373c))
          clear M_379
          have M_384 := Lib.hid (O_374.out.farT M_378.out (by decide) 0 (.slice p_373o p_373n p_373c))
          clear O_374
          have M_385 := Lib.hid (M_376.out.far (p := ⟨A_360, 0, none⟩) (by show g ≠ A_360; omega) (.slice p_373o p_373n p_373c))
          clear M_376
          have M_386 := Lib.hid (M_377.out.far (p := ⟨A_360, 0, none⟩) (by show w.heap.size ≠ A_360; omega) (.slice p_373o p_373n p_373c))
          clear M_377
          have B_387 := Lib.hid (M_378.out.set 0 (.slice p_373o p_373n p_373c))
          clear M_378
          refine hK.out _ _ (HKC.out _ M_385.out) (fun hHeld_388 => ?_)
          clear hK K hHeld_380
          try simp only [Act.put, List.setIfInBounds_toArray, List.set_cons_zero, List.set_cons_succ]
          generalize q_369.setCell ⟨A_360, 0, none⟩ (.slice p_373o p_373n p_373c) = wS_382 at M_385 M_386 B_387 M_383 M_384 c_381 hHeld_388 ⊢
          refine wpAnyH_done (by kernel_rfl) ?_ _
          clear hHeld_388 HKC
          go_upto_region 17 with fail
          have HKC : Hid (∀ w', Blk w' A_360 26 #[.slice p_373o p_373n p_373c] → w'.cell? ⟨A_360, 0, none⟩ = some (.slice p_373o p_373n p_373c)) := by
            intro w' hb0
            obtain ⟨r00, _⟩ := hb0.one
            exact r00
          refine wp_region_held_drew (S := (fun w' => w'.cell? ⟨A_360, 0, none⟩ = some (.slice p_373o p_373n p_373c))) (by kernel_rfl) (HKC.out _ (B_387.out.drew)) (fun hHeld => ?_)
          refine take_yes 0 (some 85) (v := ?_) rfl (by kernel_rfl) (by kernel_rfl) (by kernel_rfl) (by kernel_rfl) (fun _ _ _ h => h) (by rfl) (by assumption) ?_ ?_
          rotate_left
          · (intro w' hSw; (try dsimp only at hSw); go_simp; try with_reducible rfl)
          try simp only [Act.put, List.setIfInBounds_toArray, List.set_cons_zero, List.set_cons_succ]
          refine take_yes 1 (some 86) (v := ?_) rfl (by kernel_rfl) (by kernel_rfl) (by kernel_rfl) (by kernel_rfl) (fun _ _ _ h => h) (by rfl) (by assumption) ?_ ?_
          rotate_left
          · (intro w' hSw; (try dsimp only at hSw); go_simp; try with_reducible rfl)
          try simp only [Act.put, List.setIfInBounds_toArray, List.set_cons_zero, List.set_cons_succ]
          refine take_yes 3 (some 88) (v := ?_) rfl (by kernel_rfl) (by kernel_rfl) (by kernel_rfl) (by kernel_rfl) (fun _ _ _ h => h) (by rfl) (by assumption) ?_ ?_
          rotate_left
          · (intro w' hSw; (try dsimp only at hSw); go_simp; try with_reducible rfl)
          try simp only [Act.put, List.setIfInBounds_toArray, List.set_cons_zero, List.set_cons_succ]
          refine take_run 2 rfl (by kernel_rfl) (by rfl) (fun K hK => ?_)
          have dr_394 : Since wS_382 wS_382.drew := (Since.refl _).drew
          have c_395 := Since.trans c_381 dr_394
          have M_396 := Lib.hid (M_385.out.since dr_394)
          clear M_385
          have M_397 := Lib.hid (M_386.out.since dr_394)
          clear M_386
          have M_398 := Lib.hid (B_387.out.since dr_394)
          clear B_387
          have M_399 := Lib.hid (M_383.out.since dr_394)
          clear M_383
          have M_400 := Lib.hid (M_384.out.since dr_394)
          clear M_384
          clear dr_394
          go_simp
          refine (hl a b _ _ (HL.out.since c_395) hlo (by omega)).mono ?_
          rintro en q_389 ⟨v_390, rfl, ⟨v_390b, rfl, ho_391, _⟩, hs_392⟩
          obtain ⟨u_393o, u_393n, u_393c, u_393N, rfl⟩ := ho_391.lenN
          have O_401 := Lib.hid (ho_391.mono (base' := w.heap.size) c_395.size)
          clear ho_391
          have c_402 := Since.trans c_395 hs_392
          have M_403 := Lib.hid (M_396.out.since hs_392)
          clear M_396
          have M_404 := Lib.hid (M_397.out.since hs_392)
          clear M_397
          have M_405 := Lib.hid (M_398.out.since hs_392)
          clear M_398
          have M_406 := Lib.hid (M_399.out.since hs_392)
          clear M_399
          have M_407 := Lib.hid (M_400.out.since hs_392)
          clear M_400
          clear hs_392
          refine hK.out _ _ (HKC.out _ M_405.out) (fun hHeld_408 => ?_)
          clear hK K hHeld
          try simp only [Act.put, List.setIfInBounds_toArray, List.set_cons_zero, List.set_cons_succ]
          refine take_run 4 rfl (by kernel_rfl) (by rfl) (fun K hK => ?_)
          go_simp
          refine (implCE_any _ _ (derT c l) (repX l.post (max 0 (lo - 1)) (hi - 1)) _ ⟨_, rfl, O_401.out.at⟩ ⟨_, rfl, M_407.out.at⟩ (by omega) (by have := repX_len l.post (max 0 (lo - 1)) (hi - 1); omega)).mono ?_
          rintro en q_409 ⟨v_410, rfl, ⟨v_410b, rfl, ho_411, _⟩, hs_412⟩
          obtain ⟨Z_413o, Z_413n, Z_413c, Z_413N, rfl⟩ := ho_411.lenN
          have O_414 := Lib.hid (ho_411.mono (base' := w.heap.size) c_402.size)
          clear ho_411
          have c_415 := Since.trans c_402 hs_412
          have M_416 := Lib.hid (M_403.out.since hs_412)
          clear M_403
          have M_417 := Lib.hid (M_404.out.since hs_412)
          clear M_404
          have M_418 := Lib.hid (M_405.out.since hs_412)
          clear M_405
          have M_419 := Lib.hid (M_406.out.since hs_412)
          clear M_406
          have M_420 := Lib.hid (M_407.out.since hs_412)
          clear M_407
          have M_421 := Lib.hid (O_401.out.since hs_412)
          clear O_401
          clear hs_412
          refine hK.out _ _ (HKC.out _ M_418.out) (fun hHeld_422 => ?_)
          clear hK K hHeld_408
          try simp only [Act.put, List.setIfInBounds_toArray, List.set_cons_zero, List.set_cons_succ]
          refine take_run 5 rfl (by kernel_rfl) (by rfl) (fun K hK => ?_)
          obtain ⟨q0, q1⟩ := M_417.out.one
          go_simp
          clear q0 q1
          have c_423 := Since.setCell c_415 (a := ⟨w.heap.size, 0, none⟩) (by show w.heap.size ≤ w.heap.size; omega) (.slice Z_413o Z_413n Z_413c)
          have M_425 := Lib.hid (M_419.out.farT M_417.out (by decide) 0 (.slice Z_413o Z_413n Z_413c))
          clear M_419
          have M_426 := Lib.hid (M_420.out.farT M_417.out (by decide) 0 (.slice Z_413o Z_413n Z_413c))
          clear M_420
          have M_427 := Lib.hid (M_421.out.farT M_417.out (by decide) 0 (.slice Z_413o Z_413n Z_413c))
          clear M_421
          have M_428 := Lib.hid (O_414.out.farT M_417.out (by decide) 0 (.slice Z_413o Z_413n Z_413c))
          clear O_414
          have M_429 := Lib.hid (M_416.out.far (p := ⟨w.heap.size, 0, none⟩) (by show g ≠ w.heap.size; omega) (.slice Z_413o Z_413n Z_413c))
          clear M_416
          have M_430 := Lib.hid (M_418.out.far (p := ⟨w.heap.size, 0, none⟩) (by show A_360 ≠ w.heap.size; omega) (.slice Z_413o Z_413n Z_413c))
          clear M_418
          have B_431 := Lib.hid (M_417.out.set 0 (.slice Z_413o Z_413n Z_413c))
          clear M_417
          refine hK.out _ _ (HKC.out _ M_430.out) (fun hHeld_432 => ?_)
          clear hK K hHeld_422
          try simp only [Act.put, List.setIfInBounds_toArray, List.set_cons_zero, List.set_cons_succ]
          generalize q_409.setCell ⟨w.heap.size, 0, none⟩ (.slice Z_413o Z_413n Z_413c) = wS_424 at M_429 B_431 M_430 M_425 M_426 M_427 M_428 c_423 hHeld_432 ⊢
          refine wpAnyH_done (by kernel_rfl) ?_ _
          clear hHeld_432
          obtain ⟨r0, r1⟩ := B_431.out.one
          go_wp2
          refine bodyPost_ret (v := .agg #[.slice Z_413o Z_413n Z_413c]) (by simp [results, Tryd.results80, go_sem, *]) rfl ?_
          rw [HD.out]
          exact xout_mk M_428.out c_423
      · skip
        go_simp
        have al_434 : Since z ((z.alloc (.cells #[.slice none 0 0] 26)).drew) := ((Since.refl _).alloc _).drew
        have B_435 : Hid (Blk ((z.alloc (.cells #[.slice none 0 0] 26)).drew) z.heap.size 26 #[.slice none 0 0]) := (Blk.new rfl _ _ : Blk (z.alloc (.cells #[.slice none 0 0] 26)) _ _ _).drew
        have zA_433 : w.heap.size ≤ z.heap.size := hsz.size
        have yA_433_N : g < z.heap.size := BXZ.out.lt
        have yA_433_R : w.heap.size < z.heap.size := BZ.out.lt
        have c_436 := Since.trans hsz al_434
        have M_437 := Lib.hid (BXZ.out.since al_434)
        clear BXZ
        have M_438 := Lib.hid (BZ.out.since al_434)
        clear BZ
        clear al_434
        refine hK.out _ _ (HKC.out _ M_437.out) (fun hHeld_439 => ?_)
        clear hK K hHeld_272
        try simp only [Act.put, List.setIfInBounds_toArray, List.set_cons_zero, List.set_cons_succ]
        obtain ⟨A_433, hA_433⟩ : ∃ A, A = z.heap.size := ⟨_, rfl⟩
        rw [← hA_433] at B_435 zA_433 yA_433_N yA_433_R
        try rw [← hA_433]
        clear hA_433
        generalize (z.alloc (.cells #[.slice none 0 0] 26)).drew = wA_440 at M_437 M_438 B_435 c_436 hHeld_439 ⊢
        refine take_run 1 rfl (by kernel_rfl) (by rfl) (fun K hK => ?_)
        go_simp
        refine (nodeExpr_any _ a b _ _ (HL.out.since c_436) (by omega)).mono ?_
        rintro en q_441 ⟨v_442, rfl, ⟨v_442b, rfl, ho_443, _⟩, hs_444⟩
        obtain ⟨e_445o, e_445n, e_445c, e_445N, rfl⟩ := ho_443.lenN
        have O_446 := Lib.hid (ho_443.mono (base' := w.heap.size) c_436.size)
        clear ho_443
        have c_447 := Since.trans c_436 hs_444
        have M_448 := Lib.hid (M_437.out.since hs_444)
        clear M_437
        have M_449 := Lib.hid (M_438.out.since hs_444)
        clear M_438
        have M_450 := Lib.hid (B_435.out.since hs_444)
        clear B_435
        clear hs_444
        refine hK.out _ _ (HKC.out _ M_448.out) (fun hHeld_451 => ?_)
        clear hK K hHeld_439
        try simp only [Act.put, List.setIfInBounds_toArray, List.set_cons_zero, List.set_cons_succ]
        refine take_run 15 rfl (by kernel_rfl) (by rfl) (fun K hK => ?_)
        go_simp
        rw [HMX.out]
        refine (implPE8_any _ l.post (max 0 (lo - 1)) (hi - 1) _ ⟨_, rfl, O_446.out.at⟩ (by omega) (by unfold InI; omega) (by unfold InI; omega)).mono ?_
        rintro en q_452 ⟨v_453, rfl, ⟨v_453b, rfl, ho_454, _⟩, hs_455⟩
        obtain ⟨p_456o, p_456n, p_456c, p_456N, rfl⟩ := ho_454.lenN
        have O_457 := Lib.hid (ho_454.mono (base' := w.heap.size) c_447.size)
        clear ho_454
        have c_458 := Since.trans c_447 hs_455
        have M_459 := Lib.hid (M_448.out.since hs_455)
        clear M_448
        have M_460 := Lib.hid (M_449.out.since hs_455)
        clear M_449
        have M_461 := Lib.hid (M_450.out.since hs_455)
        clear M_450
        have M_462 := Lib.hid (O_446.out.since hs_455)
        clear O_446
        clear hs_455
        refine hK.out _ _ (HKC.out _ M_459.out) (fun hHeld_463 => ?_)
        clear hK K hHeld_451
        try simp only [Act.put, List.setIfInBounds_toArray, List.set_cons_zero, List.set_cons_succ]
        refine take_run 17 rfl (by kernel_rfl) (by rfl) (fun K hK => ?_)
        obtain ⟨q0, q1⟩ := M_461.out.one
        go_simp
        clear q0 q1
        have c_464 := Since.setCell c_458 (a := ⟨A_433, 0, none⟩) (by show w.heap.size ≤ A_433; omega) (.slice p_456o p_456n p_456c)
        have M_466 := Lib.hid (M_462.out.farT M_461.out (by decide) 0 (.slice p_456o p_456n p_456c))
        clear M_462
        have M_467 := Lib.hid (O_457.out.farT M_461.out (by decide) 0 (.slice p_456o p_456n p_456c))
        clear O_457
        have M_468 := Lib.hid (M_459.out.far (p := ⟨A_433, 0, none⟩) (by show g ≠ A_433; omega) (.slice p_456o p_456n p_456c))
        clear M_459
        have M_469 := Lib.hid (M_460.out.far (p := ⟨A_433, 0, none⟩) (by show w.heap.size ≠ A_433; omega) (.slice p_456o p_456n p_456c))
        clear M_460
        have B_470 := Lib.hid (M_461.out.set 0 (.slice p_456o p_456n p_456c))
        clear M_461
        refine hK.out _ _ (HKC.out _ M_468.out) (fun hHeld_471 => ?_)
        clear hK K hHeld_463
        try simp only [Act.put, List.setIfInBounds_toArray, List.set_cons_zero, List.set_cons_succ]
        generalize q_452.setCell ⟨A_433, 0, none⟩ (.slice p_456o p_456n p_456c) = wS_465 at M_468 M_469 B_470 M_466 M_467 c_464 hHeld_471 ⊢
        refine wpAnyH_done (by kernel_rfl) ?_ _
        clear hHeld_471 HKC
        go_upto_region 17 with fail
        have HKC : Hid (∀ w', Blk w' A_433 26 #[.slice p_456o p_456n p_456c] → w'.cell? ⟨A_433, 0, none⟩ = some (.slice p_456o p_456n p_456c)) := by
          intro w' hb0
          obtain ⟨r00, _⟩ := hb0.one
          exact r00
        refine wp_region_held_drew (S := (fun w' => w'.cell? ⟨A_433, 0, none⟩ = some (.slice p_456o p_456n p_456c))) (by kernel_rfl) (HKC.out _ (B_470.out.drew)) (fun hHeld => ?_)
        refine take_yes 0 (some 85) (v := ?_) rfl (by kernel_rfl) (by kernel_rfl) (by kernel_rfl) (by kernel_rfl) (fun _ _ _ h => h) (by rfl) (by assumption) ?_ ?_
        rotate_left
        · (intro w' hSw; (try dsimp only at hSw); go_simp; try with_reducible rfl)
        try simp only [Act.put, List.setIfInBounds_toArray, List.set_cons_zero, List.set_cons_succ]
        refine take_yes 1 (some 86) (v := ?_) rfl (by kernel_rfl) (by kernel_rfl) (by kernel_rfl) (by kernel_rfl) (fun _ _ _ h => h) (by rfl) (by assumption) ?_ ?_
        rotate_left
        · (intro w' hSw; (try dsimp only at hSw); go_simp; try with_reducible rfl)
        try simp only [Act.put, List.setIfInBounds_toArray, List.set_cons_zero, List.set_cons_succ]
        refine take_yes 3 (some 88) (v := ?_) rfl (by kernel_rfl) (by kernel_rfl) (by kernel_rfl) (by kernel_rfl) (fun _ _ _ h => h) (by rfl) (by assumption) ?_ ?_
        rotate_left
        · (intro w' hSw; (try dsimp only at hSw); go_simp; try with_reducible rfl)
        try simp only [Act.put, List.setIfInBounds_toArray, List.set_cons_zero, List.set_cons_succ]
        refine take_run 2 rfl (by kernel_rfl) (by rfl) (fun K hK => ?_)
        have dr_477 : Since wS_465 wS_465.drew := (Since.refl _).drew
        have c_478 := Since.trans c_464 dr_477
        have M_479 := Lib.hid (M_468.out.since dr_477)
        clear M_468
        have M_480 := Lib.hid (M_469.out.since dr_477)
        clear M_469
        have M_481 := Lib.hid (B_470.out.since dr_477)
        clear B_470
        have M_482 := Lib.hid (M_466.out.since dr_477)
        clear M_466
        have M_483 := Lib.hid (M_467.out.since dr_477)
        clear M_467
        clear dr_477
        go_simp
        refine (hl a b _ _ (HL.out.since c_478) hlo (by omega)).mono ?_
        rintro en q_472 ⟨v_473, rfl, ⟨v_473b, rfl, ho_474, _⟩, hs_475⟩
        obtain ⟨u_476o, u_476n, u_476c, u_476N, rfl⟩ := ho_474.lenN
        have O_484 := Lib.hid (ho_474.mono (base' := w.heap.size) c_478.size)
        clear ho_474
        have c_485 := Since.trans c_478 hs_475
        have M_486 := Lib.hid (M_479.out.since hs_475)
        clear M_479
        have M_487 := Lib.hid (M_480.out.since hs_475)
        clear M_480
        have M_488 := Lib.hid (M_481.out.since hs_475)
        clear M_481
        have M_489 := Lib.hid (M_482.out.since hs_475)
        clear M_482
        have M_490 := Lib.hid (M_483.out.since hs_475)
        clear M_483
        clear hs_475
        refine hK.out _ _ (HKC.out _ M_488.out) (fun hHeld_491 => ?_)
        clear hK K hHeld
        try simp only [Act.put, List.setIfInBounds_toArray, List.set_cons_zero, List.set_cons_succ]
        refine take_run 4 rfl (by kernel_rfl) (by rfl) (fun K hK => ?_)
        go_simp
        refine (implCE_any _ _ (derT c l) (repX l.post (max 0 (lo - 1)) (hi - 1)) _ ⟨_, rfl, O_484.out.at⟩ ⟨_, rfl, M_490.out.at⟩ (by omega) (by have := repX_len l.post (max 0 (lo - 1)) (hi - 1); omega)).mono ?_
        rintro en q_492 ⟨v_493, rfl, ⟨v_493b, rfl, ho_494, _⟩, hs_495⟩
        obtain ⟨Z_496o, Z_496n, Z_496c, Z_496N, rfl⟩ := ho_494.lenN
        have O_497 := Lib.hid (ho_494.mono (base' := w.heap.size) c_485.size)
        clear ho_494
        have c_498 := Since.trans c_485 hs_495
        have M_499 := Lib.hid (M_486.out.since hs_495)
        clear M_486
        have M_500 := Lib.hid (M_487.out.since hs_495)
        clear M_487
        have M_501 := Lib.hid (M_488.out.since hs_495)
        clear M_488
        have M_502 := Lib.hid (M_489.out.since hs_495)
        clear M_489
        have M_503 := Lib.hid (M_490.out.since hs_495)
        clear M_490
        have M_504 := Lib.hid (O_484.out.since hs_495)
        clear O_484
        clear hs_495
        refine hK.out _ _ (HKC.out _ M_501.out) (fun hHeld_505 => ?_)
        clear hK K hHeld_491
        try simp only [Act.put, List.setIfInBounds_toArray, List.set_cons_zero, List.set_cons_succ]
        refine take_run 5 rfl (by kernel_rfl) (by rfl) (fun K hK => ?_)
        obtain ⟨q0, q1⟩ := M_500.out.one
        go_simp
        clear q0 q1
        have c_506 := Since.setCell c_498 (a := ⟨w.heap.size, 0, none⟩) (by show w.heap.size ≤ w.heap.size; omega) (.slice Z_496o Z_496n Z_496c)
        have M_508 := Lib.hid (M_502.out.farT M_500.out (by decide) 0 (.slice Z_496o Z_496n Z_496c))
        clear M_502
        have M_509 := Lib.hid (M_503.out.farT M_500.out (by decide) 0 (.slice Z_496o Z_496n Z_496c))
        clear M_503
        have M_510 := Lib.hid (M_504.out.farT M_500.out (by decide) 0 (.slice Z_496o Z_496n Z_496c))
        clear M_504
        have M_511 := Lib.hid (O_497.out.farT M_500.out (by decide) 0 (.slice Z_496o Z_496n Z_496c))
        clear O_497
        have M_512 := Lib.hid (M_499.out.far (p := ⟨w.heap.size, 0, none⟩) (by show g ≠ w.heap.size; omega) (.slice Z_496o Z_496n Z_496c))
        clear M_499
        have M_513 := Lib.hid (M_501.out.far (p := ⟨w.heap.size, 0, none⟩) (by show A_433 ≠ w.heap.size; omega) (.slice Z_496o Z_496n Z_496c))
        clear M_501
        have B_514 := Lib.hid (M_500.out.set 0 (.slice Z_496o Z_496n Z_496c))
        clear M_500
        refine hK.out _ _ (HKC.out _ M_513.out) (fun hHeld_515 => ?_)
        clear hK K hHeld_505
        try simp only [Act.put, List.setIfInBounds_toArray, List.set_cons_zero, List.set_cons_succ]
        generalize q_492.setCell ⟨w.heap.size, 0, none⟩ (.slice Z_496o Z_496n Z_496c) = wS_507 at M_512 B_514 M_513 M_508 M_509 M_510 M_511 c_506 hHeld_515 ⊢
        refine wpAnyH_done (by kernel_rfl) ?_ _
        clear hHeld_515
        obtain ⟨r0, r1⟩ := B_514.out.one
        go_wp2
        refine bodyPost_ret (v := .agg #[.slice Z_496o Z_496n Z_496c]) (by simp [results, Tryd.results80, go_sem, *]) rfl ?_
        rw [HD.out]
        exact xout_mk M_511.out c_506
    · skip
      go_simp
      have al_517 : Since z ((z.alloc (.cells #[.slice none 0 0] 26)).drew) := ((Since.refl _).alloc _).drew
      have B_518 : Hid (Blk ((z.alloc (.cells #[.slice none 0 0] 26)).drew) z.heap.size 26 #[.slice none 0 0]) := (Blk.new rfl _ _ : Blk (z.alloc (.cells #[.slice none 0 0] 26)) _ _ _).drew
      have zA_516 : w.heap.size ≤ z.heap.size := hsz.size
      have yA_516_N : g < z.heap.size := BXZ.out.lt
      have yA_516_R : w.heap.size < z.heap.size := BZ.out.lt
      have c_519 := Since.trans hsz al_517
      have M_520 := Lib.hid (BXZ.out.since al_517)
      clear BXZ
      have M_521 := Lib.hid (BZ.out.since al_517)
      clear BZ
      clear al_517
      refine hK.out _ _ (HKC.out _ M_520.out) (fun hHeld_522 => ?_)
      clear hK K hHeld
      try simp only [Act.put, List.setIfInBounds_toArray, List.set_cons_zero, List.set_cons_succ]
      obtain ⟨A_516, hA_516⟩ : ∃ A, A = z.heap.size := ⟨_, rfl⟩
      rw [← hA_516] at B_518 zA_516 yA_516_N yA_516_R
      try rw [← hA_516]
      clear hA_516
      generalize (z.alloc (.cells #[.slice none 0 0] 26)).drew = wA_523 at M_520 M_521 B_518 c_519 hHeld_522 ⊢
      refine take_two 1 8 rfl rfl (by kernel_rfl) (by rfl) (by rfl) (fun K hK => ?_) (fun K hK => ?_)
      · skip
        go_simp
        refine (nodeExpr_any _ a b _ _ (HL.out.since c_519) (by omega)).mono ?_
        rintro en q_524 ⟨v_525, rfl, ⟨v_525b, rfl, ho_526, _⟩, hs_527⟩
        obtain ⟨e_528o, e_528n, e_528c, e_528N, rfl⟩ := ho_526.lenN
        have O_529 := Lib.hid (ho_526.mono (base' := w.heap.size) c_519.size)
        clear ho_526
        have c_530 := Since.trans c_519 hs_527
        have M_531 := Lib.hid (M_520.out.since hs_527)
        clear M_520
        have M_532 := Lib.hid (M_521.out.since hs_527)
        clear M_521
        have M_533 := Lib.hid (B_518.out.since hs_527)
        clear B_518
        clear hs_527
        refine hK.out _ _ (HKC.out _ M_531.out) (fun hHeld_534 => ?_)
        clear hK K hHeld_522
        try simp only [Act.put, List.setIfInBounds_toArray, List.set_cons_zero, List.set_cons_succ]
        refine take_run 8 rfl (by kernel_rfl) (by rfl) (fun K hK => ?_)
        go_simp
        refine hK.out _ _ (HKC.out _ M_531.out) (fun hHeld_535 => ?_)
        clear hK K hHeld_534
        try simp only [Act.put, List.setIfInBounds_toArray, List.set_cons_zero, List.set_cons_succ]
        refine take_run 15 rfl (by kernel_rfl) (by rfl) (fun K hK => ?_)
        go_simp
        rw [HMX.out]
        refine (implPE8_any _ l.post (max 0 (lo - 1)) (hi - 1) _ ⟨_, rfl, O_529.out.at⟩ (by omega) (by unfold InI; omega) (by unfold InI; omega)).mono ?_
        rintro en q_536 ⟨v_537, rfl, ⟨v_537b, rfl, ho_538, _⟩, hs_539⟩
        obtain ⟨p_540o, p_540n, p_540c, p_540N, rfl⟩ := ho_538.lenN
        have O_541 := Lib.hid (ho_538.mono (base' := w.heap.size) c_530.size)
        clear ho_538
        have c_542 := Since.trans c_530 hs_539
        have M_543 := Lib.hid (M_531.out.since hs_539)
        clear M_531
        have M_544 := Lib.hid (M_532.out.since hs_539)
        clear M_532
        have M_545 := Lib.hid (M_533.out.since hs_539)
        clear M_533
        have M_546 := Lib.hid (O_529.out.since hs_539)
        clear O_529
        clear hs_539
        refine hK.out _ _ (HKC.out _ M_543.out) (fun hHeld_547 => ?_)
        clear hK K hHeld_535
        try simp only [Act.put, List.setIfInBounds_toArray, List.set_cons_zero, List.set_cons_succ]
        refine take_run 17 rfl (by kernel_rfl) (by rfl) (fun K hK => ?_)
        obtain ⟨q0, q1⟩ := M_545.out.one
        go_simp
        clear q0 q1
        have c_548 := Since.setCell c_542 (a := ⟨A_516, 0, none⟩) (by show w.heap.size ≤ A_516; omega) (.slice p_540o p_540n p_540c)
        have M_550 := Lib.hid (M_546.out.farT M_545.out (by decide) 0 (.slice p_540o p_540n p_540c))
        clear M_546
        have M_551 := Lib.hid (O_541.out.farT M_545.out (by decide) 0 (.slice p_540o p_540n p_540c))
        clear O_541
        have M_552 := Lib.hid (M_543.out.far (p := ⟨A_516, 0, none⟩) (by show g ≠ A_516; omega) (.slice p_540o p_540n p_540c))
        clear M_543
        have M_553 := Lib.hid (M_544.out.far (p := ⟨A_516, 0, none⟩) (by show w.heap.size ≠ A_516; omega) (.slice p_540o p_540n p_540c))
        clear M_544
        have B_554 := Lib.hid (M_545.out.set 0 (.slice p_540o p_540n p_540c))
        clear M_545
        refine hK.out _ _ (HKC.out _ M_552.out) (fun hHeld_555 => ?_)
        clear hK K hHeld_547
        try simp only [Act.put, List.setIfInBounds_toArray, List.set_cons_zero, List.set_cons_succ]
        generalize q_536.setCell ⟨A_516, 0, none⟩ (.slice p_540o p_540n p_540c) = wS_549 at M_552 M_553 B_554 M_550 M_551 c_548 hHeld_555 ⊢
        refine wpAnyH_done (by kernel_rfl) ?_ _
        clear hHeld_555 HKC
        go_upto_region 17 with fail
        have HKC : Hid (∀ w', Blk w' A_516 26 #[.slice p_540o p_540n p_540c] → w'.cell? ⟨A_516, 0, none⟩ = some (.slice p_540o p_540n p_540c)) := by
          intro w' hb0
          obtain ⟨r00, _⟩ := hb0.one
          exact r00
        refine wp_region_held_drew (S := (fun w' => w'.cell? ⟨A_516, 0, none⟩ = some (.slice p_540o p_540n p_540c))) (by kernel_rfl) (HKC.out _ (B_554.out.drew)) (fun hHeld => ?_)
        refine take_yes 0 (some 85) (v := ?_) rfl (by kernel_rfl) (by kernel_rfl) (by kernel_rfl) (by kernel_rfl) (fun _ _ _ h => h) (by rfl) (by assumption) ?_ ?_
        rotate_left
        · (intro w' hSw; (try dsimp only at hSw); go_simp; try with_reducible rfl)
        try simp only [Act.put, List.setIfInBounds_toArray, List.set_cons_zero, List.set_cons_succ]
        refine take_yes 1 (some 86) (v := ?_) rfl (by kernel_rfl) (by kernel_rfl) (by kernel_rfl) (by kernel_rfl) (fun _ _ _ h => h) (by rfl) (by assumption) ?_ ?_
        rotate_left
        · (intro w' hSw; (try dsimp only at hSw); go_simp; try with_reducible rfl)
        try simp only [Act.put, List.setIfInBounds_toArray, List.set_cons_zero, List.set_cons_succ]
        refine take_yes 3 (some 88) (v := ?_) rfl (by kernel_rfl) (by kernel_rfl) (by kernel_rfl) (by kernel_rfl) (fun _ _ _ h => h) (by rfl) (by assumption) ?_ ?_
        rotate_left
        · (intro w' hSw; (try dsimp only at hSw); go_simp; try with_reducible rfl)
        try simp only [Act.put, List.setIfInBounds_toArray, List.set_cons_zero, List.set_cons_succ]
        refine take_run 2 rfl (by kernel_rfl) (by rfl) (fun K hK => ?_)
        have dr_561 : Since wS_549 wS_549.drew := (Since.refl _).drew
        have c_562 := Since.trans c_548 dr_561
        have M_563 := Lib.hid (M_552.out.since dr_561)
        clear M_552
        have M_564 := Lib.hid (M_553.out.since dr_561)
        clear M_553
        have M_565 := Lib.hid (B_554.out.since dr_561)
        clear B_554
        have M_566 := Lib.hid (M_550.out.since dr_561)
        clear M_550
        have M_567 := Lib.hid (M_551.out.since dr_561)
        clear M_551
        clear dr_561
        go_simp
        refine (hl a b _ _ (HL.out.since c_562) hlo (by omega)).mono ?_
        rintro en q_556 ⟨v_557, rfl, ⟨v_557b, rfl, ho_558, _⟩, hs_559⟩
        obtain ⟨u_560o, u_560n, u_560c, u_560N, rfl⟩ := ho_558.lenN
        have O_568 := Lib.hid (ho_558.mono (base' := w.heap.size) c_562.size)
        clear ho_558
        have c_569 := Since.trans c_562 hs_559
        have M_570 := Lib.hid (M_563.out.since hs_559)
        clear M_563
        have M_571 := Lib.hid (M_564.out.since hs_559)
        clear M_564
        have M_572 := Lib.hid (M_565.out.since hs_559)
        clear M_565
        have M_573 := Lib.hid (M_566.out.since hs_559)
        clear M_566
        have M_574 := Lib.hid (M_567.out.since hs_559)
        clear M_567
        clear hs_559
        refine hK.out _ _ (HKC.out _ M_572.out) (fun hHeld_575 => ?_)
        clear hK K hHeld
        try simp only [Act.put, List.setIfInBounds_toArray, List.set_cons_zero, List.set_cons_succ]
        refine take_run 4 rfl (by kernel_rfl) (by rfl) (fun K hK => ?_)
        go_simp
        refine (implCE_any _ _ (derT c l) (repX l.post (max 0 (lo - 1)) (hi - 1)) _ ⟨_, rfl, O_568.out.at⟩ ⟨_, rfl, M_574.out.at⟩ (by omega) (by have := repX_len l.post (max 0 (lo - 1)) (hi - 1); omega)).mono ?_
        rintro en q_576 ⟨v_577, rfl, ⟨v_577b, rfl, ho_578, _⟩, hs_579⟩
        obtain ⟨Z_580o, Z_580n, Z_580c, Z_580N, rfl⟩ := ho_578.lenN
        have O_581 := Lib.hid (ho_578.mono (base' := w.heap.size) c_569.size)
        clear ho_578
        have c_582 := Since.trans c_569 hs_579
        have M_583 := Lib.hid (M_570.out.since hs_579)
        clear M_570
        have M_584 := Lib.hid (M_571.out.since hs_579)
        clear M_571
        have M_585 := Lib.hid (M_572.out.since hs_579)
        clear M_572
        have M_586 := Lib.hid (M_573.out.since hs_579)
        clear M_573
        have M_587 := Lib.hid (M_574.out.since hs_579)
        clear M_574
        have M_588 := Lib.hid (O_568.out.since hs_579)
        clear O_568
        clear hs_579
        refine hK.out _ _ (HKC.out _ M_585.out) (fun hHeld_589 => ?_)
        clear hK K hHeld_575
        try simp only [Act.put, List.setIfInBounds_toArray, List.set_cons_zero, List.set_cons_succ]
        refine take_run 5 rfl (by kernel_rfl) (by rfl) (fun K hK => ?_)
        obtain ⟨q0, q1⟩ := M_584.out.one
        go_simp
        clear q0 q1
        have c_590 := Since.setCell c_582 (a := ⟨w.heap.size, 0, none⟩) (by show w.heap.size ≤ w.heap.size; omega) (.slice Z_580o Z_580n Z_580c)
        have M_592 := Lib.hid (M_586.out.farT M_584.out (by decide) 0 (.slice Z_580o Z_580n Z_580c))
        clear M_586
        have M_593 := Lib.hid (M_587.out.farT M_584.out (by decide) 0 (.slice Z_580o Z_580n Z_580c))
        clear M_587
        have M_594 := Lib.hid (M_588.out.farT M_584.out (by decide) 0 (.slice Z_580o Z_580n Z_580c))
        clear M_588
        have M_595 := Lib.hid (O_581.out.farT M_584.out (by decide) 0 (.slice Z_580o Z_580n Z_580c))
        clear O_581
        have M_596 := Lib.hid (M_583.out.far (p := ⟨w.heap.size, 0, none⟩) (by show g ≠ w.heap.size; omega) (.slice Z_580o Z_580n Z_580c))
        clear M_583
        have M_597 := Lib.hid (M_585.out.far (p := ⟨w.heap.size, 0, none⟩) (by show A_516 ≠ w.heap.size; omega) (.slice Z_580o Z_580n Z_580c))
        clear M_585
        have B_598 := Lib.hid (M_584.out.set 0 (.slice Z_580o Z_580n Z_580c))
        clear M_584
        refine hK.out _ _ (HKC.out _ M_597.out) (fun hHeld_599 => ?_)
        clear hK K hHeld_589
        try simp only [Act.put, List.setIfInBounds_toArray, List.set_cons_zero, List.set_cons_succ]
        generalize q_576.setCell ⟨w.heap.size, 0, none⟩ (.slice Z_580o Z_580n Z_580c) = wS_591 at M_596 B_598 M_597 M_592 M_593 M_594 M_595 c_590 hHeld_599 ⊢
        refine wpAnyH_done (by kernel_rfl) ?_ _
        clear hHeld_599
        obtain ⟨r0, r1⟩ := B_598.out.one
        go_wp2
        refine bodyPost_ret (v := .agg #[.slice Z_580o Z_580n Z_580c]) (by simp [results, Tryd.results80, go_sem, *]) rfl ?_
        rw [HD.out]
        exact xout_mk M_595.out c_590
      · skip
        go_simp
        refine hK.out _ _ (HKC.out _ M_520.out) (fun hHeld_600 => ?_)
        clear hK K hHeld_522
        try simp only [Act.put, List.setIfInBounds_toArray, List.set_cons_zero, List.set_cons_succ]
        refine take_run 1 rfl (by kernel_rfl) (by rfl) (fun K hK => ?_)
        go_simp
        refine (nodeExpr_any _ a b _ _ (HL.out.since c_519) (by omega)).mono ?_
        rintro en q_601 ⟨v_602, rfl, ⟨v_602b, rfl, ho_603, _⟩, hs_604⟩
        obtain ⟨e_605o, e_605n, e_605c, e_605N, rfl⟩ := ho_603.lenN
        have O_606 := Lib.hid (ho_603.mono (base' := w.heap.size) c_519.size)
        clear ho_603
        have c_607 := Since.trans c_519 hs_604
        have M_608 := Lib.hid (M_520.out.since hs_604)
        clear M_520
        have M_609 := Lib.hid (M_521.out.since hs_604)
        clear M_521
        have M_610 := Lib.hid (B_518.out.since hs_604)
        clear B_518
        clear hs_604
        refine hK.out _ _ (HKC.out _ M_608.out) (fun hHeld_611 => ?_)
        clear hK K hHeld_600
        try simp only [Act.put, List.setIfInBounds_toArray, List.set_cons_zero, List.set_cons_succ]
        refine take_run 15 rfl (by kernel_rfl) (by rfl) (fun K hK => ?_)
        go_simp
        rw [HMX.out]
        refine (implPE8_any _ l.post (max 0 (lo - 1)) (hi - 1) _ ⟨_, rfl, O_606.out.at⟩ (by omega) (by unfold InI; omega) (by unfold InI; omega)).mono ?_
        rintro en q_612 ⟨v_613, rfl, ⟨v_613b, rfl, ho_614, _⟩, hs_615⟩
        obtain ⟨p_616o, p_616n, p_616c, p_616N, rfl⟩ := ho_614.lenN
        have O_617 := Lib.hid (ho_614.mono (base' := w.heap.size) c_607.size)
        clear ho_614
        have c_618 := Since.trans c_607 hs_615
        have M_619 := Lib.hid (M_608.out.since hs_615)
        clear M_608
        have M_620 := Lib.hid (M_609.out.since hs_615)
        clear M_609
        have M_621 := Lib.hid (M_610.out.since hs_615)
        clear M_610
        have M_622 := Lib.hid (O_606.out.since hs_615)
        clear O_606
        clear hs_615
        refine hK.out _ _ (HKC.out _ M_619.out) (fun hHeld_623 => ?_)
        clear hK K hHeld_611
        try simp only [Act.put, List.setIfInBounds_toArray, List.set_cons_zero, List.set_cons_succ]
        refine take_run 17 rfl (by kernel_rfl) (by rfl) (fun K hK => ?_)
        obtain ⟨q0, q1⟩ := M_621.out.one
        go_simp
        clear q0 q1
        have c_624 := Since.setCell c_618 (a := ⟨A_516, 0, none⟩) (by show w.heap.size ≤ A_516; omega) (.slice p_616o p_616n p_616c)
        have M_626 := Lib.hid (M_622.out.farT M_621.out (by decide) 0 (.slice p_616o p_616n p_616c))
        clear M_622
        have M_627 := Lib.hid (O_617.out.farT M_621.out (by decide) 0 (.slice p_616o p_616n p_616c))
        clear O_617
        have M_628 := Lib.hid (M_619.out.far (p := ⟨A_516, 0, none⟩) (by show g ≠ A_516; omega) (.slice p_616o p_616n p_616c))
        clear M_619
        have M_629 := Lib.hid (M_620.out.far (p := ⟨A_516, 0, none⟩) (by show w.heap.size ≠ A_516; omega) (.slice p_616o p_616n p_616c))
        clear M_620
        have B_630 := Lib.hid (M_621.out.set 0 (.slice p_616o p_616n p_616c))
        clear M_621
        refine hK.out _ _ (HKC.out _ M_628.out) (fun hHeld_631 => ?_)
        clear hK K hHeld_623
        try simp only [Act.put, List.setIfInBounds_toArray, List.set_cons_zero, List.set_cons_succ]
        generalize q_612.setCell ⟨A_516, 0, none⟩ (.slice p_616o p_616n p_616c) = wS_625 at M_628 M_629 B_630 M_626 M_627 c_624 hHeld_631 ⊢
        refine wpAnyH_done (by kernel_rfl) ?_ _
        clear hHeld_631 HKC
        go_upto_region 17 with fail
        have HKC : Hid (∀ w', Blk w' A_516 26 #[.slice p_616o p_616n p_616c] → w'.cell? ⟨A_516, 0, none⟩ = some (.slice p_616o p_616n p_616c)) := by
          intro w' hb0
          obtain ⟨r00, _⟩ := hb0.one
          exact r00
        refine wp_region_held_drew (S := (fun w' => w'.cell? ⟨A_516, 0, none⟩ = some (.slice p_616o p_616n p_616c))) (by kernel_rfl) (HKC.out _ (B_630.out.drew)) (fun hHeld => ?_)
        refine take_yes 0 (some 85) (v := ?_) rfl (by kernel_rfl) (by kernel_rfl) (by kernel_rfl) (by kernel_rfl) (fun _ _ _ h => h) (by rfl) (by assumption) ?_ ?_
        rotate_left
        · (intro w' hSw; (try dsimp only at hSw); go_simp; try with_reducible rfl)
        try simp only [Act.put, List.setIfInBounds_toArray, List.set_cons_zero, List.set_cons_succ]
        refine take_yes 1 (some 86) (v := ?_) rfl (by kernel_rfl) (by kernel_rfl) (by kernel_rfl) (by kernel_rfl) (fun _ _ _ h => h) (by rfl) (by assumption) ?_ ?_
        rotate_left
        · (intro w' hSw; (try dsimp only at hSw); go_simp; try with_reducible rfl)
        try simp only [Act.put, List.setIfInBounds_toArray, List.set_cons_zero, List.set_cons_succ]
        refine take_yes 3 (some 88) (v := ?_) rfl (by kernel_rfl) (by kernel_rfl) (by kernel_rfl) (by kernel_rfl) (fun _ _ _ h => h) (by rfl) (by assumption) ?_ ?_
        rotate_left
        · (intro w' hSw; (try dsimp only at hSw); go_simp; try with_reducible rfl)
        try simp only [Act.put, List.setIfInBounds_toArray, List.set_cons_zero, List.set_cons_succ]
        refine take_run 2 rfl (by kernel_rfl) (by rfl) (fun K hK => ?_)
        have dr_637 : Since wS_625 wS_625.drew := (Since.refl _).drew
        have c_638 := Since.trans c_624 dr_637
        have M_639 := Lib.hid (M_628.out.since dr_637)
        clear M_628
        have M_640 := Lib.hid (M_629.out.since dr_637)
        clear M_629
        have M_641 := Lib.hid (B_630.out.since dr_637)
        clear B_630
        have M_642 := Lib.hid (M_626.out.since dr_637)
        clear M_626
        have M_643 := Lib.hid (M_627.out.since dr_637)
        clear M_627
        clear dr_637
        go_simp
        refine (hl a b _ _ (HL.out.since c_638) hlo (by omega)).mono ?_
        rintro en q_632 ⟨v_633, rfl, ⟨v_633b, rfl, ho_634, _⟩, hs_635⟩
        obtain ⟨u_636o, u_636n, u_636c, u_636N, rfl⟩ := ho_634.lenN
        have O_644 := Lib.hid (ho_634.mono (base' := w.heap.size) c_638.size)
        clear ho_634
        have c_645 := Since.trans c_638 hs_635
        have M_646 := Lib.hid (M_639.out.since hs_635)
        clear M_639
        have M_647 := Lib.hid (M_640.out.since hs_635)
        clear M_640
        have M_648 := Lib.hid (M_641.out.since hs_635)
        clear M_641
        have M_649 := Lib.hid (M_642.out.since hs_635)
        clear M_642
        have M_650 := Lib.hid (M_643.out.since hs_635)
        clear M_643
        clear hs_635
        refine hK.out _ _ (HKC.out _ M_648.out) (fun hHeld_651 => ?_)
        clear hK K hHeld
        try simp only [Act.put, List.setIfInBounds_toArray, List.set_cons_zero, List.set_cons_succ]
        refine take_run 4 rfl (by kernel_rfl) (by rfl) (fun K hK => ?_)
        go_simp
        refine (implCE_any _ _ (derT c l) (repX l.post (max 0 (lo - 1)) (hi - 1)) _ ⟨_, rfl, O_644.out.at⟩ ⟨_, rfl, M_650.out.at⟩ (by omega) (by have := repX_len l.post (max 0 (lo - 1)) (hi - 1); omega)).mono ?_
        rintro en q_652 ⟨v_653, rfl, ⟨v_653b, rfl, ho_654, _⟩, hs_655⟩
        obtain ⟨Z_656o, Z_656n, Z_656c, Z_656N, rfl⟩ := ho_654.lenN
        have O_657 := Lib.hid (ho_654.mono (base' := w.heap.size) c_645.size)
        clear ho_654
        have c_658 := Since.trans c_645 hs_655
        have M_659 := Lib.hid (M_646.out.since hs_655)
        clear M_646
        have M_660 := Lib.hid (M_647.out.since hs_655)
        clear M_647
        have M_661 := Lib.hid (M_648.out.since hs_655)
        clear M_648
        have M_662 := Lib.hid (M_649.out.since hs_655)
        clear M_649
        have M_663 := Lib.hid (M_650.out.since hs_655)
        clear M_650
        have M_664 := Lib.hid (O_644.out.since hs_655)
        clear O_644
        clear hs_655
        refine hK.out _ _ (HKC.out _ M_661.out) (fun hHeld_665 => ?_)
        clear hK K hHeld_651
        try simp only [Act.put, List.setIfInBounds_toArray, List.set_cons_zero, List.set_cons_succ]
        refine take_run 5 rfl (by kernel_rfl) (by rfl) (fun K hK => ?_)
        obtain ⟨q0, q1⟩ := M_660.out.one
        go_simp
        clear q0 q1
        have c_666 := Since.setCell c_658 (a := ⟨w.heap.size, 0, none⟩) (by show w.heap.size ≤ w.heap.size; omega) (.slice Z_656o Z_656n Z_656c)
        have M_668 := Lib.hid (M_662.out.farT M_660.out (by decide) 0 (.slice Z_656o Z_656n Z_656c))
        clear M_662
        have M_669 := Lib.hid (M_663.out.farT M_660.out (by decide) 0 (.slice Z_656o Z_656n Z_656c))
        clear M_663
        have M_670 := Lib.hid (M_664.out.farT M_660.out (by decide) 0 (.slice Z_656o Z_656n Z_656c))
        clear M_664
        have M_671 := Lib.hid (O_657.out.farT M_660.out (by decide) 0 (.slice Z_656o Z_656n Z_656c))
        clear O_657
        have M_672 := Lib.hid (M_659.out.far (p := ⟨w.heap.size, 0, none⟩) (by show g ≠ w.heap.size; omega) (.slice Z_656o Z_656n Z_656c))
        clear M_659
        have M_673 := Lib.hid (M_661.out.far (p := ⟨w.heap.size, 0, none⟩) (by show A_516 ≠ w.heap.size; omega) (.slice Z_656o Z_656n Z_656c))
        clear M_661
        have B_674 := Lib.hid (M_660.out.set 0 (.slice Z_656o Z_656n Z_656c))
        clear M_660
        refine hK.out _ _ (HKC.out _ M_673.out) (fun hHeld_675 => ?_)
        clear hK K hHeld_665
        try simp only [Act.put, List.setIfInBounds_toArray, List.set_cons_zero, List.set_cons_succ]
        generalize q_652.setCell ⟨w.heap.size, 0, none⟩ (.slice Z_656o Z_656n Z_656c) = wS_667 at M_672 B_674 M_673 M_668 M_669 M_670 M_671 c_666 hHeld_675 ⊢
        refine wpAnyH_done (by kernel_rfl) ?_ _
        clear hHeld_675
        obtain ⟨r0, r1⟩ := B_674.out.one
        go_wp2
        refine bodyPost_ret (v := .agg #[.slice Z_656o Z_656n Z_656c]) (by simp [results, Tryd.results80, go_sem, *]) rfl ?_
        rw [HD.out]
        exact xout_mk M_671.out c_666
end Go.Proofs.YtiojgahjfndmdaaDoor

/- Derivatives of trees, the program's: all trees. -/
namespace Go.Proofs.YtiojgahjfndmdaaDoor
set_option maxRecDepth 100000
open Go.ChangeShapes Go.WideShapes Go.ChangeAt Go.RowKit
set_option linter.unusedVariables false
set_option linter.unusedSimpArgs false

theorem derivative_any (c : Int) (T : Tr) : DerI c T := by
  induction T with
  | nil => intro a0 b0 v w hv h; exact h.elim
  | node t l r hl hr =>
    intro a0 b0 v w hv hok
    obtain ⟨kd, lr, lo, hi⟩ := t
    have hk := okT_kd hok.1
    dsimp only at hk
    rcases (by omega : kd = 1 ∨ kd = 2 ∨ kd = 3 ∨ kd = 4 ∨ kd = 5 ∨ kd = 6 ∨ kd = 7) with rfl | rfl | rfl | rfl | rfl | rfl | rfl
    · exact derI_none c lr lo hi l r hl hr a0 b0 v w hv hok
    · exact derI_empty c lr lo hi l r hl hr a0 b0 v w hv hok
    · exact derI_letter c lr lo hi l r hl hr a0 b0 v w hv hok
    · exact derI_cat c lr lo hi l r hl hr a0 b0 v w hv hok
    · exact derI_uni c lr lo hi l r hl hr a0 b0 v w hv hok
    · exact derI_star c lr lo hi l r hl hr a0 b0 v w hv hok
    · exact derI_rep c lr lo hi l r hl hr a0 b0 v w hv hok
end Go.Proofs.YtiojgahjfndmdaaDoor
