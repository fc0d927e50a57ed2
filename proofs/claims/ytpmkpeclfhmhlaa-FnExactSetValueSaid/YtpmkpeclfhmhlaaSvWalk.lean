/- The law of SetValue, walked. -/
import Derived.Test.YtpmkpeclfhmhlaaSvS
import Derived.Test.YtpmkpeclfhmhlaaSvI
import Derived.Test.YtpmkpeclfhmhlaaMarkG
import Derived.Test.YtpmkpeclfhmhlaaLawM
namespace Go.Proofs.Ytpmkpeclfhmhlaa
set_option maxRecDepth 100000
open Go.ChangeShapes Go.WideShapes Go.ChangeAt Go.RowKit
set_option linter.unusedVariables false
set_option linter.unusedSimpArgs false

set_option maxHeartbeats 4000000 in
set_option maxRecDepth 100000 in
theorem fnExactSetValue_walk (v : Value) (node : Int) (x : Int) (g : Grf) (hwnode : (Lit.int .i64 node).wf = true) (hwx : (Lit.int .i64 x).wf = true) (w : World) (h : GrfAt w v g) (hl : g.vs.length ≤ maxLen ∧ g.es.length ≤ maxLen) :
    Calls Try.prog 6 #[v, .int .i64 node, .int .i64 x] w fun e w' => e = .returned (.bool true) ∧ Since w w' := by
  have HG := Lib.hid h
  obtain ⟨a, b, rfl, ha, hb⟩ := h
  obtain ⟨ao, ac, rfl, _⟩ := ha.row
  obtain ⟨bo, bc, rfl⟩ := hb.len
  clear ha hb
  obtain ⟨n, hn⟩ : ∃ n, n = g.vs.length := ⟨_, rfl⟩
  obtain ⟨m, hm⟩ : ∃ m, m = g.es.length := ⟨_, rfl⟩
  rw [← hn, ← hm] at HG ⊢
  have HL := Lib.hid hl
  clear hn hm hl
  have hs0 : Since w (w.alloc (.cells #[.slice ao n ac, .slice bo m bc] 25)) := (Since.refl w).alloc _
  have B0 : Hid (Blk (w.alloc (.cells #[.slice ao n ac, .slice bo m bc] 25)) w.heap.size 25 #[.slice ao n ac, .slice bo m bc]) := Blk.new rfl _ _
  have hz0 : Hid (w.heap.size + 1 = (w.alloc (.cells #[.slice ao n ac, .slice bo m bc] 25)).heap.size) := by unfold Hid; simp
  by_cases hz : szG g 1048576 < 0
  · obtain ⟨x0, hx⟩ : ∃ x0, x0 = szG g 1048576 := ⟨_, rfl⟩
    rw [← hx] at hz
    have HX := Lib.hid hx
    clear hx
    go_enter Try.func6, Try.ntmps6
    go_wp2_with fail
    refine (szG_is _ g 1048576 x0 _ (HG.out.since hs0) HL.out (by decide) (by decide) HX.out.symm).mono ?_
    rintro e w1 ⟨rfl, hs1⟩
    have hs := hs0.trans hs1
    go_wp2
    go_ret
    exact ⟨rfl, hs⟩
  · obtain ⟨g1, g2, g3, _⟩ := szG_small hz
    have g4 : g.vs.length ≤ 1152921504606846976 := by omega
    have g5 : g.es.length ≤ 1152921504606846976 := by omega
    have HS : Hid (∀ u W, GrfAt W u g → Calls Try.prog 26 #[u, .int .i64 node, .int .i64 x] W (GBOut W (setG g node x) (canSet g node x))) := fun u W hu => specSV_any u g node x W hu g1 g2 (wf_in hwx)
    have HI : Hid (∀ u W, GrfAt W u g → Calls Try.prog 27 #[u, .int .i64 node, .int .i64 x] W (GBOut W (setG g node x) (canSet g node x))) := fun u W hu => implSV_any u g node x W hu g1 g2 (wf_in hwx)
    have q1 : (setG g node x).vs.length ≤ 1048578 := by have := setG_vs g node x; omega
    have q2 : (setG g node x).es.length ≤ 1048578 := by have := setG_es g node x; omega
    generalize setG g node x = R at HS HI q1 q2
    generalize canSet g node x = C at HS HI
    have q3 : R.vs.length ≤ 1152921504606846976 := by omega
    have q4 : R.es.length ≤ 1152921504606846976 := by omega
    have q5 : R.vs.length ≤ 1152921504 := by omega
    have q6 : R.es.length ≤ 1152921504 := by omega
    have g6 : g.vs.length ≤ 1152921504 := by omega
    have g7 : g.es.length ≤ 1152921504 := by omega
    obtain ⟨kx, hkx⟩ : ∃ kx : Int, kx = 1 + szOf g := ⟨_, rfl⟩
    obtain ⟨kr, hkr⟩ : ∃ kr : Int, kr = 1 + szOf R := ⟨_, rfl⟩
    have dkx : decide (kx < 0) = false := by unfold szOf at hkx; simp; omega
    have dkr : decide (kr < 0) = false := by unfold szOf at hkr; simp; omega
    have ekr : (kr != kr) = false := by simp
    have HKX := Lib.hid hkx
    have HKR := Lib.hid hkr
    have dgg : decide (g = g) = true := by simp
    have dRR : decide (R = R) = true := by simp
    have eCC : (C != C) = false := by simp
    clear hkx hkr g3
    obtain ⟨x0, hx⟩ : ∃ x0, x0 = szG g 1048576 := ⟨_, rfl⟩
    rw [← hx] at hz
    have HX := Lib.hid hx
    clear hx
    go_enter Try.func6, Try.ntmps6
    go_wp2_with fail
    generalize (w.alloc (.cells #[.slice ao n ac, .slice bo m bc] 25)) = y0 at hs0 B0 hz0 ⊢
    refine (szG_is _ g 1048576 x0 _ (HG.out.since hs0) HL.out (by decide) (by decide) HX.out.symm).mono ?_
    rintro e w1 ⟨rfl, hs1⟩
    have hs01 := hs0.trans hs1
    have b1 := Lib.hid (B0.out.since hs1)
    have z1 : w.heap.size + 1 ≤ w1.heap.size := by have := hz0.out; have := hs1.size; omega
    clear hs0 B0 hz0 hs1
    obtain ⟨p0, p1, _, _⟩ := b1.out.two
    go_wp2_with fail
    clear p0 p1
    refine (toGraph_any _ g _ (HG.out.since hs01) g1 g2).mono ?_
    rintro e w2 ⟨v2, rfl, ho2, hs2⟩
    have hs02 := hs01.trans hs2
    have b2 := Lib.hid (b1.out.since hs2)
    have z2 := hs2.size
    clear b1 hs01
    go_wp2_with fail
    refine (HS.out _ _ ho2.at).mono ?_
    rintro e w3 ⟨v3, rfl, ho3, hs3⟩
    clear ho2 hs2
    have SW := Lib.hid ho3
    obtain ⟨wa, wb, rfl, ka, _, kb, _⟩ := ho3
    obtain ⟨wao, wac, rfl⟩ := ka.len
    obtain ⟨wbo, wbc, rfl⟩ := kb.len
    clear ka kb
    have z3 := hs3.size
    have hs03 := hs02.trans hs3
    have b3 := Lib.hid (b2.out.since hs3)
    have SB : Hid (Blk (w3.alloc (.cells #[.slice wao R.vs.length wac, .slice wbo R.es.length wbc] 30)) w3.heap.size 30 #[.slice wao R.vs.length wac, .slice wbo R.es.length wbc]) := Blk.new rfl _ _
    clear b2 hs02 hs3
    have hs03' := hs03.alloc (.cells #[.slice wao R.vs.length wac, .slice wbo R.es.length wbc] 30)
    have b3' := Lib.hid (b3.out.alloc (.cells #[.slice wao R.vs.length wac, .slice wbo R.es.length wbc] 30))
    have SW' := Lib.hid (SW.out.since ((Since.refl w3).alloc (.cells #[.slice wao R.vs.length wac, .slice wbo R.es.length wbc] 30)))
    have y3z : Hid (w3.heap.size + 1 = (w3.alloc (.cells #[.slice wao R.vs.length wac, .slice wbo R.es.length wbc] 30)).heap.size) := by unfold Hid; simp
    clear hs03 b3 SW
    obtain ⟨p0, p1, _, _⟩ := b3'.out.two
    go_wp2_with fail
    clear p0 p1
    generalize (w3.alloc (.cells #[.slice wao R.vs.length wac, .slice wbo R.es.length wbc] 30)) = y3 at hs03' b3' SW' SB y3z ⊢
    have lw : w2.heap.size ≤ w2.heap.size := Nat.le_refl _
    have c0 : w3.heap.size < y3.heap.size := by have := y3z.out; omega
    have c1 : w.heap.size < w2.heap.size := by omega
    clear y3z
    refine (toGraph_any _ g _ (HG.out.since hs03') g1 g2).mono ?_
    rintro e w4 ⟨v4, rfl, ho4, hs4⟩
    have XO := Lib.hid ho4
    obtain ⟨xa, xb, rfl, ka, _, kb, _⟩ := ho4
    obtain ⟨xao, xac, rfl⟩ := ka.len
    obtain ⟨xbo, xbc, rfl⟩ := kb.len
    clear ka kb
    have z4 := hs4.size
    have hs04 := (hs03'.trans hs4).alloc (.cells #[.slice xao g.vs.length xac, .slice xbo g.es.length xbc] 30)
    have hs4' := hs4.alloc (.cells #[.slice xao g.vs.length xac, .slice xbo g.es.length xbc] 30)
    have b4 := Lib.hid (b3'.out.since hs4')
    have SB4 := Lib.hid (SB.out.since hs4')
    have SW4 := Lib.hid (SW'.out.since hs4')
    have XO4 := Lib.hid (XO.out.since ((Since.refl w4).alloc (.cells #[.slice xao g.vs.length xac, .slice xbo g.es.length xbc] 30)))
    have XB4 : Hid (Blk (w4.alloc (.cells #[.slice xao g.vs.length xac, .slice xbo g.es.length xbc] 30)) w4.heap.size 30 #[.slice xao g.vs.length xac, .slice xbo g.es.length xbc]) := Blk.new rfl _ _
    have y4z : Hid (w4.heap.size + 1 = (w4.alloc (.cells #[.slice xao g.vs.length xac, .slice xbo g.es.length xbc] 30)).heap.size) := by unfold Hid; simp
    clear b3' SB SW' XO hs03' hs4 hs4'
    go_wp2_with fail
    generalize (w4.alloc (.cells #[.slice xao g.vs.length xac, .slice xbo g.es.length xbc] 30)) = y4 at hs04 b4 SB4 SW4 XO4 XB4 y4z ⊢
    have c2 : w4.heap.size < y4.heap.size := by have := y4z.out; omega
    clear y4z
    refine (HI.out _ _ XO4.out.at).mono ?_
    rintro e w5 ⟨v5, rfl, ho5, hs5⟩
    have GO := Lib.hid ho5
    obtain ⟨ga, gb, rfl, ka, _, kb, _⟩ := ho5
    obtain ⟨gao, gac, rfl⟩ := ka.len
    obtain ⟨gbo, gbc, rfl⟩ := kb.len
    clear ka kb
    have z5 := hs5.size
    have hs05 := (hs04.trans hs5).alloc (.cells #[.slice gao R.vs.length gac, .slice gbo R.es.length gbc] 30)
    have hs5' := hs5.alloc (.cells #[.slice gao R.vs.length gac, .slice gbo R.es.length gbc] 30)
    have b5 := Lib.hid (b4.out.since hs5')
    have SB5 := Lib.hid (SB4.out.since hs5')
    have SW5 := Lib.hid (SW4.out.since hs5')
    have XO5 := Lib.hid (XO4.out.since hs5')
    have XB5 := Lib.hid (XB4.out.since hs5')
    have GO5 := Lib.hid (GO.out.since ((Since.refl w5).alloc (.cells #[.slice gao R.vs.length gac, .slice gbo R.es.length gbc] 30)))
    have GB5 : Hid (Blk (w5.alloc (.cells #[.slice gao R.vs.length gac, .slice gbo R.es.length gbc] 30)) w5.heap.size 30 #[.slice gao R.vs.length gac, .slice gbo R.es.length gbc]) := Blk.new rfl _ _
    have y5z : Hid (w5.heap.size + 1 = (w5.alloc (.cells #[.slice gao R.vs.length gac, .slice gbo R.es.length gbc] 30)).heap.size) := by unfold Hid; simp
    clear b4 SB4 SW4 XO4 XB4 GO hs04 hs5 hs5'
    obtain ⟨p0, p1, _, _⟩ := SB5.out.two
    obtain ⟨r0, r1, _, _⟩ := GB5.out.two
    go_wp2_with fail
    clear p0 p1 r0 r1
    generalize (w5.alloc (.cells #[.slice gao R.vs.length gac, .slice gbo R.es.length gbc] 30)) = y5 at hs05 b5 SB5 SW5 XO5 XB5 GO5 GB5 y5z ⊢
    have c3 : w5.heap.size < y5.heap.size := by have := y5z.out; omega
    clear y5z
    refine (eqGraph_any _ _ R R _ GO5.out.at SW5.out.at q3 q4 q3 q4).mono ?_
    rintro e w6 ⟨rfl, hs6⟩
    have hs06 := hs05.trans hs6
    have b6 := Lib.hid (b5.out.since hs6)
    have SB6 := Lib.hid (SB5.out.since hs6)
    have SW6 := Lib.hid (SW5.out.since hs6)
    have XO6 := Lib.hid (XO5.out.since hs6)
    have XB6 := Lib.hid (XB5.out.since hs6)
    have GO6 := Lib.hid (GO5.out.since hs6)
    have GB6 := Lib.hid (GB5.out.since hs6)
    have z6 := hs6.size
    clear b5 SB5 SW5 XO5 XB5 GO5 GB5 hs05 hs6
    go_wp2_with fail
    have HKC : Hid (∀ w', Since w6 w' → w'.cell? ⟨w.heap.size, 0, none⟩ = some (.slice ao n ac) ∧ w'.cell? ⟨w.heap.size, 1, none⟩ = some (.slice bo m bc) ∧
        w'.cell? ⟨w4.heap.size, 0, none⟩ = some (.slice xao g.vs.length xac) ∧ w'.cell? ⟨w4.heap.size, 1, none⟩ = some (.slice xbo g.es.length xbc)) := by
      intro w' hs
      obtain ⟨r0, r1, _, _⟩ := (b6.out.since hs).two
      obtain ⟨s0, s1, _, _⟩ := (XB6.out.since hs).two
      exact ⟨r0, r1, s0, s1⟩
    refine wp_region_held_drew (S := (fun w' => w'.cell? ⟨w.heap.size, 0, none⟩ = some (.slice ao n ac) ∧ w'.cell? ⟨w.heap.size, 1, none⟩ = some (.slice bo m bc) ∧
        w'.cell? ⟨w4.heap.size, 0, none⟩ = some (.slice xao g.vs.length xac) ∧ w'.cell? ⟨w4.heap.size, 1, none⟩ = some (.slice xbo g.es.length xbc))) (by kernel_rfl) (HKC.out _ (Since.refl _).drew) (fun hHeld => ?_)
    refine take_yes 0 (some 49) (v := ?_) rfl (by kernel_rfl) (by kernel_rfl) (by kernel_rfl) (by kernel_rfl) (fun _ _ _ h => h) (by rfl) (by assumption) ?_ ?_
    rotate_left
    · (intro w' hSw; (try dsimp only at hSw); go_simp; try with_reducible rfl)
    try simp only [Act.put, List.setIfInBounds_toArray, List.set_cons_zero, List.set_cons_succ]
    refine take_yes 1 (some 50) (v := ?_) rfl (by kernel_rfl) (by kernel_rfl) (by kernel_rfl) (by kernel_rfl) (fun _ _ _ h => h) (by rfl) (by assumption) ?_ ?_
    rotate_left
    · (intro w' hSw; (try dsimp only at hSw); go_simp; try with_reducible rfl)
    try simp only [Act.put, List.setIfInBounds_toArray, List.set_cons_zero, List.set_cons_succ]
    refine take_run 2 rfl (by kernel_rfl) (by rfl) (fun K hK => ?_)
    go_simp
    refine (toGraph_any _ g _ (HG.out.since hs06.drew) g1 g2).mono ?_
    rintro e wa7 ⟨va7, rfl, hoa, hsa⟩
    refine hK.out _ _ (HKC.out _ (Since.of_drew hsa)) (fun hHeld2 => ?_)
    clear hK K hHeld
    try simp only [Act.put, List.setIfInBounds_toArray, List.set_cons_zero, List.set_cons_succ]
    refine take_run 3 rfl (by kernel_rfl) (by rfl) (fun K hK => ?_)
    go_simp
    refine (eqGraph_any _ _ g g _ (XO6.out.at.since (Since.of_drew hsa)) hoa.at g4 g5 g4 g5).mono ?_
    rintro e w7 ⟨rfl, hsc⟩
    refine hK.out _ _ (HKC.out _ ((Since.of_drew hsa).trans hsc)) (fun hHeld3 => ?_)
    clear hK K hHeld2
    try simp only [Act.put, List.setIfInBounds_toArray, List.set_cons_zero, List.set_cons_succ]
    refine take_yes 4 (some 53) (v := ?_) rfl (by kernel_rfl) (by kernel_rfl) (by kernel_rfl) (by kernel_rfl) (fun _ _ _ h => h) (by rfl) (by assumption) ?_ ?_
    rotate_left
    · (intro w' hSw; (try dsimp only at hSw); go_simp; try with_reducible rfl)
    try simp only [Act.put, List.setIfInBounds_toArray, List.set_cons_zero, List.set_cons_succ]
    refine wpAnyH_done (by kernel_rfl) ?_ _
    clear hHeld3
    have hw7 := (Since.of_drew hsa).trans hsc
    have hs07 := hs06.trans hw7
    have b7 := Lib.hid (b6.out.since hw7)
    have SB7 := Lib.hid (SB6.out.since hw7)
    have SW7 := Lib.hid (SW6.out.since hw7)
    have XO7 := Lib.hid (XO6.out.since hw7)
    have XB7 := Lib.hid (XB6.out.since hw7)
    have GO7 := Lib.hid (GO6.out.since hw7)
    have GB7 := Lib.hid (GB6.out.since hw7)
    have z7 := hw7.size
    clear b6 SB6 SW6 XO6 XB6 GO6 GB6 hs06 hsa hsc hoa HKC hw7
    obtain ⟨r0, r1, _, _⟩ := XB7.out.two
    go_wp2_with fail
    clear r0 r1
    refine (markGraph_any _ _ _ g 1 _ XO7.out (by omega) (by decide) (by decide) g6 g7).mono ?_
    rintro e w8 ⟨rfl, hmx, hs8⟩
    rw [← HKX.out]
    have hs08 := hs07.within (by omega) hs8
    have b8 := Lib.hid (b7.out.within hs8 (by omega))
    have SB8 := Lib.hid (SB7.out.within hs8 (by omega))
    have SW8 := Lib.hid (SW7.out.within hs8 (by omega))
    have GO8 := Lib.hid (GO7.out.within hs8 (by omega))
    have GB8 := Lib.hid (GB7.out.within hs8 (by omega))
    have z8 := hs8.size
    clear b7 SB7 SW7 XO7 XB7 GO7 GB7 hs07 hs8 hmx
    obtain ⟨p0, p1, _, _⟩ := SB8.out.two
    obtain ⟨r0, r1, _, _⟩ := GB8.out.two
    go_wp2_with fail
    clear p0 p1 r0 r1
    refine (eqGraph_any _ _ R R _ GO8.out.at SW8.out.at q3 q4 q3 q4).mono ?_
    rintro e w9 ⟨rfl, hs9⟩
    have hs09 := hs08.trans hs9
    have b9 := Lib.hid (b8.out.since hs9)
    have SB9 := Lib.hid (SB8.out.since hs9)
    have SW9 := Lib.hid (SW8.out.since hs9)
    have GO9 := Lib.hid (GO8.out.since hs9)
    have GB9 := Lib.hid (GB8.out.since hs9)
    have z9 := hs9.size
    clear b8 SB8 SW8 GO8 GB8 hs08 hs9
    obtain ⟨r0, r1, _, _⟩ := GB9.out.two
    go_wp2_with fail
    clear r0 r1
    refine (markGraph_any _ _ _ R 1 _ GO9.out (by omega) (by decide) (by decide) q5 q6).mono ?_
    rintro e w10 ⟨rfl, hmg, hs10⟩
    rw [← HKR.out]
    have HM := Lib.hid hmg
    have hs010 := hs09.within (by omega) hs10
    have b10 := Lib.hid (b9.out.within hs10 (by omega))
    have SB10 := Lib.hid (SB9.out.within hs10 (by omega))
    have SW10 := Lib.hid (SW9.out.within hs10 (by omega))
    have GB10 := Lib.hid (GB9.out.within hs10 (by omega))
    have z10 := hs10.size
    clear b9 SB9 SW9 GO9 GB9 hs09 hs10 hmg
    obtain ⟨r0, r1, _, _⟩ := GB10.out.two
    go_wp2_with fail
    clear r0 r1
    refine (heldGraph_any _ R 1 _ HM.out.at (by decide) (by decide) q5 q6).mono ?_
    rintro e w11 ⟨rfl, hs11⟩
    rw [← HKR.out]
    have hs011 := hs010.trans hs11
    have b11 := Lib.hid (b10.out.since hs11)
    have SB11 := Lib.hid (SB10.out.since hs11)
    have SW11 := Lib.hid (SW10.out.since hs11)
    have GB11 := Lib.hid (GB10.out.since hs11)
    have HM11 := Lib.hid (HM.out.since hs11)
    clear b10 SB10 SW10 GB10 HM hs010 hs11
    obtain ⟨p0, p1, _, _⟩ := b11.out.two
    go_wp2_with fail
    clear p0 p1
    refine (toGraph_any _ g _ (HG.out.since hs011) g1 g2).mono ?_
    rintro e w12 ⟨v12, rfl, ho12, hs12⟩
    have hs012 := hs011.trans hs12
    have SB12 := Lib.hid (SB11.out.since hs12)
    have SW12 := Lib.hid (SW11.out.since hs12)
    have GB12 := Lib.hid (GB11.out.since hs12)
    have HM12 := Lib.hid (HM11.out.since hs12)
    clear b11 SB11 SW11 GB11 HM11 hs011 hs12
    go_wp2_with fail
    refine (HI.out _ _ ho12.at).mono ?_
    rintro e w13 ⟨v13, rfl, ho13, hs13⟩
    have HO := Lib.hid ho13
    obtain ⟨ha, hb, rfl, ka, _, kb, _⟩ := ho13
    obtain ⟨hao, hac, rfl⟩ := ka.len
    obtain ⟨hbo, hbc, rfl⟩ := kb.len
    clear ka kb ho12
    have hs013 := (hs012.trans hs13).alloc (.cells #[.slice hao R.vs.length hac, .slice hbo R.es.length hbc] 30)
    have hs13' := hs13.alloc (.cells #[.slice hao R.vs.length hac, .slice hbo R.es.length hbc] 30)
    have SB13 := Lib.hid (SB12.out.since hs13')
    have SW13 := Lib.hid (SW12.out.since hs13')
    have GB13 := Lib.hid (GB12.out.since hs13')
    have HM13 := Lib.hid (HM12.out.since hs13')
    have HO13 := Lib.hid (HO.out.since ((Since.refl w13).alloc (.cells #[.slice hao R.vs.length hac, .slice hbo R.es.length hbc] 30)))
    have HB13 : Hid (Blk (w13.alloc (.cells #[.slice hao R.vs.length hac, .slice hbo R.es.length hbc] 30)) w13.heap.size 30 #[.slice hao R.vs.length hac, .slice hbo R.es.length hbc]) := Blk.new rfl _ _
    clear SB12 SW12 GB12 HM12 HO hs012 hs13 hs13'
    obtain ⟨p0, p1, _, _⟩ := SB13.out.two
    obtain ⟨r0, r1, _, _⟩ := HB13.out.two
    go_wp2_with fail
    clear p0 p1 r0 r1
    refine (eqGraph_any _ _ R R _ HO13.out.at SW13.out.at q3 q4 q3 q4).mono ?_
    rintro e w14 ⟨rfl, hs14⟩
    have hs014 := hs013.trans hs14
    have GB14 := Lib.hid (GB13.out.since hs14)
    have HM14 := Lib.hid (HM13.out.since hs14)
    clear SB13 SW13 GB13 HM13 HO13 HB13 hs013 hs14
    obtain ⟨r0, r1, _, _⟩ := GB14.out.two
    go_wp2_with fail
    clear r0 r1
    refine (heldGraph_any _ R 1 _ HM14.out.at (by decide) (by decide) q5 q6).mono ?_
    rintro e w15 ⟨rfl, hs15⟩
    rw [← HKR.out]
    have hs015 := hs014.trans hs15
    go_wp2
    go_ret
    exact ⟨rfl, hs015⟩
end Go.Proofs.Ytpmkpeclfhmhlaa
