/- The law of StepsFrom, walked. -/
import Derived.Test.YtpmkpeclfhmhlaaK3
import Derived.Test.YtpmkpeclfhmhlaaStL
import Derived.Test.YtpmkpeclfhmhlaaMarkG
import Derived.Test.YtpmkpeclfhmhlaaK1
import Derived.Test.YtpmkpeclfhmhlaaK2
namespace Go.Proofs.Ytpmkpeclfhmhlaa
set_option maxRecDepth 100000
open Go.ChangeShapes Go.WideShapes Go.ChangeAt Go.RowKit
set_option linter.unusedVariables false
set_option linter.unusedSimpArgs false

set_option maxHeartbeats 4000000 in
set_option maxRecDepth 100000 in
theorem fnExactStepsFrom_walk (v : Value) (node : Int) (g : Grf) (hwnode : (Lit.int .i64 node).wf = true) (w : World) (h : GrfAt w v g) (hl : g.vs.length ≤ maxLen ∧ g.es.length ≤ maxLen) :
    Calls Try.prog 10 #[v, .int .i64 node] w fun e w' => e = .returned (.bool true) ∧ Since w w' := by
  have HG := Lib.hid h
  obtain ⟨a, b, rfl, ha, hb⟩ := h
  obtain ⟨ao, ac, rfl, _⟩ := ha.row
  obtain ⟨bo, bc, rfl⟩ := hb.len
  clear ha hb
  obtain ⟨n, hn⟩ : ∃ n, n = g.vs.length := ⟨_, rfl⟩
  obtain ⟨m, hm⟩ : ∃ m, m = g.es.length := ⟨_, rfl⟩
  rw [← hn, ← hm] at HG ⊢
  have HL := Lib.hid hl
  clear hn hm hl
  have hs0 : Since w (w.alloc (.cells #[.slice ao n ac, .slice bo m bc] 25)) := (Since.refl w).alloc _
  have B0 : Hid (Blk (w.alloc (.cells #[.slice ao n ac, .slice bo m bc] 25)) w.heap.size 25 #[.slice ao n ac, .slice bo m bc]) := Blk.new rfl _ _
  have hz0 : Hid (w.heap.size + 1 = (w.alloc (.cells #[.slice ao n ac, .slice bo m bc] 25)).heap.size) := by unfold Hid; simp
  by_cases hz : szG g 1048576 < 0
  · obtain ⟨x0, hx⟩ : ∃ x0, x0 = szG g 1048576 := ⟨_, rfl⟩
    rw [← hx] at hz
    have HX := Lib.hid hx
    clear hx
    go_enter Try.func10, Try.ntmps10
    go_wp2_with fail
    refine (szG_is _ g 1048576 x0 _ (HG.out.since hs0) HL.out (by decide) (by decide) HX.out.symm).mono ?_
    rintro e w1 ⟨rfl, hs1⟩
    have hs := hs0.trans hs1
    go_wp2
    go_ret
    exact ⟨rfl, hs⟩
  · obtain ⟨g1, g2, g3, _⟩ := szG_small hz
    have g4 : g.vs.length ≤ 1152921504606846976 := by omega
    have g5 : g.es.length ≤ 1152921504606846976 := by omega
    have HS : Hid (∀ u W, GrfAt W u g → Calls Try.prog 35 #[u, .int .i64 node] W (StOut W (fromS g node))) := fun u W hu => specSF_any u g node W hu g1 g2
    have HI : Hid (∀ u W, GrfAt W u g → Calls Try.prog 36 #[u, .int .i64 node] W (StOut W (fromS g node))) := fun u W hu => implSF_any u g node W hu g1 g2
    have q1 : (fromS g node : List Stp).length ≤ 2097154 := fromS_len g node g2
    generalize fromS g node = R at HS HI q1
    have q3 : R.length ≤ 1152921504606846976 := by omega
    have q4 : R.length ≤ 4611686018427387904 := by omega
    have q5 : R.length ≤ 288230376151711744 := by omega
    have q6 : R.length ≤ 2305843009213693952 := by omega
    have g6 : g.vs.length ≤ 1152921504 := by omega
    have g7 : g.es.length ≤ 1152921504 := by omega
    obtain ⟨kx, hkx⟩ : ∃ kx : Int, kx = 1 + szOf g := ⟨_, rfl⟩
    obtain ⟨kr, hkr⟩ : ∃ kr : Int, kr = 1 + 2 * (R.length : Int) := ⟨_, rfl⟩
    have dkx : decide (kx < 0) = false := by unfold szOf at hkx; simp; omega
    have dkr : decide (kr < 0) = false := by simp; omega
    have ekr : (kr != kr) = false := by simp
    have HKX := Lib.hid hkx
    have HKR := Lib.hid hkr
    have dgg : decide (g = g) = true := by simp
    have dRR : decide (R = R) = true := by simp
    clear hkx hkr g3
    obtain ⟨x0, hx⟩ : ∃ x0, x0 = szG g 1048576 := ⟨_, rfl⟩
    rw [← hx] at hz
    have HX := Lib.hid hx
    clear hx
    go_enter Try.func10, Try.ntmps10
    go_wp2_with fail
    generalize (w.alloc (.cells #[.slice ao n ac, .slice bo m bc] 25)) = y0 at hs0 B0 hz0 ⊢
    refine (szG_is _ g 1048576 x0 _ (HG.out.since hs0) HL.out (by decide) (by decide) HX.out.symm).mono ?_
    rintro e w1 ⟨rfl, hs1⟩
    have hs01 := hs0.trans hs1
    have b1 := Lib.hid (B0.out.since hs1)
    have z1 : w.heap.size + 1 ≤ w1.heap.size := by have := hz0.out; have := hs1.size; omega
    clear hs0 B0 hz0 hs1
    obtain ⟨p0, p1, _, _⟩ := b1.out.two
    go_wp2_with fail
    clear p0 p1
    refine (toGraph_any _ g _ (HG.out.since hs01) g1 g2).mono ?_
    rintro e w2 ⟨v2, rfl, ho2, hs2⟩
    have hs02 := hs01.trans hs2
    have b2 := Lib.hid (b1.out.since hs2)
    have z2 := hs2.size
    clear b1 hs01
    go_wp2_with fail
    refine (HS.out _ _ ho2.at).mono ?_
    rintro e w3 ⟨v3, rfl, ho3, hs3⟩
    clear ho2 hs2
    have SW := Lib.hid ho3
    have RW : InR w2.heap.size w3.heap.size v3 := ho3.inR
    have z3 := hs3.size
    have hs03 := hs02.trans hs3
    have b3 := Lib.hid (b2.out.since hs3)
    clear b2 hs02 hs3 ho3
    obtain ⟨p0, p1, _, _⟩ := b3.out.two
    go_wp2_with fail
    clear p0 p1
    refine (toGraph_any _ g _ (HG.out.since hs03) g1 g2).mono ?_
    rintro e w4 ⟨v4, rfl, ho4, hs4⟩
    have XO := Lib.hid ho4
    obtain ⟨xa, xb, rfl, ka, _, kb, _⟩ := ho4
    obtain ⟨xao, xac, rfl⟩ := ka.len
    obtain ⟨xbo, xbc, rfl⟩ := kb.len
    clear ka kb
    have z4 := hs4.size
    have hs04 := (hs03.trans hs4).alloc (.cells #[.slice xao g.vs.length xac, .slice xbo g.es.length xbc] 30)
    have hs4' := hs4.alloc (.cells #[.slice xao g.vs.length xac, .slice xbo g.es.length xbc] 30)
    have b4 := Lib.hid (b3.out.since hs4')
    have SW4 := Lib.hid (SW.out.since hs4')
    have XO4 := Lib.hid (XO.out.since ((Since.refl w4).alloc (.cells #[.slice xao g.vs.length xac, .slice xbo g.es.length xbc] 30)))
    have XB4 : Hid (Blk (w4.alloc (.cells #[.slice xao g.vs.length xac, .slice xbo g.es.length xbc] 30)) w4.heap.size 30 #[.slice xao g.vs.length xac, .slice xbo g.es.length xbc]) := Blk.new rfl _ _
    have y4z : Hid (w4.heap.size + 1 = (w4.alloc (.cells #[.slice xao g.vs.length xac, .slice xbo g.es.length xbc] 30)).heap.size) := by unfold Hid; simp
    clear b3 SW XO hs03 hs4 hs4'
    go_wp2_with fail
    generalize (w4.alloc (.cells #[.slice xao g.vs.length xac, .slice xbo g.es.length xbc] 30)) = y4 at hs04 b4 SW4 XO4 XB4 y4z ⊢
    have c2 : w4.heap.size < y4.heap.size := by have := y4z.out; omega
    clear y4z
    refine (HI.out _ _ XO4.out.at).mono ?_
    rintro e w5 ⟨v5, rfl, ho5, hs5⟩
    have GO5 := Lib.hid ho5
    have RG : InR y4.heap.size w5.heap.size v5 := ho5.inR
    have z5 := hs5.size
    have hs05 := hs04.trans hs5
    have b5 := Lib.hid (b4.out.since hs5)
    have SW5 := Lib.hid (SW4.out.since hs5)
    have XO5 := Lib.hid (XO4.out.since hs5)
    have XB5 := Lib.hid (XB4.out.since hs5)
    clear b4 SW4 XO4 XB4 hs04 hs5 ho5
    go_wp2_with fail
    refine (eqStepS_any _ _ R R _ GO5.out.at SW5.out.at q3 q3).mono ?_
    rintro e w6 ⟨rfl, hs6⟩
    have hs06 := hs05.trans hs6
    have b6 := Lib.hid (b5.out.since hs6)
    have SW6 := Lib.hid (SW5.out.since hs6)
    have XO6 := Lib.hid (XO5.out.since hs6)
    have XB6 := Lib.hid (XB5.out.since hs6)
    have GO6 := Lib.hid (GO5.out.since hs6)
    have z6 := hs6.size
    clear b5 SW5 XO5 XB5 GO5 hs05 hs6
    go_wp2_with fail
    have HKC : Hid (∀ w', Since w6 w' → w'.cell? ⟨w.heap.size, 0, none⟩ = some (.slice ao n ac) ∧ w'.cell? ⟨w.heap.size, 1, none⟩ = some (.slice bo m bc) ∧ w'.cell? ⟨w4.heap.size, 0, none⟩ = some (.slice xao g.vs.length xac) ∧ w'.cell? ⟨w4.heap.size, 1, none⟩ = some (.slice xbo g.es.length xbc)) := by
      intro w' hs
      obtain ⟨r0, r1, _, _⟩ := (b6.out.since hs).two
      obtain ⟨s0, s1, _, _⟩ := (XB6.out.since hs).two
      exact ⟨r0, r1, s0, s1⟩
    refine wp_region_held_drew (S := (fun w' => w'.cell? ⟨w.heap.size, 0, none⟩ = some (.slice ao n ac) ∧ w'.cell? ⟨w.heap.size, 1, none⟩ = some (.slice bo m bc) ∧ w'.cell? ⟨w4.heap.size, 0, none⟩ = some (.slice xao g.vs.length xac) ∧ w'.cell? ⟨w4.heap.size, 1, none⟩ = some (.slice xbo g.es.length xbc))) (by kernel_rfl) (HKC.out _ (Since.refl _).drew) (fun hHeld => ?_)
    refine take_yes 0 (some 31) (v := ?_) rfl (by kernel_rfl) (by kernel_rfl) (by kernel_rfl) (by kernel_rfl) (fun _ _ _ h => h) (by rfl) (by assumption) ?_ ?_
    rotate_left
    · (intro w' hSw; (try dsimp only at hSw); go_simp; try with_reducible rfl)
    try simp only [Act.put, List.setIfInBounds_toArray, List.set_cons_zero, List.set_cons_succ]
    refine take_yes 1 (some 32) (v := ?_) rfl (by kernel_rfl) (by kernel_rfl) (by kernel_rfl) (by kernel_rfl) (fun _ _ _ h => h) (by rfl) (by assumption) ?_ ?_
    rotate_left
    · (intro w' hSw; (try dsimp only at hSw); go_simp; try with_reducible rfl)
    try simp only [Act.put, List.setIfInBounds_toArray, List.set_cons_zero, List.set_cons_succ]
    refine take_run 2 rfl (by kernel_rfl) (by rfl) (fun K hK => ?_)
    go_simp
    refine (toGraph_any _ g _ (HG.out.since hs06.drew) g1 g2).mono ?_
    rintro e wa7 ⟨va7, rfl, hoa, hsa⟩
    refine hK.out _ _ (HKC.out _ (Since.of_drew hsa)) (fun hHeld2 => ?_)
    clear hK K hHeld
    try simp only [Act.put, List.setIfInBounds_toArray, List.set_cons_zero, List.set_cons_succ]
    refine take_run 3 rfl (by kernel_rfl) (by rfl) (fun K hK => ?_)
    go_simp
    refine (eqGraph_any _ _ g g _ (XO6.out.at.since (Since.of_drew hsa)) hoa.at g4 g5 g4 g5).mono ?_
    rintro e w7 ⟨rfl, hsc⟩
    refine hK.out _ _ (HKC.out _ ((Since.of_drew hsa).trans hsc)) (fun hHeld3 => ?_)
    clear hK K hHeld2
    try simp only [Act.put, List.setIfInBounds_toArray, List.set_cons_zero, List.set_cons_succ]
    refine take_yes 4 (some 35) (v := ?_) rfl (by kernel_rfl) (by kernel_rfl) (by kernel_rfl) (by kernel_rfl) (fun _ _ _ h => h) (by rfl) (by assumption) ?_ ?_
    rotate_left
    · (intro w' hSw; (try dsimp only at hSw); go_simp; try with_reducible rfl)
    try simp only [Act.put, List.setIfInBounds_toArray, List.set_cons_zero, List.set_cons_succ]
    refine wpAnyH_done (by kernel_rfl) ?_ _
    clear hHeld3
    have hw7 := (Since.of_drew hsa).trans hsc
    have hs07 := hs06.trans hw7
    have b7 := Lib.hid (b6.out.since hw7)
    have SW7 := Lib.hid (SW6.out.since hw7)
    have XO7 := Lib.hid (XO6.out.since hw7)
    have XB7 := Lib.hid (XB6.out.since hw7)
    have GO7 := Lib.hid (GO6.out.since hw7)
    have z7 := hw7.size
    clear b6 SW6 XO6 XB6 GO6 hs06 hsa hsc hoa HKC hw7
    obtain ⟨r0, r1, _, _⟩ := XB7.out.two
    go_wp2_with fail
    clear r0 r1
    refine (markGraph_any _ _ _ g 1 _ XO7.out (by omega) (by decide) (by decide) g6 g7).mono ?_
    rintro e w8 ⟨rfl, hmx, hs8⟩
    rw [← HKX.out]
    have hs08 := hs07.within (by omega) hs8
    have b8 := Lib.hid (b7.out.within hs8 (by omega))
    have SW8 := Lib.hid (SW7.out.within RW hs8 (.inl (Nat.le_refl _)))
    have GO8 := Lib.hid (GO7.out.within RG hs8 (.inr (by omega)))
    have z8 := hs8.size
    clear b7 SW7 XO7 XB7 GO7 hs07 hs8 hmx
    go_wp2_with fail
    refine (eqStepS_any _ _ R R _ GO8.out.at SW8.out.at q3 q3).mono ?_
    rintro e w9 ⟨rfl, hs9⟩
    have hs09 := hs08.trans hs9
    have b9 := Lib.hid (b8.out.since hs9)
    have SW9 := Lib.hid (SW8.out.since hs9)
    have GO9 := Lib.hid (GO8.out.since hs9)
    have z9 := hs9.size
    clear b8 SW8 GO8 hs08 hs9
    go_wp2_with fail
    refine (markStepS_any y4.heap.size _ R 1 _ GO9.out (by decide) (by decide) q5).mono ?_
    rintro e w10 ⟨rfl, hmg, hgr⟩
    rw [← HKR.out]
    have hs10 : Within y4.heap.size w5.heap.size w9 w10 := Within.of_grown hgr RG
    have HM := Lib.hid hmg
    have hs010 := hs09.within (by omega) hs10
    have b10 := Lib.hid (b9.out.within hs10 (by omega))
    have SW10 := Lib.hid (SW9.out.within RW hs10 (.inl (by omega)))
    clear b9 SW9 GO9 hs09 hs10 hmg hgr
    go_wp2_with fail
    refine (heldStepS_any _ 1 R.length _ HM.out.at (by decide) (by decide) q5).mono ?_
    rintro e w11 ⟨rfl, rfl⟩
    rw [← HKR.out]
    obtain ⟨p0, p1, _, _⟩ := b10.out.two
    go_wp2_with fail
    clear p0 p1
    refine (toGraph_any _ g _ (HG.out.since hs010) g1 g2).mono ?_
    rintro e w12 ⟨v12, rfl, ho12, hs12⟩
    have hs012 := hs010.trans hs12
    have SW12 := Lib.hid (SW10.out.since hs12)
    have HM12 := Lib.hid (HM.out.since hs12)
    clear b10 SW10 HM hs010 hs12
    go_wp2_with fail
    refine (HI.out _ _ ho12.at).mono ?_
    rintro e w13 ⟨v13, rfl, ho13, hs13⟩
    have hs013 := hs012.trans hs13
    have SW13 := Lib.hid (SW12.out.since hs13)
    have HM13 := Lib.hid (HM12.out.since hs13)
    have HO13 := Lib.hid ho13.at
    clear SW12 HM12 hs012 hs13 ho12 ho13
    go_wp2_with fail
    refine (eqStepS_any _ _ R R _ HO13.out SW13.out.at q3 q3).mono ?_
    rintro e w14 ⟨rfl, hs14⟩
    have hs014 := hs013.trans hs14
    have HM14 := Lib.hid (HM13.out.since hs14)
    clear SW13 HM13 HO13 hs013 hs14
    go_wp2_with fail
    refine (heldStepS_any _ 1 R.length _ HM14.out.at (by decide) (by decide) q5).mono ?_
    rintro e w15 ⟨rfl, rfl⟩
    rw [← HKR.out]
    go_wp2
    go_ret
    exact ⟨rfl, hs014⟩
end Go.Proofs.Ytpmkpeclfhmhlaa
