/- The law of StepTo, walked. -/
import Derived.Test.YtpmkpeclfhmhlaaK3
namespace Go.Proofs.Ytpmkpeclfhmhlaa
set_option maxRecDepth 100000
open Go.ChangeShapes Go.WideShapes Go.ChangeAt Go.RowKit
set_option linter.unusedVariables false
set_option linter.unusedSimpArgs false

set_option maxHeartbeats 1000000 in
set_option maxRecDepth 100000 in
theorem fnExactStepTo_walk (v vs : Value) (g : Grf) (s : Stp) (w : World) (h : GrfAt w v g) (hvs : vs = sv s) (hl : g.vs.length ≤ maxLen ∧ g.es.length ≤ maxLen) (hsi : InI s.id) :
    Calls Try.prog 8 #[v, vs] w fun e w' => e = .returned (.bool true) ∧ Since w w' := by
  subst hvs
  have HG := Lib.hid h
  obtain ⟨a, b, rfl, ha, hb⟩ := h
  obtain ⟨ao, ac, rfl, _⟩ := ha.row
  obtain ⟨bo, bc, rfl⟩ := hb.len
  clear ha hb
  obtain ⟨n, hn⟩ : ∃ n, n = g.vs.length := ⟨_, rfl⟩
  obtain ⟨m, hm⟩ : ∃ m, m = g.es.length := ⟨_, rfl⟩
  rw [← hn, ← hm] at HG ⊢
  have HL := Lib.hid hl
  clear hn hm hl
  have HS : g.vs.length ≤ 1048577 → g.es.length ≤ 1048577 → Hid (∀ u W, GrfAt W u g → Calls Try.prog 31 #[u, sv s] W fun en w' => en = .returned (.int .i64 ((tOf (travG g) s).dst)) ∧ Since W w') := fun g1 g2 u W hu => specTo_any u g s W hu g1 g2
  have HI : g.vs.length ≤ 1048577 → g.es.length ≤ 1048577 → Hid (∀ u W, GrfAt W u g → Calls Try.prog 32 #[u, sv s] W fun en w' => en = .returned (.int .i64 ((tOf (travG g) s).dst)) ∧ Since W w') := fun g1 g2 u W hu => implTo_any u g s W hu g1 g2
  generalize (tOf (travG g) s).dst = r at HS HI
  have HTS : Hid (∀ w, Calls Try.prog 29 #[sv s] w fun en w' => en = .returned (sv s) ∧ Since w w') := fun w => toStep_any s w
  unfold sv at HS HI HTS ⊢
  have hs0 : Since w ((w.alloc (.cells #[.slice ao n ac, .slice bo m bc] 25)).alloc (.cells #[.int .i64 s.id, .bool s.inv] 47)) := ((Since.refl w).alloc _).alloc _
  have B0 : Hid (Blk ((w.alloc (.cells #[.slice ao n ac, .slice bo m bc] 25)).alloc (.cells #[.int .i64 s.id, .bool s.inv] 47)) w.heap.size 25 #[.slice ao n ac, .slice bo m bc]) := (Blk.new rfl _ _).alloc _
  have T0 : Hid (Blk ((w.alloc (.cells #[.slice ao n ac, .slice bo m bc] 25)).alloc (.cells #[.int .i64 s.id, .bool s.inv] 47)) (w.heap.size + 1) 47 #[.int .i64 s.id, .bool s.inv]) := Blk.new (by simp) _ _
  by_cases hz : szG g 1048576 < 0
  · obtain ⟨x, hx⟩ : ∃ x, x = szG g 1048576 := ⟨_, rfl⟩
    rw [← hx] at hz
    have HX := Lib.hid hx
    clear hx HS HI
    go_enter Try.func8, Try.ntmps8
    go_wp2_with fail
    refine (szG_is _ g 1048576 x _ (HG.out.since hs0) HL.out (by decide) (by decide) HX.out.symm).mono ?_
    rintro e w1 ⟨rfl, hs1⟩
    have hs := hs0.trans hs1
    go_wp2
    go_ret
    exact ⟨rfl, hs⟩
  · obtain ⟨g1, g2, g3, _⟩ := szG_small hz
    have g4 : g.vs.length ≤ 1152921504606846976 := by omega
    have g5 : g.es.length ≤ 1152921504606846976 := by omega
    have HS := HS g1 g2
    have HI := HI g1 g2
    obtain ⟨x, hx⟩ : ∃ x, x = szG g 1048576 := ⟨_, rfl⟩
    rw [← hx] at hz
    have HX := Lib.hid hx
    clear hx
    go_enter Try.func8, Try.ntmps8
    go_wp2_with fail
    refine (szG_is _ g 1048576 x _ (HG.out.since hs0) HL.out (by decide) (by decide) HX.out.symm).mono ?_
    rintro e w1 ⟨rfl, hs1⟩
    have hs01 := hs0.trans hs1
    have b1 := Lib.hid (B0.out.since hs1)
    have t1 := Lib.hid (T0.out.since hs1)
    clear B0 T0 hs0 hs1
    go_wp2_with fail
    have HKC : Hid (∀ w', Since w1 w' → w'.cell? ⟨w.heap.size, 0, none⟩ = some (.slice ao n ac) ∧ w'.cell? ⟨w.heap.size, 1, none⟩ = some (.slice bo m bc) ∧ w'.cell? ⟨w.heap.size + 1, 0, none⟩ = some (.int .i64 s.id) ∧ w'.cell? ⟨w.heap.size + 1, 1, none⟩ = some (.bool s.inv)) := by
      intro w' hs
      obtain ⟨x0, x1, _, _⟩ := (b1.out.since hs).two
      obtain ⟨y0, y1, _, _⟩ := (t1.out.since hs).two
      exact ⟨x0, x1, y0, y1⟩
    refine wp_region_held_drew (S := (fun w' => w'.cell? ⟨w.heap.size, 0, none⟩ = some (.slice ao n ac) ∧ w'.cell? ⟨w.heap.size, 1, none⟩ = some (.slice bo m bc) ∧ w'.cell? ⟨w.heap.size + 1, 0, none⟩ = some (.int .i64 s.id) ∧ w'.cell? ⟨w.heap.size + 1, 1, none⟩ = some (.bool s.inv))) (by kernel_rfl) (HKC.out _ (Since.refl _).drew) (fun hHeld => ?_)
    refine take_yes 0 (some 14) (v := ?_) rfl (by kernel_rfl) (by kernel_rfl) (by kernel_rfl) (by kernel_rfl) (fun _ _ _ h => h) (by rfl) (by assumption) ?_ ?_
    rotate_left
    · (intro w' hSw; (try dsimp only at hSw); go_simp; try with_reducible rfl)
    try simp only [Act.put, List.setIfInBounds_toArray, List.set_cons_zero, List.set_cons_succ]
    refine take_yes 2 (some 16) (v := ?_) rfl (by kernel_rfl) (by kernel_rfl) (by kernel_rfl) (by kernel_rfl) (fun _ _ _ h => h) (by rfl) (by assumption) ?_ ?_
    rotate_left
    · (intro w' hSw; (try dsimp only at hSw); go_simp; try with_reducible rfl)
    try simp only [Act.put, List.setIfInBounds_toArray, List.set_cons_zero, List.set_cons_succ]
    refine take_run 1 rfl (by kernel_rfl) (by rfl) (fun K hK => ?_)
    go_simp
    refine (toGraph_any _ g _ (HG.out.since (hs01.trans (Since.refl w1).drew)) g1 g2).mono ?_
    rintro en q1 ⟨v1, rfl, ho1, hs1⟩
    have hc1 := Since.trans (Since.refl w1).drew hs1
    refine hK.out _ _ (HKC.out _ hc1) (fun hHeld1 => ?_)
    clear hK K hHeld
    try simp only [Act.put, List.setIfInBounds_toArray, List.set_cons_zero, List.set_cons_succ]
    refine take_run 3 rfl (by kernel_rfl) (by rfl) (fun K hK => ?_)
    go_simp
    refine (HTS.out _).mono ?_
    rintro en q2 ⟨rfl, hs2⟩
    have hc2 := Since.trans hc1 hs2
    refine hK.out _ _ (HKC.out _ hc2) (fun hHeld2 => ?_)
    clear hK K hHeld1
    try simp only [Act.put, List.setIfInBounds_toArray, List.set_cons_zero, List.set_cons_succ]
    refine take_run 4 rfl (by kernel_rfl) (by rfl) (fun K hK => ?_)
    go_simp
    refine (HS.out _ _ (ho1.at.since hs2)).mono ?_
    rintro en q3 ⟨rfl, hs3⟩
    have hc3 := Since.trans hc2 hs3
    refine hK.out _ _ (HKC.out _ hc3) (fun hHeld3 => ?_)
    clear hK K hHeld2
    try simp only [Act.put, List.setIfInBounds_toArray, List.set_cons_zero, List.set_cons_succ]
    refine take_yes 5 (some 6) (v := ?_) rfl (by kernel_rfl) (by kernel_rfl) (by kernel_rfl) (by kernel_rfl) (fun _ _ _ h => h) (by rfl) (by assumption) ?_ ?_
    rotate_left
    · (intro w' hSw; (try dsimp only at hSw); go_simp; try with_reducible rfl)
    try simp only [Act.put, List.setIfInBounds_toArray, List.set_cons_zero, List.set_cons_succ]
    refine wpAnyH_done (by kernel_rfl) ?_ _
    clear hHeld3 HKC
    have hs03 := hs01.trans hc3
    have b3 := Lib.hid (b1.out.since hc3)
    have t3 := Lib.hid (t1.out.since hc3)
    clear b1 t1 hs01 hc1 hc2 hc3 hs1 hs2 hs3 ho1
    obtain ⟨p0, p1, _, _⟩ := b3.out.two
    go_wp2_with fail
    clear p0 p1
    refine (toGraph_any _ g _ (HG.out.since hs03) g1 g2).mono ?_
    rintro e w4 ⟨v4, rfl, ho4, hs4⟩
    have HO3 := Lib.hid ho4
    obtain ⟨xa, xb, rfl, ka, _, kb, _⟩ := ho4
    obtain ⟨xo, xc, rfl⟩ := ka.len
    obtain ⟨yo, yc, rfl⟩ := kb.len
    clear ka kb
    have hs4' := hs4.alloc (.cells #[.slice xo g.vs.length xc, .slice yo g.es.length yc] 30)
    have hs04 := hs03.trans hs4'
    have b4 := Lib.hid (b3.out.since hs4')
    have t4 := Lib.hid (t3.out.since hs4')
    have c4 : Hid (Blk (w4.alloc (.cells #[.slice xo g.vs.length xc, .slice yo g.es.length yc] 30)) w4.heap.size 30 #[.slice xo g.vs.length xc, .slice yo g.es.length yc]) := Blk.new rfl _ _
    have HO4 := Lib.hid (HO3.out.since ((Since.refl w4).alloc (.cells #[.slice xo g.vs.length xc, .slice yo g.es.length yc] 30)))
    clear b3 t3 HO3 hs03 hs4 hs4'
    go_wp2_with fail
    generalize (w4.alloc (.cells #[.slice xo g.vs.length xc, .slice yo g.es.length yc] 30)) = y4 at hs04 b4 t4 c4 HO4 ⊢
    have HKC : Hid (∀ w', Since y4 w' → w'.cell? ⟨w4.heap.size, 0, none⟩ = some (.slice xo g.vs.length xc) ∧ w'.cell? ⟨w4.heap.size, 1, none⟩ = some (.slice yo g.es.length yc) ∧ w'.cell? ⟨w.heap.size + 1, 0, none⟩ = some (.int .i64 s.id) ∧ w'.cell? ⟨w.heap.size + 1, 1, none⟩ = some (.bool s.inv)) := by
      intro w' hs
      obtain ⟨x0, x1, _, _⟩ := (c4.out.since hs).two
      obtain ⟨y0, y1, _, _⟩ := (t4.out.since hs).two
      exact ⟨x0, x1, y0, y1⟩
    refine wp_region_held_drew (S := (fun w' => w'.cell? ⟨w4.heap.size, 0, none⟩ = some (.slice xo g.vs.length xc) ∧ w'.cell? ⟨w4.heap.size, 1, none⟩ = some (.slice yo g.es.length yc) ∧ w'.cell? ⟨w.heap.size + 1, 0, none⟩ = some (.int .i64 s.id) ∧ w'.cell? ⟨w.heap.size + 1, 1, none⟩ = some (.bool s.inv))) (by kernel_rfl) (HKC.out _ (Since.refl _).drew) (fun hHeld => ?_)
    refine take_yes 0 (some 21) (v := ?_) rfl (by kernel_rfl) (by kernel_rfl) (by kernel_rfl) (by kernel_rfl) (fun _ _ _ h => h) (by rfl) (by assumption) ?_ ?_
    rotate_left
    · (intro w' hSw; (try dsimp only at hSw); go_simp; try with_reducible rfl)
    try simp only [Act.put, List.setIfInBounds_toArray, List.set_cons_zero, List.set_cons_succ]
    refine take_yes 1 (some 22) (v := ?_) rfl (by kernel_rfl) (by kernel_rfl) (by kernel_rfl) (by kernel_rfl) (fun _ _ _ h => h) (by rfl) (by assumption) ?_ ?_
    rotate_left
    · (intro w' hSw; (try dsimp only at hSw); go_simp; try with_reducible rfl)
    try simp only [Act.put, List.setIfInBounds_toArray, List.set_cons_zero, List.set_cons_succ]
    refine take_run 2 rfl (by kernel_rfl) (by rfl) (fun K hK => ?_)
    go_simp
    refine (HTS.out _).mono ?_
    rintro en q4 ⟨rfl, hs4⟩
    have hc4 := Since.trans (Since.refl y4).drew hs4
    refine hK.out _ _ (HKC.out _ hc4) (fun hHeld4 => ?_)
    clear hK K hHeld
    try simp only [Act.put, List.setIfInBounds_toArray, List.set_cons_zero, List.set_cons_succ]
    refine take_run 3 rfl (by kernel_rfl) (by rfl) (fun K hK => ?_)
    go_simp
    refine (HI.out _ _ (HO4.out.at.since hc4)).mono ?_
    rintro en q5 ⟨rfl, hs5⟩
    have hc5 := Since.trans hc4 hs5
    refine hK.out _ _ (HKC.out _ hc5) (fun hHeld5 => ?_)
    clear hK K hHeld4
    try simp only [Act.put, List.setIfInBounds_toArray, List.set_cons_zero, List.set_cons_succ]
    refine take_yes 4 (some 8) (v := ?_) rfl (by kernel_rfl) (by kernel_rfl) (by kernel_rfl) (by kernel_rfl) (fun _ _ _ h => h) (by rfl) (by assumption) ?_ ?_
    rotate_left
    · (intro w' hSw; (try dsimp only at hSw); go_simp; try with_reducible rfl)
    try simp only [Act.put, List.setIfInBounds_toArray, List.set_cons_zero, List.set_cons_succ]
    refine wpAnyH_done (by kernel_rfl) ?_ _
    clear hHeld5 HKC
    have hs05 := hs04.trans hc5
    have b5 := Lib.hid (b4.out.since hc5)
    have c5 := Lib.hid (c4.out.since hc5)
    have HO5 := Lib.hid (HO4.out.since hc5)
    clear b4 t4 c4 HO4 hs04 hc4 hc5 hs4 hs5
    obtain ⟨p0, p1, _, _⟩ := b5.out.two
    obtain ⟨q0, q1, _, _⟩ := c5.out.two
    have hv : (r != r) = false := by simp
    go_wp2_with fail
    have HKC : Hid (∀ w', Since q5 w' → w'.cell? ⟨w.heap.size, 0, none⟩ = some (.slice ao n ac) ∧ w'.cell? ⟨w.heap.size, 1, none⟩ = some (.slice bo m bc) ∧ w'.cell? ⟨w4.heap.size, 0, none⟩ = some (.slice xo g.vs.length xc) ∧ w'.cell? ⟨w4.heap.size, 1, none⟩ = some (.slice yo g.es.length yc)) := by
      intro w' hs
      obtain ⟨r0, r1, _, _⟩ := (b5.out.since hs).two
      obtain ⟨s0, s1, _, _⟩ := (c5.out.since hs).two
      exact ⟨r0, r1, s0, s1⟩
    refine wp_region_held_drew (S := (fun w' => w'.cell? ⟨w.heap.size, 0, none⟩ = some (.slice ao n ac) ∧ w'.cell? ⟨w.heap.size, 1, none⟩ = some (.slice bo m bc) ∧ w'.cell? ⟨w4.heap.size, 0, none⟩ = some (.slice xo g.vs.length xc) ∧ w'.cell? ⟨w4.heap.size, 1, none⟩ = some (.slice yo g.es.length yc))) (by kernel_rfl) (HKC.out _ (Since.refl _).drew) (fun hHeld => ?_)
    refine take_yes 0 (some 28) (v := ?_) rfl (by kernel_rfl) (by kernel_rfl) (by kernel_rfl) (by kernel_rfl) (fun _ _ _ h => h) (by rfl) (by assumption) ?_ ?_
    rotate_left
    · (intro w' hSw; (try dsimp only at hSw); go_simp; try with_reducible rfl)
    try simp only [Act.put, List.setIfInBounds_toArray, List.set_cons_zero, List.set_cons_succ]
    refine take_yes 1 (some 29) (v := ?_) rfl (by kernel_rfl) (by kernel_rfl) (by kernel_rfl) (by kernel_rfl) (fun _ _ _ h => h) (by rfl) (by assumption) ?_ ?_
    rotate_left
    · (intro w' hSw; (try dsimp only at hSw); go_simp; try with_reducible rfl)
    try simp only [Act.put, List.setIfInBounds_toArray, List.set_cons_zero, List.set_cons_succ]
    refine take_run 2 rfl (by kernel_rfl) (by rfl) (fun K hK => ?_)
    go_simp
    refine (toGraph_any _ g _ (HG.out.since hs05.drew) g1 g2).mono ?_
    rintro e w6 ⟨v6, rfl, ho6, hs6⟩
    refine hK.out _ _ (HKC.out _ (Since.of_drew hs6)) (fun hHeld2 => ?_)
    clear hK K hHeld
    have hs06 := hs05.trans (Since.of_drew hs6)
    try simp only [Act.put, List.setIfInBounds_toArray, List.set_cons_zero, List.set_cons_succ]
    refine take_run 3 rfl (by kernel_rfl) (by rfl) (fun K hK => ?_)
    go_simp
    refine (eqGraph_any _ _ g g _ (HO5.out.at.since (Since.of_drew hs6)) ho6.at g4 g5 g4 g5).mono ?_
    rintro e w7 ⟨rfl, hs7⟩
    refine hK.out _ _ (HKC.out _ ((Since.of_drew hs6).trans hs7)) (fun hHeld3 => ?_)
    clear hK K hHeld2
    try simp only [Act.put, List.setIfInBounds_toArray, List.set_cons_zero, List.set_cons_succ]
    have hd : decide (g = g) = true := by simp
    have hs07 := hs06.trans hs7
    refine take_yes 4 (some 32) (v := ?_) rfl (by kernel_rfl) (by kernel_rfl) (by kernel_rfl) (by kernel_rfl) (fun _ _ _ h => h) (by rfl) (by assumption) ?_ ?_
    rotate_left
    · (intro w' hSw; (try dsimp only at hSw); go_simp; try with_reducible rfl)
    try simp only [Act.put, List.setIfInBounds_toArray, List.set_cons_zero, List.set_cons_succ]
    refine wpAnyH_done (by kernel_rfl) ?_ _
    clear hHeld3
    go_wp2
    go_ret
    exact ⟨rfl, hs07⟩
end Go.Proofs.Ytpmkpeclfhmhlaa
