/- The law of EqualGraphs, walked. -/
import Derived.Test.YtikbobinkojnfaaEqG2
import Derived.Test.YtikbobinkojnfaaReg
import Derived.Deep.DeepCutAuto
namespace Go.Proofs.Ytikbobinkojnfaa
open Go.ChangeShapes Go.WideShapes Go.ChangeAt Go.RowKit
set_option linter.unusedVariables false
set_option linter.unusedSimpArgs false

theorem szG_small2 {g : Grf} {left : Int} (hl : left ≤ 1048576) (h : ¬ szG g left < 0) : g.vs.length ≤ 1048577 ∧ g.es.length ≤ 1048577 ∧ 0 ≤ szG g left ∧ szG g left ≤ 1048576 := by
  unfold szG szLeft at h ⊢
  by_cases c : left - (g.vs.length : Int) < 0
  · rw [if_pos c] at h; omega
  · rw [if_neg c] at h ⊢
    by_cases d : left - (g.vs.length : Int) - (g.es.length : Int) < 0
    · rw [if_pos d] at h; omega
    · rw [if_neg d] at h ⊢; omega
set_option maxHeartbeats 1000000 in
set_option maxRecDepth 100000 in
theorem fnExactEqualGraphs_walk (v v2 : Value) (g g2 : Grf) (w : World) (h : GrfAt w v g) (h2 : GrfAt w v2 g2) (hl : g.vs.length ≤ maxLen ∧ g.es.length ≤ maxLen) (hl2 : g2.vs.length ≤ maxLen ∧ g2.es.length ≤ maxLen) :
    Calls Try.prog 9 #[v, v2] w fun e w' => e = .returned (.bool true) ∧ Since w w' := by
  have HG := Lib.hid h
  have HH := Lib.hid h2
  obtain ⟨a, b, rfl, ha, hb⟩ := h
  obtain ⟨ao, ac, rfl, _⟩ := ha.row
  obtain ⟨bo, bc, rfl⟩ := hb.len
  clear ha hb
  obtain ⟨n, hn⟩ : ∃ n, n = g.vs.length := ⟨_, rfl⟩
  obtain ⟨m, hm⟩ : ∃ m, m = g.es.length := ⟨_, rfl⟩
  rw [← hn, ← hm] at HG ⊢
  clear hn hm
  obtain ⟨a2, b2, rfl, ha2, hb2⟩ := h2
  obtain ⟨ao2, ac2, rfl, _⟩ := ha2.row
  obtain ⟨bo2, bc2, rfl⟩ := hb2.len
  clear ha2 hb2
  obtain ⟨n2, hn2⟩ : ∃ n2, n2 = g2.vs.length := ⟨_, rfl⟩
  obtain ⟨m2, hm2⟩ : ∃ m2, m2 = g2.es.length := ⟨_, rfl⟩
  rw [← hn2, ← hm2] at HH ⊢
  clear hn2 hm2
  have HL := Lib.hid hl
  have HL2 := Lib.hid hl2
  clear hl hl2
  have hs0 : Since w ((w.alloc (.cells #[.slice ao n ac, .slice bo m bc] 25)).alloc (.cells #[.slice ao2 n2 ac2, .slice bo2 m2 bc2] 25)) := ((Since.refl w).alloc _).alloc _
  have B0 : Hid (Blk ((w.alloc (.cells #[.slice ao n ac, .slice bo m bc] 25)).alloc (.cells #[.slice ao2 n2 ac2, .slice bo2 m2 bc2] 25)) w.heap.size 25 #[.slice ao n ac, .slice bo m bc]) := (Blk.new rfl _ _).alloc _
  have C0 : Hid (Blk ((w.alloc (.cells #[.slice ao n ac, .slice bo m bc] 25)).alloc (.cells #[.slice ao2 n2 ac2, .slice bo2 m2 bc2] 25)) (w.heap.size + 1) 25 #[.slice ao2 n2 ac2, .slice bo2 m2 bc2]) := Blk.new (by simp) _ _
  by_cases hz : szG g 1048576 < 0
  · obtain ⟨x, hx⟩ : ∃ x, x = szG g 1048576 := ⟨_, rfl⟩
    rw [← hx] at hz
    have HX := Lib.hid hx
    clear hx
    go_enter Try.func9, Try.ntmps9
    go_wp2_with fail
    refine (szG_is _ g 1048576 x _ (HG.out.since hs0) HL.out (by decide) (by decide) HX.out.symm).mono ?_
    rintro e w1 ⟨rfl, hs1⟩
    have hs := hs0.trans hs1
    go_wp2
    go_ret
    exact ⟨rfl, hs⟩
  · obtain ⟨a1, a2, a3, a4⟩ := szG_small2 (Int.le_refl _) hz
    obtain ⟨x, hx⟩ : ∃ x, x = szG g 1048576 := ⟨_, rfl⟩
    rw [← hx] at hz a3 a4
    have HX := Lib.hid hx
    clear hx
    by_cases hz2 : szG g2 x < 0
    · obtain ⟨y, hy⟩ : ∃ y, y = szG g2 x := ⟨_, rfl⟩
      rw [← hy] at hz2
      have HY := Lib.hid hy
      clear hy
      go_enter Try.func9, Try.ntmps9
      go_wp2_with fail
      refine (szG_is _ g 1048576 x _ (HG.out.since hs0) HL.out (by decide) (by decide) HX.out.symm).mono ?_
      rintro e w1 ⟨rfl, hs1⟩
      have hs := hs0.trans hs1
      obtain ⟨q0, q1, _, _⟩ := (C0.out.since hs1).two
      go_wp2_with fail
      refine (szG_is _ g2 x y _ (HH.out.since hs) HL2.out a3 a4 HY.out.symm).mono ?_
      rintro e w2 ⟨rfl, hs2⟩
      have hs3 := hs.trans hs2
      go_wp2
      go_ret
      exact ⟨rfl, hs3⟩
    · obtain ⟨c1, c2, c3, c4⟩ := szG_small2 a4 hz2
      have g4 : g.vs.length ≤ 1152921504606846976 := by omega
      have g5 : g.es.length ≤ 1152921504606846976 := by omega
      have g6 : g2.vs.length ≤ 1152921504606846976 := by omega
      have g7 : g2.es.length ≤ 1152921504606846976 := by omega
      obtain ⟨y, hy⟩ : ∃ y, y = szG g2 x := ⟨_, rfl⟩
      rw [← hy] at hz2 c3 c4
      have HY := Lib.hid hy
      clear hy
      go_enter Try.func9, Try.ntmps9
      go_wp2_with fail
      refine (szG_is _ g 1048576 x _ (HG.out.since hs0) HL.out (by decide) (by decide) HX.out.symm).mono ?_
      rintro e w1 ⟨rfl, hs1⟩
      have hs01 := hs0.trans hs1
      have b1 := Lib.hid (B0.out.since hs1)
      have d1 := Lib.hid (C0.out.since hs1)
      obtain ⟨q0, q1, _, _⟩ := d1.out.two
      go_wp2_with fail
      refine (szG_is _ g2 x y _ (HH.out.since hs01) HL2.out a3 a4 HY.out.symm).mono ?_
      rintro e w2 ⟨rfl, hs2⟩
      have hs02 := hs01.trans hs2
      have b2 := Lib.hid (b1.out.since hs2)
      have d2 := Lib.hid (d1.out.since hs2)
      clear B0 C0 b1 d1 q0 q1
      go_upto_region 8 with fail
      go_cut [6] (fun s wx => s = .bool (decide (g = g2)) ∧ Since w2 wx)
      case first =>
        have HKC : Hid (∀ w', Since w2 w' → w'.cell? ⟨w.heap.size, 0, none⟩ = some (.slice ao n ac) ∧ w'.cell? ⟨w.heap.size, 1, none⟩ = some (.slice bo m bc) ∧ w'.cell? ⟨w.heap.size + 1, 0, none⟩ = some (.slice ao2 n2 ac2) ∧ w'.cell? ⟨w.heap.size + 1, 1, none⟩ = some (.slice bo2 m2 bc2)) := by
          intro w' hs
          obtain ⟨r0, r1, _, _⟩ := (b2.out.since hs).two
          obtain ⟨s0, s1, _, _⟩ := (d2.out.since hs).two
          exact ⟨r0, r1, s0, s1⟩
        refine wp_region_held_drew (S := (fun w' => w'.cell? ⟨w.heap.size, 0, none⟩ = some (.slice ao n ac) ∧ w'.cell? ⟨w.heap.size, 1, none⟩ = some (.slice bo m bc) ∧ w'.cell? ⟨w.heap.size + 1, 0, none⟩ = some (.slice ao2 n2 ac2) ∧ w'.cell? ⟨w.heap.size + 1, 1, none⟩ = some (.slice bo2 m2 bc2))) (by kernel_rfl) (HKC.out _ (Since.refl _).drew) (fun hHeld => ?_)
        refine take_yes 0 (some 20) (v := ?_) rfl (by kernel_rfl) (by kernel_rfl) (by kernel_rfl) (by kernel_rfl) (fun _ _ _ h => h) (by rfl) (by assumption) ?_ ?_
        rotate_left
        · (intro w' hSw; (try dsimp only at hSw); go_simp; try with_reducible rfl)
        try simp only [Act.put, List.setIfInBounds_toArray, List.set_cons_zero, List.set_cons_succ]
        refine take_yes 2 (some 22) (v := ?_) rfl (by kernel_rfl) (by kernel_rfl) (by kernel_rfl) (by kernel_rfl) (fun _ _ _ h => h) (by rfl) (by assumption) ?_ ?_
        rotate_left
        · (intro w' hSw; (try dsimp only at hSw); go_simp; try with_reducible rfl)
        try simp only [Act.put, List.setIfInBounds_toArray, List.set_cons_zero, List.set_cons_succ]
        refine take_run 1 rfl (by kernel_rfl) (by rfl) (fun K hK => ?_)
        · go_simp
          refine (toGraph_any _ g _ (HG.out.since hs02.drew) a1 a2).mono ?_
          rintro e w3 ⟨v3, rfl, ho3, hs3⟩
          have hs3' := Since.of_drew hs3
          refine hK.out _ _ (HKC.out _ hs3') (fun hHeld2 => ?_)
          clear hK K hHeld
          try simp only [Act.put, List.setIfInBounds_toArray, List.set_cons_zero, List.set_cons_succ]
          refine take_run 3 rfl (by kernel_rfl) (by rfl) (fun K hK => ?_)
          go_simp
          refine (toGraph_any _ g2 _ (HH.out.since (hs02.trans hs3')) c1 c2).mono ?_
          rintro e w4 ⟨v4, rfl, ho4, hs4⟩
          have hs4' := hs3'.trans hs4
          refine hK.out _ _ (HKC.out _ hs4') (fun hHeld3 => ?_)
          clear hK K hHeld2
          try simp only [Act.put, List.setIfInBounds_toArray, List.set_cons_zero, List.set_cons_succ]
          refine take_run 4 rfl (by kernel_rfl) (by rfl) (fun K hK => ?_)
          go_simp
          refine (specEQ_any _ _ g g2 _ (ho3.at.since hs4) ho4.at g4 g5 g6 g7).mono ?_
          rintro e w5 ⟨rfl, hs5⟩
          have hs5' := hs4'.trans hs5
          refine hK.out _ _ (HKC.out _ hs5') (fun hHeld4 => ?_)
          clear hK K hHeld3
          try simp only [Act.put, List.setIfInBounds_toArray, List.set_cons_zero, List.set_cons_succ]
          refine take_yes 5 (some 6) (v := ?_) rfl (by kernel_rfl) (by kernel_rfl) (by kernel_rfl) (by kernel_rfl) (fun _ _ _ h => h) (by rfl) (by assumption) ?_ ?_
          rotate_left
          · (intro w' hSw; (try dsimp only at hSw); go_simp; try with_reducible rfl)
          try simp only [Act.put, List.setIfInBounds_toArray, List.set_cons_zero, List.set_cons_succ]
          refine wpAnyH_done (by kernel_rfl) ?_ _
          go_wp2_with fail
          go_meet
          exact ⟨rfl, hs5'⟩
      case rest =>
        obtain ⟨h6, hw2⟩ := hcut
        subst h6
        have hs03 := hs02.trans hw2
        have b3 := Lib.hid (b2.out.since hw2)
        have d3 := Lib.hid (d2.out.since hw2)
        clear b2 d2
        obtain ⟨p0, p1, _, _⟩ := b3.out.two
        obtain ⟨q0, q1, _, _⟩ := d3.out.two
        go_wp2_with fail
        clear p0 p1 q0 q1
        refine (toGraph_any _ g _ (HG.out.since hs03) a1 a2).mono ?_
        rintro e w4 ⟨v4, rfl, ho4, hs4⟩
        have HO4 := Lib.hid ho4
        obtain ⟨xa, xb, rfl, ka, _, kb, _⟩ := ho4
        obtain ⟨xo, xc, rfl⟩ := ka.len
        obtain ⟨yo, yc, rfl⟩ := kb.len
        clear ka kb
        have hs04 := (hs03.trans hs4).alloc (.cells #[.slice xo g.vs.length xc, .slice yo g.es.length yc] 30)
        have b4 := Lib.hid ((b3.out.since hs4).alloc (.cells #[.slice xo g.vs.length xc, .slice yo g.es.length yc] 30))
        have d4 := Lib.hid ((d3.out.since hs4).alloc (.cells #[.slice xo g.vs.length xc, .slice yo g.es.length yc] 30))
        have x4 : Hid (Blk (w4.alloc (.cells #[.slice xo g.vs.length xc, .slice yo g.es.length yc] 30)) w4.heap.size 30 #[.slice xo g.vs.length xc, .slice yo g.es.length yc]) := Blk.new rfl _ _
        have HO4' := Lib.hid (HO4.out.since ((Since.refl w4).alloc (.cells #[.slice xo g.vs.length xc, .slice yo g.es.length yc] 30)))
        clear b3 d3 HO4
        obtain ⟨q0, q1, _, _⟩ := d4.out.two
        go_wp2_with fail
        clear q0 q1
        refine (toGraph_any _ g2 _ (HH.out.since hs04) c1 c2).mono ?_
        rintro e w5 ⟨v5, rfl, ho5, hs5⟩
        have HO5 := Lib.hid ho5
        obtain ⟨za, zb, rfl, ka, _, kb, _⟩ := ho5
        obtain ⟨zo, zc, rfl⟩ := ka.len
        obtain ⟨uo, uc, rfl⟩ := kb.len
        clear ka kb
        have hs05 := (hs04.trans hs5).alloc (.cells #[.slice zo g2.vs.length zc, .slice uo g2.es.length uc] 30)
        have b5 := Lib.hid ((b4.out.since hs5).alloc (.cells #[.slice zo g2.vs.length zc, .slice uo g2.es.length uc] 30))
        have d5 := Lib.hid ((d4.out.since hs5).alloc (.cells #[.slice zo g2.vs.length zc, .slice uo g2.es.length uc] 30))
        have x5 := Lib.hid ((x4.out.since hs5).alloc (.cells #[.slice zo g2.vs.length zc, .slice uo g2.es.length uc] 30))
        have y5 : Hid (Blk (w5.alloc (.cells #[.slice zo g2.vs.length zc, .slice uo g2.es.length uc] 30)) w5.heap.size 30 #[.slice zo g2.vs.length zc, .slice uo g2.es.length uc]) := Blk.new rfl _ _
        have HP4 := Lib.hid ((HO4'.out.since hs5).since ((Since.refl w5).alloc (.cells #[.slice zo g2.vs.length zc, .slice uo g2.es.length uc] 30)))
        have HP5 := Lib.hid (HO5.out.since ((Since.refl w5).alloc (.cells #[.slice zo g2.vs.length zc, .slice uo g2.es.length uc] 30)))
        clear b4 d4 x4 HO4' HO5
        obtain ⟨p0, p1, _, _⟩ := x5.out.two
        obtain ⟨q0, q1, _, _⟩ := y5.out.two
        go_wp2_with fail
        clear p0 p1 q0 q1
        refine (implEQ_any _ _ g g2 _ HP4.out.at HP5.out.at g4 g5 g6 g7).mono ?_
        rintro e w6 ⟨rfl, hs6⟩
        have hs06 := hs05.trans hs6
        have b6 := Lib.hid (b5.out.since hs6)
        have d6 := Lib.hid (d5.out.since hs6)
        have x6 := Lib.hid (x5.out.since hs6)
        have y6 := Lib.hid (y5.out.since hs6)
        have HQ4 := Lib.hid (HP4.out.since hs6)
        have HQ5 := Lib.hid (HP5.out.since hs6)
        clear b5 d5 x5 y5 HP4 HP5
        have hv : (decide (g = g2) != decide (g = g2)) = false := by simp
        go_wp2_with fail
        have HKC : Hid (∀ w', Since w6 w' → w'.cell? ⟨w.heap.size, 0, none⟩ = some (.slice ao n ac) ∧ w'.cell? ⟨w.heap.size, 1, none⟩ = some (.slice bo m bc) ∧ w'.cell? ⟨w4.heap.size, 0, none⟩ = some (.slice xo g.vs.length xc) ∧ w'.cell? ⟨w4.heap.size, 1, none⟩ = some (.slice yo g.es.length yc)) := by
          intro w' hs
          obtain ⟨r0, r1, _, _⟩ := (b6.out.since hs).two
          obtain ⟨s0, s1, _, _⟩ := (x6.out.since hs).two
          exact ⟨r0, r1, s0, s1⟩
        refine wp_region_held_drew (S := (fun w' => w'.cell? ⟨w.heap.size, 0, none⟩ = some (.slice ao n ac) ∧ w'.cell? ⟨w.heap.size, 1, none⟩ = some (.slice bo m bc) ∧ w'.cell? ⟨w4.heap.size, 0, none⟩ = some (.slice xo g.vs.length xc) ∧ w'.cell? ⟨w4.heap.size, 1, none⟩ = some (.slice yo g.es.length yc))) (by kernel_rfl) (HKC.out _ (Since.refl _).drew) (fun hHeld => ?_)
        refine take_yes 0 (some 35) (v := ?_) rfl (by kernel_rfl) (by kernel_rfl) (by kernel_rfl) (by kernel_rfl) (fun _ _ _ h => h) (by rfl) (by assumption) ?_ ?_
        rotate_left
        · (intro w' hSw; (try dsimp only at hSw); go_simp; try with_reducible rfl)
        try simp only [Act.put, List.setIfInBounds_toArray, List.set_cons_zero, List.set_cons_succ]
        refine take_yes 1 (some 36) (v := ?_) rfl (by kernel_rfl) (by kernel_rfl) (by kernel_rfl) (by kernel_rfl) (fun _ _ _ h => h) (by rfl) (by assumption) ?_ ?_
        rotate_left
        · (intro w' hSw; (try dsimp only at hSw); go_simp; try with_reducible rfl)
        try simp only [Act.put, List.setIfInBounds_toArray, List.set_cons_zero, List.set_cons_succ]
        refine take_run 2 rfl (by kernel_rfl) (by rfl) (fun K hK => ?_)
        go_simp
        refine (toGraph_any _ g _ (HG.out.since hs06.drew) a1 a2).mono ?_
        rintro e wa7 ⟨va7, rfl, hoa, hsa⟩
        refine hK.out _ _ (HKC.out _ (Since.of_drew hsa)) (fun hHeld2 => ?_)
        clear hK K hHeld
        have hsb := hs06.trans (Since.of_drew hsa)
        try simp only [Act.put, List.setIfInBounds_toArray, List.set_cons_zero, List.set_cons_succ]
        refine take_run 3 rfl (by kernel_rfl) (by rfl) (fun K hK => ?_)
        go_simp
        refine (eqGraph_any _ _ g g _ (HQ4.out.at.since (Since.of_drew hsa)) hoa.at g4 g5 g4 g5).mono ?_
        rintro e wb7 ⟨rfl, hsc⟩
        refine hK.out _ _ (HKC.out _ ((Since.of_drew hsa).trans hsc)) (fun hHeld3 => ?_)
        clear hK K hHeld2
        try simp only [Act.put, List.setIfInBounds_toArray, List.set_cons_zero, List.set_cons_succ]
        have hd7 : decide (g = g) = true := by simp
        refine take_yes 4 (some 39) (v := ?_) rfl (by kernel_rfl) (by kernel_rfl) (by kernel_rfl) (by kernel_rfl) (fun _ _ _ h => h) (by rfl) (by assumption) ?_ ?_
        rotate_left
        · (intro w' hSw; (try dsimp only at hSw); go_simp; try with_reducible rfl)
        try simp only [Act.put, List.setIfInBounds_toArray, List.set_cons_zero, List.set_cons_succ]
        refine wpAnyH_done (by kernel_rfl) ?_ _
        clear hHeld3
        have hw7 := (Since.of_drew hsa).trans hsc
        have hs7 := hs06.trans hw7
        clear hsa hsb hsc hoa
        clear HKC
        have d7 := Lib.hid (d6.out.since hw7)
        have y7 := Lib.hid (y6.out.since hw7)
        have HR5 := Lib.hid (HQ5.out.since hw7)
        clear b6 d6 x6 y6 HQ4 HQ5
        have HKD : Hid (∀ w', Since wb7 w' → w'.cell? ⟨w.heap.size + 1, 0, none⟩ = some (.slice ao2 n2 ac2) ∧ w'.cell? ⟨w.heap.size + 1, 1, none⟩ = some (.slice bo2 m2 bc2) ∧ w'.cell? ⟨w5.heap.size, 0, none⟩ = some (.slice zo g2.vs.length zc) ∧ w'.cell? ⟨w5.heap.size, 1, none⟩ = some (.slice uo g2.es.length uc)) := by
          intro w' hs
          obtain ⟨r0, r1, _, _⟩ := (d7.out.since hs).two
          obtain ⟨s0, s1, _, _⟩ := (y7.out.since hs).two
          exact ⟨r0, r1, s0, s1⟩
        go_wp2_with fail
        refine wp_region_held_drew (S := (fun w' => w'.cell? ⟨w.heap.size + 1, 0, none⟩ = some (.slice ao2 n2 ac2) ∧ w'.cell? ⟨w.heap.size + 1, 1, none⟩ = some (.slice bo2 m2 bc2) ∧ w'.cell? ⟨w5.heap.size, 0, none⟩ = some (.slice zo g2.vs.length zc) ∧ w'.cell? ⟨w5.heap.size, 1, none⟩ = some (.slice uo g2.es.length uc))) (by kernel_rfl) (HKD.out _ (Since.refl _).drew) (fun hHeld => ?_)
        refine take_yes 0 (some 40) (v := ?_) rfl (by kernel_rfl) (by kernel_rfl) (by kernel_rfl) (by kernel_rfl) (fun _ _ _ h => h) (by rfl) (by assumption) ?_ ?_
        rotate_left
        · (intro w' hSw; (try dsimp only at hSw); go_simp; try with_reducible rfl)
        try simp only [Act.put, List.setIfInBounds_toArray, List.set_cons_zero, List.set_cons_succ]
        refine take_yes 1 (some 41) (v := ?_) rfl (by kernel_rfl) (by kernel_rfl) (by kernel_rfl) (by kernel_rfl) (fun _ _ _ h => h) (by rfl) (by assumption) ?_ ?_
        rotate_left
        · (intro w' hSw; (try dsimp only at hSw); go_simp; try with_reducible rfl)
        try simp only [Act.put, List.setIfInBounds_toArray, List.set_cons_zero, List.set_cons_succ]
        refine take_run 2 rfl (by kernel_rfl) (by rfl) (fun K hK => ?_)
        go_simp
        refine (toGraph_any _ g2 _ (HH.out.since hs7.drew) c1 c2).mono ?_
        rintro e wa8 ⟨va8, rfl, hoa, hsa⟩
        refine hK.out _ _ (HKD.out _ (Since.of_drew hsa)) (fun hHeld2 => ?_)
        clear hK K hHeld
        have hsb := hs7.trans (Since.of_drew hsa)
        try simp only [Act.put, List.setIfInBounds_toArray, List.set_cons_zero, List.set_cons_succ]
        refine take_run 3 rfl (by kernel_rfl) (by rfl) (fun K hK => ?_)
        go_simp
        refine (eqGraph_any _ _ g2 g2 _ (HR5.out.at.since (Since.of_drew hsa)) hoa.at g6 g7 g6 g7).mono ?_
        rintro e wb8 ⟨rfl, hsc⟩
        refine hK.out _ _ (HKD.out _ ((Since.of_drew hsa).trans hsc)) (fun hHeld3 => ?_)
        clear hK K hHeld2
        try simp only [Act.put, List.setIfInBounds_toArray, List.set_cons_zero, List.set_cons_succ]
        have hd8 : decide (g2 = g2) = true := by simp
        refine take_yes 4 (some 44) (v := ?_) rfl (by kernel_rfl) (by kernel_rfl) (by kernel_rfl) (by kernel_rfl) (fun _ _ _ h => h) (by rfl) (by assumption) ?_ ?_
        rotate_left
        · (intro w' hSw; (try dsimp only at hSw); go_simp; try with_reducible rfl)
        try simp only [Act.put, List.setIfInBounds_toArray, List.set_cons_zero, List.set_cons_succ]
        refine wpAnyH_done (by kernel_rfl) ?_ _
        clear hHeld3
        have hw8 := (Since.of_drew hsa).trans hsc
        have hs8 := hs7.trans hw8
        clear hsa hsb hsc hoa
        clear HKD
        go_wp2
        go_ret
        exact ⟨rfl, hs8⟩
end Go.Proofs.Ytikbobinkojnfaa
