/- The law of ReverseWalk, walked. -/
import Derived.Test.YtilkheclimammaaRkS
import Derived.Test.YtilkheclimammaaRkI
import Derived.Test.YtilkheclimammaaBoxW
import Derived.Test.YtilkheclimammaaSzW
namespace Go.Proofs.Ytilkheclimammaa
set_option maxRecDepth 100000
open Go.ChangeShapes Go.WideShapes Go.ChangeAt Go.RowKit
set_option linter.unusedVariables false
set_option linter.unusedSimpArgs false

set_option maxHeartbeats 4000000 in
set_option maxRecDepth 100000 in
theorem fnExactReverseWalk_walk (v0 v1 : Value) (g : Grf) (x : Wlk) (w : World) (h0 : GrfAt w v0 g) (h1 : WlkAt w v1 x) (hl0 : g.vs.length ≤ maxLen ∧ g.es.length ≤ maxLen) (hl1 : x.ss.length ≤ maxLen) :
    Calls Try.prog 10 #[v0, v1] w fun e w' => e = .returned (.bool true) ∧ Since w w' := by
  have HG := Lib.hid h0
  have HX := Lib.hid h1
  have HL0 := Lib.hid hl0
  have HL1 := Lib.hid hl1
  obtain ⟨a, b, rfl, ha, hb⟩ := h0
  obtain ⟨ao, ac, rfl, _⟩ := ha.row
  obtain ⟨bo, bc, rfl⟩ := hb.len
  obtain ⟨s, rfl, hss⟩ := h1
  obtain ⟨so, sc, rfl, _⟩ := hss
  clear ha hb
  obtain ⟨n, hn⟩ : ∃ n, n = g.vs.length := ⟨_, rfl⟩
  obtain ⟨m, hm⟩ : ∃ m, m = g.es.length := ⟨_, rfl⟩
  obtain ⟨p, hp⟩ : ∃ p, p = x.ss.length := ⟨_, rfl⟩
  rw [← hn, ← hm] at HG ⊢
  rw [← hp] at HX ⊢
  clear hn hm hp hl0 hl1
  obtain ⟨y0, hy0⟩ : ∃ y, y = ((w.alloc (.cells #[.slice ao n ac, .slice bo m bc] 44)).alloc (.cells #[.int .i64 x.st, .slice so p sc] 47)) := ⟨_, rfl⟩
  have hs0 : Since w y0 := by rw [hy0]; exact ((Since.refl w).alloc _).alloc _
  have hz0 : w.heap.size + 2 = y0.heap.size := by rw [hy0]; simp
  have bx0 : Hid (Blk y0 w.heap.size 44 #[.slice ao n ac, .slice bo m bc]) := by rw [hy0]; exact (Blk.new rfl _ _).alloc _
  have bx1 : Hid (Blk y0 (w.heap.size + 1) 47 #[.int .i64 x.st, .slice so p sc]) := by rw [hy0]; exact Blk.new (by simp) _ _
  obtain ⟨z0, hx0⟩ : ∃ zz, zz = szG g 1048576 := ⟨_, rfl⟩
  by_cases hzz0 : z0 < 0
  · have HX0 := Lib.hid hx0
    clear hx0
    go_enter Try.func10, Try.ntmps10
    go_wp2_with fail
    rw [← hy0]
    clear hy0
    refine (szG_is _ g 1048576 z0 _ (HG.out.since hs0) HL0.out (by decide) (by decide) HX0.out.symm).mono ?_
    rintro en w1 ⟨rfl, hs1⟩
    have hs01 := hs0.trans hs1
    go_wp2
    go_ret
    exact ⟨rfl, hs01⟩
  have lx0 : 0 ≤ z0 ∧ z0 ≤ 1048576 := by rw [hx0]; rw [hx0] at hzz0; exact (szG_small3 (g := g) (left := 1048576) (by decide) hzz0).1
  obtain ⟨g1, g2⟩ : g.vs.length ≤ 1048577 ∧ g.es.length ≤ 1048577 := by rw [hx0] at hzz0; exact (szG_small3 (g := g) (left := 1048576) (by decide) hzz0).2
  have HX0 := Lib.hid hx0
  clear hx0
  obtain ⟨z1, hx1⟩ : ∃ zz, zz = szLeft x.ss.length z0 := ⟨_, rfl⟩
  by_cases hzz1 : z1 < 0
  · have HX1 := Lib.hid hx1
    clear hx1
    go_enter Try.func10, Try.ntmps10
    go_wp2_with fail
    rw [← hy0]
    clear hy0
    refine (szG_is _ g 1048576 z0 _ (HG.out.since hs0) HL0.out (by decide) (by decide) HX0.out.symm).mono ?_
    rintro en w1 ⟨rfl, hs1⟩
    have hs01 := hs0.trans hs1
    obtain ⟨p0, p1, _, _⟩ := (bx1.out.since hs1).two
    go_wp2_with fail
    clear p0 p1
    refine (szWalk_any _ x z0 z1 _ (HX.out.since hs01) HL1.out lx0.1 lx0.2 HX1.out.symm).mono ?_
    rintro en w2 ⟨rfl, hs2⟩
    have hs02 := hs01.trans hs2
    go_wp2
    go_ret
    exact ⟨rfl, hs02⟩
  have x1 : x.ss.length ≤ 1048577 := by rw [hx1] at hzz1; exact (szW_small (x := x) (left := z0) lx0.2 hzz1).2
  have HX1 := Lib.hid hx1
  clear hx1
  have HS : Hid (∀ V U W, GrfAt W V g → WlkAt W U x → Calls Try.prog 49 #[V, U] W (WBOut W (revX g x) (validW g x))) := fun V U W k0 k1 => specRK_any V U g x W k0 k1 g1 g2 x1
  have HI : Hid (∀ V U W, GrfAt W V g → WlkAt W U x → Calls Try.prog 50 #[V, U] W (WBOut W (revX g x) (validW g x))) := fun V U W k0 k1 => implRK_any V U g x W k0 k1 g1 g2 x1
  have q1 : (revX g x).ss.length ≤ 1048577 := by
    unfold revX
    split
    · simp; exact x1
    · simp
  generalize revX g x = R at HS HI q1
  generalize validW g x = C at HS HI
  have q3 : R.ss.length ≤ 1152921504606846976 := by omega
  have q6 : R.ss.length ≤ 288230376151711744 := by omega
  have g4 : g.vs.length ≤ 1152921504606846976 := by omega
  have g5 : g.es.length ≤ 1152921504606846976 := by omega
  have g6 : g.vs.length ≤ 1152921504 := by omega
  have g7 : g.es.length ≤ 1152921504 := by omega
  have x4 : x.ss.length ≤ 1152921504606846976 := by omega
  have x6 : x.ss.length ≤ 288230376151711744 := by omega
  obtain ⟨kx0, hkx0⟩ : ∃ kx : Int, kx = 1 + szOf g := ⟨_, rfl⟩
  have bk0 : 0 ≤ kx0 ∧ kx0 ≤ 10000000 := by unfold szOf at hkx0; omega
  obtain ⟨kx1, hkx1⟩ : ∃ kx : Int, kx = kx0 + 2 * (x.ss.length : Int) := ⟨_, rfl⟩
  have bk1 : 0 ≤ kx1 := by omega
  obtain ⟨kr, hkr⟩ : ∃ kr : Int, kr = 1 + 2 * (R.ss.length : Int) := ⟨_, rfl⟩
  have dkx : decide (kx1 < 0) = false := by simp; omega
  have dkr : decide (kr < 0) = false := by simp; omega
  have ekr : (kr != kr) = false := by simp
  have HKX0 := Lib.hid hkx0
  have HKX1 := Lib.hid hkx1
  have HKR := Lib.hid hkr
  have dgg : decide (g = g) = true := by simp
  have dxx : decide (x = x) = true := by simp
  have dRR : decide (R = R) = true := by simp
  have eCC : (C != C) = false := by simp
  clear hkx0 hkx1 hkr
  go_enter Try.func10, Try.ntmps10
  go_wp2_with fail
  rw [← hy0]
  clear hy0
  refine (szG_is _ g 1048576 z0 _ (HG.out.since hs0) HL0.out (by decide) (by decide) HX0.out.symm).mono ?_
  rintro en wa ⟨rfl, hsa⟩
  have hs0a := hs0.trans hsa
  have zza := hsa.size
  have ba := Lib.hid (bx0.out.since hsa)
  have ea := Lib.hid (bx1.out.since hsa)
  clear bx0 bx1 hs0 hsa
  obtain ⟨p0, p1, _, _⟩ := ea.out.two
  go_wp2_with fail
  clear p0 p1
  refine (szWalk_any _ x z0 z1 _ (HX.out.since hs0a) HL1.out lx0.1 lx0.2 HX1.out.symm).mono ?_
  rintro en w1 ⟨rfl, hsb⟩
  have hs01 := hs0a.trans hsb
  have zzb := hsb.size
  have b1 := Lib.hid (ba.out.since hsb)
  have e1 := Lib.hid (ea.out.since hsb)
  clear ba ea hs0a hsb
  go_upto_region 8 with fail
  go_cut [6, 7] (fun p c wx => BoxW w1 wx p R ∧ c = .bool C)
  case first =>
    have HKC : Hid (∀ w', Since w1 w' → w'.cell? ⟨w.heap.size, 0, none⟩ = some (.slice ao n ac) ∧ w'.cell? ⟨w.heap.size, 1, none⟩ = some (.slice bo m bc) ∧ w'.cell? ⟨w.heap.size + 1, 0, none⟩ = some (.int .i64 x.st) ∧ w'.cell? ⟨w.heap.size + 1, 1, none⟩ = some (.slice so p sc)) := by
      intro w' hs
      obtain ⟨x0, x1, _, _⟩ := (b1.out.since hs).two
      obtain ⟨y0, y1, _, _⟩ := (e1.out.since hs).two
      exact ⟨x0, x1, y0, y1⟩
    go_wp2_with fail
    refine wp_region_held_drew (S := (fun w' => w'.cell? ⟨w.heap.size, 0, none⟩ = some (.slice ao n ac) ∧ w'.cell? ⟨w.heap.size, 1, none⟩ = some (.slice bo m bc) ∧ w'.cell? ⟨w.heap.size + 1, 0, none⟩ = some (.int .i64 x.st) ∧ w'.cell? ⟨w.heap.size + 1, 1, none⟩ = some (.slice so p sc))) (by kernel_rfl) (HKC.out _ (Since.refl _).drew) (fun hHeld => ?_)
    refine take_yes 0 (some 28) (v := ?_) rfl (by kernel_rfl) (by kernel_rfl) (by kernel_rfl) (by kernel_rfl) (fun _ _ _ h => h) (by rfl) (by assumption) ?_ ?_
    rotate_left
    · (intro w' hSw; (try dsimp only at hSw); go_simp; try with_reducible rfl)
    try simp only [Act.put, List.setIfInBounds_toArray, List.set_cons_zero, List.set_cons_succ]
    refine take_yes 2 (some 30) (v := ?_) rfl (by kernel_rfl) (by kernel_rfl) (by kernel_rfl) (by kernel_rfl) (fun _ _ _ h => h) (by rfl) (by assumption) ?_ ?_
    rotate_left
    · (intro w' hSw; (try dsimp only at hSw); go_simp; try with_reducible rfl)
    try simp only [Act.put, List.setIfInBounds_toArray, List.set_cons_zero, List.set_cons_succ]
    refine take_two 1 8 rfl rfl (by kernel_rfl) (by rfl) (by rfl) (fun K hK => ?_) (fun K hK => ?_)
    · skip
      go_simp
      refine (toGraph_any _ g _ (HG.out.since (hs01.trans (Since.refl w1).drew)) g1 g2).mono ?_
      rintro en q1 ⟨v1, rfl, ho1, hs1⟩
      have hc1 := Since.trans (Since.refl w1).drew hs1
      have X1 := Lib.hid ho1
      clear ho1
      refine hK.out _ _ (HKC.out _ hc1) (fun hHeld1 => ?_)
      clear hK K hHeld
      try simp only [Act.put, List.setIfInBounds_toArray, List.set_cons_zero, List.set_cons_succ]
      refine take_two 3 8 rfl rfl (by kernel_rfl) (by rfl) (by rfl) (fun K hK => ?_) (fun K hK => ?_)
      · skip
        go_simp
        refine (toWalk_any _ x _ (HX.out.since (hs01.trans hc1)) x1).mono ?_
        rintro en q2 ⟨v2, rfl, ho2, hs2⟩
        have hc2 := Since.trans hc1 hs2
        have Y2 := Lib.hid ho2
        clear ho2
        have XF2 := Lib.hid ((X1.out).since hs2)
        refine hK.out _ _ (HKC.out _ hc2) (fun hHeld2 => ?_)
        clear hK K hHeld1
        try simp only [Act.put, List.setIfInBounds_toArray, List.set_cons_zero, List.set_cons_succ]
        refine take_two 4 8 rfl rfl (by kernel_rfl) (by rfl) (by rfl) (fun K hK => ?_) (fun K hK => ?_)
        · skip
          go_simp
          refine (HS.out _ _ _ (XF2.out).at (Y2.out).at).mono ?_
          rintro en q3 ⟨v3, rfl, ho3, hs3⟩
          obtain ⟨rs3, rfl, ka3, ia3⟩ := ho3
          obtain ⟨rso, rsc, rfl⟩ := ka3.len
          have hlo := Since.lt hc2
          have hhi := hs3.size
          have OR : Hid (OwnW _ _ _ _ _) := ⟨_, rfl, ka3, ia3⟩
          clear ka3 ia3
          have hc3 := Since.trans hc2 hs3
          refine hK.out _ _ (HKC.out _ hc3) (fun hHeld3 => ?_)
          clear hK K hHeld2
          try simp only [Act.put, List.setIfInBounds_toArray, List.set_cons_zero, List.set_cons_succ]
          refine take_yes 5 (some 27) (v := ?_) rfl (by kernel_rfl) (by kernel_rfl) (by kernel_rfl) (by kernel_rfl) (fun _ _ _ h => h) (by rfl) (by assumption) ?_ ?_
          rotate_left
          · (intro w' hSw; (try dsimp only at hSw); go_simp; try with_reducible rfl)
          try simp only [Act.put, List.setIfInBounds_toArray, List.set_cons_zero, List.set_cons_succ]
          refine take_yes 6 (some 33) (v := ?_) rfl (by kernel_rfl) (by kernel_rfl) (by kernel_rfl) (by kernel_rfl) (fun _ _ _ h => h) (by rfl) (by assumption) ?_ ?_
          rotate_left
          · (intro w' hSw; (try dsimp only at hSw); go_simp; try with_reducible rfl)
          try simp only [Act.put, List.setIfInBounds_toArray, List.set_cons_zero, List.set_cons_succ]
          refine take_yes 7 (some 34) (v := ?_) rfl (by kernel_rfl) (by kernel_rfl) (by kernel_rfl) (by kernel_rfl) (fun _ _ _ h => h) (by rfl) (by assumption) ?_ ?_
          rotate_left
          · (intro w' hSw; (try dsimp only at hSw); go_simp; try with_reducible rfl)
          try simp only [Act.put, List.setIfInBounds_toArray, List.set_cons_zero, List.set_cons_succ]
          refine take_run 8 rfl (by kernel_rfl) (by rfl) (fun K hK => ?_)
          go_simp
          have hc4 := Since.alloc hc3 (.cells #[.int .i64 0, .slice none 0 0] 53)
          have hal4 : Since q3 (q3.alloc (.cells #[.int .i64 0, .slice none 0 0] 53)) := (Since.refl _).alloc _
          have B4 : Hid (Blk (q3.alloc (.cells #[.int .i64 0, .slice none 0 0] 53)) (q3.heap.size) 53 #[.int .i64 0, .slice none 0 0]) := Blk.new (by simp) _ _
          have hB4 : w1.heap.size ≤ q3.heap.size := by have := Since.lt hc3; first | exact this | simpa using this
          have OR4 := Lib.hid ((OR.out).since hal4)
          refine hK.out _ _ (HKC.out _ hc4) (fun hHeld4 => ?_)
          clear hK K hHeld3
          try simp only [Act.put, List.setIfInBounds_toArray, List.set_cons_zero, List.set_cons_succ]
          refine take_run 9 rfl (by kernel_rfl) (by rfl) (fun K hK => ?_)
          obtain ⟨s0, s1, s2, s3⟩ := (B4.out).two
          go_simp
          clear s0 s1 s2 s3
          have hcf := Since.alloc hc3 (.cells #[.int .i64 R.st, .slice rso R.ss.length rsc] 53)
          refine hK.out _ _ (HKC.out _ hcf) (fun hHeldz => ?_)
          clear hK K hHeld4
          try simp only [Act.put, List.setIfInBounds_toArray, List.set_cons_zero, List.set_cons_succ]
          refine take_yes 10 (some 7) (v := ?_) rfl (by kernel_rfl) (by kernel_rfl) (by kernel_rfl) (by kernel_rfl) (fun _ _ _ h => h) (by rfl) (by assumption) ?_ ?_
          rotate_left
          · (intro w' hSw; (try dsimp only at hSw); go_simp; try with_reducible rfl)
          try simp only [Act.put, List.setIfInBounds_toArray, List.set_cons_zero, List.set_cons_succ]
          refine wpAnyH_done (by kernel_rfl) ?_ _
          clear hHeldz
          go_wp2_with fail
          go_meet
          all_goals
            refine ⟨boxW_mk (q3.heap.size) hB4 ?_ ?_ ((OR.out).since ((Since.refl _).alloc (.cells #[.int .i64 R.st, .slice rso R.ss.length rsc] 53))) (Blk.new (by simp) _ _) hcf, rfl⟩
            all_goals (first | omega | (simp; omega) | simp)
        · skip
          go_simp
          have hc3 := Since.alloc hc2 (.cells #[.int .i64 0, .slice none 0 0] 53)
          have hal3 : Since q2 (q2.alloc (.cells #[.int .i64 0, .slice none 0 0] 53)) := (Since.refl _).alloc _
          have B3 : Hid (Blk (q2.alloc (.cells #[.int .i64 0, .slice none 0 0] 53)) (q2.heap.size) 53 #[.int .i64 0, .slice none 0 0]) := Blk.new (by simp) _ _
          have hB3 : w1.heap.size ≤ q2.heap.size := by have := Since.lt hc2; first | exact this | simpa using this
          have XF3 := Lib.hid ((XF2.out).since hal3)
          have YF3 := Lib.hid ((Y2.out).since hal3)
          refine hK.out _ _ (HKC.out _ hc3) (fun hHeld3 => ?_)
          clear hK K hHeld2
          try simp only [Act.put, List.setIfInBounds_toArray, List.set_cons_zero, List.set_cons_succ]
          refine take_run 4 rfl (by kernel_rfl) (by rfl) (fun K hK => ?_)
          go_simp
          refine (HS.out _ _ _ (XF3.out).at (YF3.out).at).mono ?_
          rintro en q4 ⟨v4, rfl, ho4, hs4⟩
          obtain ⟨rs4, rfl, ka4, ia4⟩ := ho4
          obtain ⟨rso, rsc, rfl⟩ := ka4.len
          have hlo := Since.lt hc3
          have hhi := hs4.size
          have OR : Hid (OwnW _ _ _ _ _) := ⟨_, rfl, ka4, ia4⟩
          clear ka4 ia4
          have hc4 := Since.trans hc3 hs4
          have hBl := (B3.out).lt
          have BF4 := Lib.hid ((B3.out).since hs4)
          refine hK.out _ _ (HKC.out _ hc4) (fun hHeld4 => ?_)
          clear hK K hHeld3
          try simp only [Act.put, List.setIfInBounds_toArray, List.set_cons_zero, List.set_cons_succ]
          refine take_yes 5 (some 27) (v := ?_) rfl (by kernel_rfl) (by kernel_rfl) (by kernel_rfl) (by kernel_rfl) (fun _ _ _ h => h) (by rfl) (by assumption) ?_ ?_
          rotate_left
          · (intro w' hSw; (try dsimp only at hSw); go_simp; try with_reducible rfl)
          try simp only [Act.put, List.setIfInBounds_toArray, List.set_cons_zero, List.set_cons_succ]
          refine take_yes 6 (some 33) (v := ?_) rfl (by kernel_rfl) (by kernel_rfl) (by kernel_rfl) (by kernel_rfl) (fun _ _ _ h => h) (by rfl) (by assumption) ?_ ?_
          rotate_left
          · (intro w' hSw; (try dsimp only at hSw); go_simp; try with_reducible rfl)
          try simp only [Act.put, List.setIfInBounds_toArray, List.set_cons_zero, List.set_cons_succ]
          refine take_yes 7 (some 34) (v := ?_) rfl (by kernel_rfl) (by kernel_rfl) (by kernel_rfl) (by kernel_rfl) (fun _ _ _ h => h) (by rfl) (by assumption) ?_ ?_
          rotate_left
          · (intro w' hSw; (try dsimp only at hSw); go_simp; try with_reducible rfl)
          try simp only [Act.put, List.setIfInBounds_toArray, List.set_cons_zero, List.set_cons_succ]
          refine take_run 9 rfl (by kernel_rfl) (by rfl) (fun K hK => ?_)
          obtain ⟨s0, s1, s2, s3⟩ := (BF4.out).two
          go_simp
          clear s0 s1 s2 s3
          refine hK.out _ _ ?_ (fun hHeldz => ?_)
          · obtain ⟨t0, t1, _, _⟩ := (((b1.out.since hc4).far (p := ⟨q2.heap.size, 0, none⟩) (by have := hB3; first | omega | (simp; omega)) (.int .i64 R.st)).far (p := ⟨q2.heap.size, 1, none⟩) (by have := hB3; first | omega | (simp; omega)) (.slice rso R.ss.length rsc)).two
            obtain ⟨u0, u1, _, _⟩ := (((e1.out.since hc4).far (p := ⟨q2.heap.size, 0, none⟩) (by have := hB3; first | omega | (simp; omega)) (.int .i64 R.st)).far (p := ⟨q2.heap.size, 1, none⟩) (by have := hB3; first | omega | (simp; omega)) (.slice rso R.ss.length rsc)).two
            exact ⟨t0, t1, u0, u1⟩
          clear hK K hHeld4
          try simp only [Act.put, List.setIfInBounds_toArray, List.set_cons_zero, List.set_cons_succ]
          refine take_yes 10 (some 7) (v := ?_) rfl (by kernel_rfl) (by kernel_rfl) (by kernel_rfl) (by kernel_rfl) (fun _ _ _ h => h) (by rfl) (by assumption) ?_ ?_
          rotate_left
          · (intro w' hSw; (try dsimp only at hSw); go_simp; try with_reducible rfl)
          try simp only [Act.put, List.setIfInBounds_toArray, List.set_cons_zero, List.set_cons_succ]
          refine wpAnyH_done (by kernel_rfl) ?_ _
          clear hHeldz
          go_wp2_with fail
          go_meet
          all_goals
            refine ⟨boxW_mk (q2.heap.size) hB3 ?_ ?_ ((OR.out).far2 ?_) (((BF4.out).set 0 (.int .i64 R.st)).set 1 (.slice rso R.ss.length rsc)) ((Since.setCell (Since.setCell hc4 (a := ⟨q2.heap.size, 0, none⟩) hB3 (.int .i64 R.st)) (a := ⟨q2.heap.size, 1, none⟩) hB3 (.slice rso R.ss.length rsc))), rfl⟩
            all_goals (first | omega | (simp; omega) | simp)
      · skip
        go_simp
        have hc2 := Since.alloc hc1 (.cells #[.int .i64 0, .slice none 0 0] 53)
        have hal2 : Since q1 (q1.alloc (.cells #[.int .i64 0, .slice none 0 0] 53)) := (Since.refl _).alloc _
        have B2 : Hid (Blk (q1.alloc (.cells #[.int .i64 0, .slice none 0 0] 53)) (q1.heap.size) 53 #[.int .i64 0, .slice none 0 0]) := Blk.new (by simp) _ _
        have hB2 : w1.heap.size ≤ q1.heap.size := by have := Since.lt hc1; first | exact this | simpa using this
        have XF2 := Lib.hid ((X1.out).since hal2)
        refine hK.out _ _ (HKC.out _ hc2) (fun hHeld2 => ?_)
        clear hK K hHeld1
        try simp only [Act.put, List.setIfInBounds_toArray, List.set_cons_zero, List.set_cons_succ]
        refine take_run 3 rfl (by kernel_rfl) (by rfl) (fun K hK => ?_)
        go_simp
        refine (toWalk_any _ x _ (HX.out.since (hs01.trans hc2)) x1).mono ?_
        rintro en q3 ⟨v3, rfl, ho3, hs3⟩
        have hc3 := Since.trans hc2 hs3
        have Y3 := Lib.hid ho3
        clear ho3
        have XF3 := Lib.hid ((XF2.out).since hs3)
        have BF3 := Lib.hid ((B2.out).since hs3)
        refine hK.out _ _ (HKC.out _ hc3) (fun hHeld3 => ?_)
        clear hK K hHeld2
        try simp only [Act.put, List.setIfInBounds_toArray, List.set_cons_zero, List.set_cons_succ]
        refine take_run 4 rfl (by kernel_rfl) (by rfl) (fun K hK => ?_)
        go_simp
        refine (HS.out _ _ _ (XF3.out).at (Y3.out).at).mono ?_
        rintro en q4 ⟨v4, rfl, ho4, hs4⟩
        obtain ⟨rs4, rfl, ka4, ia4⟩ := ho4
        obtain ⟨rso, rsc, rfl⟩ := ka4.len
        have hlo := Since.lt hc3
        have hhi := hs4.size
        have OR : Hid (OwnW _ _ _ _ _) := ⟨_, rfl, ka4, ia4⟩
        clear ka4 ia4
        have hc4 := Since.trans hc3 hs4
        have hBl := (BF3.out).lt
        have BF4 := Lib.hid ((BF3.out).since hs4)
        refine hK.out _ _ (HKC.out _ hc4) (fun hHeld4 => ?_)
        clear hK K hHeld3
        try simp only [Act.put, List.setIfInBounds_toArray, List.set_cons_zero, List.set_cons_succ]
        refine take_yes 5 (some 27) (v := ?_) rfl (by kernel_rfl) (by kernel_rfl) (by kernel_rfl) (by kernel_rfl) (fun _ _ _ h => h) (by rfl) (by assumption) ?_ ?_
        rotate_left
        · (intro w' hSw; (try dsimp only at hSw); go_simp; try with_reducible rfl)
        try simp only [Act.put, List.setIfInBounds_toArray, List.set_cons_zero, List.set_cons_succ]
        refine take_yes 6 (some 33) (v := ?_) rfl (by kernel_rfl) (by kernel_rfl) (by kernel_rfl) (by kernel_rfl) (fun _ _ _ h => h) (by rfl) (by assumption) ?_ ?_
        rotate_left
        · (intro w' hSw; (try dsimp only at hSw); go_simp; try with_reducible rfl)
        try simp only [Act.put, List.setIfInBounds_toArray, List.set_cons_zero, List.set_cons_succ]
        refine take_yes 7 (some 34) (v := ?_) rfl (by kernel_rfl) (by kernel_rfl) (by kernel_rfl) (by kernel_rfl) (fun _ _ _ h => h) (by rfl) (by assumption) ?_ ?_
        rotate_left
        · (intro w' hSw; (try dsimp only at hSw); go_simp; try with_reducible rfl)
        try simp only [Act.put, List.setIfInBounds_toArray, List.set_cons_zero, List.set_cons_succ]
        refine take_run 9 rfl (by kernel_rfl) (by rfl) (fun K hK => ?_)
        obtain ⟨s0, s1, s2, s3⟩ := (BF4.out).two
        go_simp
        clear s0 s1 s2 s3
        refine hK.out _ _ ?_ (fun hHeldz => ?_)
        · obtain ⟨t0, t1, _, _⟩ := (((b1.out.since hc4).far (p := ⟨q1.heap.size, 0, none⟩) (by have := hB2; first | omega | (simp; omega)) (.int .i64 R.st)).far (p := ⟨q1.heap.size, 1, none⟩) (by have := hB2; first | omega | (simp; omega)) (.slice rso R.ss.length rsc)).two
          obtain ⟨u0, u1, _, _⟩ := (((e1.out.since hc4).far (p := ⟨q1.heap.size, 0, none⟩) (by have := hB2; first | omega | (simp; omega)) (.int .i64 R.st)).far (p := ⟨q1.heap.size, 1, none⟩) (by have := hB2; first | omega | (simp; omega)) (.slice rso R.ss.length rsc)).two
          exact ⟨t0, t1, u0, u1⟩
        clear hK K hHeld4
        try simp only [Act.put, List.setIfInBounds_toArray, List.set_cons_zero, List.set_cons_succ]
        refine take_yes 10 (some 7) (v := ?_) rfl (by kernel_rfl) (by kernel_rfl) (by kernel_rfl) (by kernel_rfl) (fun _ _ _ h => h) (by rfl) (by assumption) ?_ ?_
        rotate_left
        · (intro w' hSw; (try dsimp only at hSw); go_simp; try with_reducible rfl)
        try simp only [Act.put, List.setIfInBounds_toArray, List.set_cons_zero, List.set_cons_succ]
        refine wpAnyH_done (by kernel_rfl) ?_ _
        clear hHeldz
        go_wp2_with fail
        go_meet
        all_goals
          refine ⟨boxW_mk (q1.heap.size) hB2 ?_ ?_ ((OR.out).far2 ?_) (((BF4.out).set 0 (.int .i64 R.st)).set 1 (.slice rso R.ss.length rsc)) ((Since.setCell (Since.setCell hc4 (a := ⟨q1.heap.size, 0, none⟩) hB2 (.int .i64 R.st)) (a := ⟨q1.heap.size, 1, none⟩) hB2 (.slice rso R.ss.length rsc))), rfl⟩
          all_goals (first | omega | (simp; omega) | simp)
    · skip
      go_simp
      have hc1 := Since.alloc (Since.refl w1).drew (.cells #[.int .i64 0, .slice none 0 0] 53)
      have hal1 : Since w1.drew (w1.drew.alloc (.cells #[.int .i64 0, .slice none 0 0] 53)) := (Since.refl _).alloc _
      have B1 : Hid (Blk (w1.drew.alloc (.cells #[.int .i64 0, .slice none 0 0] 53)) (w1.heap.size) 53 #[.int .i64 0, .slice none 0 0]) := Blk.new (by simp) _ _
      have hB1 : w1.heap.size ≤ w1.heap.size := by have := Since.lt (Since.refl w1).drew; first | exact this | simpa using this
      refine hK.out _ _ (HKC.out _ hc1) (fun hHeld1 => ?_)
      clear hK K hHeld
      try simp only [Act.put, List.setIfInBounds_toArray, List.set_cons_zero, List.set_cons_succ]
      refine take_run 1 rfl (by kernel_rfl) (by rfl) (fun K hK => ?_)
      go_simp
      refine (toGraph_any _ g _ (HG.out.since (hs01.trans hc1)) g1 g2).mono ?_
      rintro en q2 ⟨v2, rfl, ho2, hs2⟩
      have hc2 := Since.trans hc1 hs2
      have X2 := Lib.hid ho2
      clear ho2
      have BF2 := Lib.hid ((B1.out).since hs2)
      refine hK.out _ _ (HKC.out _ hc2) (fun hHeld2 => ?_)
      clear hK K hHeld1
      try simp only [Act.put, List.setIfInBounds_toArray, List.set_cons_zero, List.set_cons_succ]
      refine take_run 3 rfl (by kernel_rfl) (by rfl) (fun K hK => ?_)
      go_simp
      refine (toWalk_any _ x _ (HX.out.since (hs01.trans hc2)) x1).mono ?_
      rintro en q3 ⟨v3, rfl, ho3, hs3⟩
      have hc3 := Since.trans hc2 hs3
      have Y3 := Lib.hid ho3
      clear ho3
      have XF3 := Lib.hid ((X2.out).since hs3)
      have BF3 := Lib.hid ((BF2.out).since hs3)
      refine hK.out _ _ (HKC.out _ hc3) (fun hHeld3 => ?_)
      clear hK K hHeld2
      try simp only [Act.put, List.setIfInBounds_toArray, List.set_cons_zero, List.set_cons_succ]
      refine take_run 4 rfl (by kernel_rfl) (by rfl) (fun K hK => ?_)
      go_simp
      refine (HS.out _ _ _ (XF3.out).at (Y3.out).at).mono ?_
      rintro en q4 ⟨v4, rfl, ho4, hs4⟩
      obtain ⟨rs4, rfl, ka4, ia4⟩ := ho4
      obtain ⟨rso, rsc, rfl⟩ := ka4.len
      have hlo := Since.lt hc3
      have hhi := hs4.size
      have OR : Hid (OwnW _ _ _ _ _) := ⟨_, rfl, ka4, ia4⟩
      clear ka4 ia4
      have hc4 := Since.trans hc3 hs4
      have hBl := (BF3.out).lt
      have BF4 := Lib.hid ((BF3.out).since hs4)
      refine hK.out _ _ (HKC.out _ hc4) (fun hHeld4 => ?_)
      clear hK K hHeld3
      try simp only [Act.put, List.setIfInBounds_toArray, List.set_cons_zero, List.set_cons_succ]
      refine take_yes 5 (some 27) (v := ?_) rfl (by kernel_rfl) (by kernel_rfl) (by kernel_rfl) (by kernel_rfl) (fun _ _ _ h => h) (by rfl) (by assumption) ?_ ?_
      rotate_left
      · (intro w' hSw; (try dsimp only at hSw); go_simp; try with_reducible rfl)
      try simp only [Act.put, List.setIfInBounds_toArray, List.set_cons_zero, List.set_cons_succ]
      refine take_yes 6 (some 33) (v := ?_) rfl (by kernel_rfl) (by kernel_rfl) (by kernel_rfl) (by kernel_rfl) (fun _ _ _ h => h) (by rfl) (by assumption) ?_ ?_
      rotate_left
      · (intro w' hSw; (try dsimp only at hSw); go_simp; try with_reducible rfl)
      try simp only [Act.put, List.setIfInBounds_toArray, List.set_cons_zero, List.set_cons_succ]
      refine take_yes 7 (some 34) (v := ?_) rfl (by kernel_rfl) (by kernel_rfl) (by kernel_rfl) (by kernel_rfl) (fun _ _ _ h => h) (by rfl) (by assumption) ?_ ?_
      rotate_left
      · (intro w' hSw; (try dsimp only at hSw); go_simp; try with_reducible rfl)
      try simp only [Act.put, List.setIfInBounds_toArray, List.set_cons_zero, List.set_cons_succ]
      refine take_run 9 rfl (by kernel_rfl) (by rfl) (fun K hK => ?_)
      obtain ⟨s0, s1, s2, s3⟩ := (BF4.out).two
      go_simp
      clear s0 s1 s2 s3
      refine hK.out _ _ ?_ (fun hHeldz => ?_)
      · obtain ⟨t0, t1, _, _⟩ := (((b1.out.since hc4).far (p := ⟨w1.heap.size, 0, none⟩) (by have := hB1; first | omega | (simp; omega)) (.int .i64 R.st)).far (p := ⟨w1.heap.size, 1, none⟩) (by have := hB1; first | omega | (simp; omega)) (.slice rso R.ss.length rsc)).two
        obtain ⟨u0, u1, _, _⟩ := (((e1.out.since hc4).far (p := ⟨w1.heap.size, 0, none⟩) (by have := hB1; first | omega | (simp; omega)) (.int .i64 R.st)).far (p := ⟨w1.heap.size, 1, none⟩) (by have := hB1; first | omega | (simp; omega)) (.slice rso R.ss.length rsc)).two
        exact ⟨t0, t1, u0, u1⟩
      clear hK K hHeld4
      try simp only [Act.put, List.setIfInBounds_toArray, List.set_cons_zero, List.set_cons_succ]
      refine take_yes 10 (some 7) (v := ?_) rfl (by kernel_rfl) (by kernel_rfl) (by kernel_rfl) (by kernel_rfl) (fun _ _ _ h => h) (by rfl) (by assumption) ?_ ?_
      rotate_left
      · (intro w' hSw; (try dsimp only at hSw); go_simp; try with_reducible rfl)
      try simp only [Act.put, List.setIfInBounds_toArray, List.set_cons_zero, List.set_cons_succ]
      refine wpAnyH_done (by kernel_rfl) ?_ _
      clear hHeldz
      go_wp2_with fail
      go_meet
      all_goals
        refine ⟨boxW_mk (w1.heap.size) hB1 ?_ ?_ ((OR.out).far2 ?_) (((BF4.out).set 0 (.int .i64 R.st)).set 1 (.slice rso R.ss.length rsc)) ((Since.setCell (Since.setCell hc4 (a := ⟨w1.heap.size, 0, none⟩) hB1 (.int .i64 R.st)) (a := ⟨w1.heap.size, 1, none⟩) hB1 (.slice rso R.ss.length rsc))), rfl⟩
        all_goals (first | omega | (simp; omega) | simp)

  case rest =>
    obtain ⟨hbox, hcc⟩ := hcut
    subst hcc
    obtain ⟨wA, hwA⟩ : ∃ W, W = wc := ⟨_, rfl⟩
    subst hwA
    obtain ⟨slo, shi, sB, sso, ssc, hpp, sl0, sl1, sl2, sl3, sO, sK, sS⟩ := hbox
    subst hpp
    have sW := Lib.hid sO
    have sB0 := Lib.hid sK
    have sl4 := sK.lt
    have sl5 := sS.size
    clear sO sK
    have hs0A := hs01.trans sS
    have bA := Lib.hid (b1.out.since sS)
    have eA := Lib.hid (e1.out.since sS)
    clear b1 e1 hs01 sS
    obtain ⟨p0, p1, _, _⟩ := bA.out.two
    go_wp2_with fail
    clear p0 p1
    refine (toGraph_any _ g _ (HG.out.since hs0A) g1 g2).mono ?_
    rintro en w3 ⟨v3, rfl, ho3, hs3⟩
    have XO := Lib.hid ho3
    obtain ⟨xa, xb, rfl, ka, _, kb, _⟩ := ho3
    obtain ⟨xao, xac, rfl⟩ := ka.len
    obtain ⟨xbo, xbc, rfl⟩ := kb.len
    clear ka kb
    have z3 := hs3.size
    obtain ⟨y3, hy3⟩ : ∃ y, y = w3.alloc (.cells #[.slice xao g.vs.length xac, .slice xbo g.es.length xbc] 27) := ⟨_, rfl⟩
    have ha3 : Since w3 y3 := by rw [hy3]; exact (Since.refl w3).alloc _
    have zy3 : w3.heap.size + 1 = y3.heap.size := by rw [hy3]; simp
    have XB3 : Hid (Blk y3 w3.heap.size 27 #[.slice xao g.vs.length xac, .slice xbo g.es.length xbc]) := by rw [hy3]; exact Blk.new rfl _ _
    have XO3 := Lib.hid (XO.out.since ha3)
    have hc3 := hs3.trans ha3
    have b3 := Lib.hid (bA.out.since hc3)
    have e3 := Lib.hid (eA.out.since hc3)
    have SB3 := Lib.hid (sB0.out.since hc3)
    have SW3 := Lib.hid (sW.out.since hc3)
    have hs03 := hs0A.trans hc3
    clear bA eA sB0 sW XO hs0A hs3 ha3 hc3
    obtain ⟨p0, p1, _, _⟩ := e3.out.two
    rw [hy3] at p0 p1
    go_wp2_with fail
    rw [← hy3]
    clear hy3 p0 p1
    refine (toWalk_any _ x _ (HX.out.since hs03) x1).mono ?_
    rintro en w4 ⟨v4, rfl, ho4, hs4⟩
    have YO := Lib.hid ho4
    obtain ⟨xs4, rfl, ks, _⟩ := ho4
    obtain ⟨yso, ysc, rfl⟩ := ks.len
    clear ks
    have z4 := hs4.size
    obtain ⟨y4, hy4⟩ : ∃ y, y = w4.alloc (.cells #[.int .i64 x.st, .slice yso x.ss.length ysc] 53) := ⟨_, rfl⟩
    have ha4 : Since w4 y4 := by rw [hy4]; exact (Since.refl w4).alloc _
    have zy4 : w4.heap.size + 1 = y4.heap.size := by rw [hy4]; simp
    have YB4 : Hid (Blk y4 w4.heap.size 53 #[.int .i64 x.st, .slice yso x.ss.length ysc]) := by rw [hy4]; exact Blk.new rfl _ _
    have YO4 := Lib.hid (YO.out.since ha4)
    have hc4 := hs4.trans ha4
    have b4 := Lib.hid (b3.out.since hc4)
    have e4 := Lib.hid (e3.out.since hc4)
    have SB4 := Lib.hid (SB3.out.since hc4)
    have SW4 := Lib.hid (SW3.out.since hc4)
    have XO4 := Lib.hid (XO3.out.since hc4)
    have XB4 := Lib.hid (XB3.out.since hc4)
    have hs04 := hs03.trans hc4
    clear b3 e3 SB3 SW3 XO3 XB3 YO hs03 hs4 ha4 hc4
    obtain ⟨p0, p1, _, _⟩ := XB4.out.two
    obtain ⟨r0, r1, _, _⟩ := YB4.out.two
    rw [hy4] at p0 p1 r0 r1
    go_wp2_with fail
    rw [← hy4]
    clear hy4 p0 p1 r0 r1
    refine (HI.out _ _ _ XO4.out.at YO4.out.at).mono ?_
    rintro en w5 ⟨v5, rfl, ho5, hs5⟩
    have GO := Lib.hid ho5
    obtain ⟨gs5, rfl, kg, _⟩ := ho5
    obtain ⟨gso, gsc, rfl⟩ := kg.len
    clear kg
    have z5 := hs5.size
    obtain ⟨y5, hy5⟩ : ∃ y, y = w5.alloc (.cells #[.int .i64 R.st, .slice gso R.ss.length gsc] 53) := ⟨_, rfl⟩
    have ha5 : Since w5 y5 := by rw [hy5]; exact (Since.refl w5).alloc _
    have zy5 : w5.heap.size + 1 = y5.heap.size := by rw [hy5]; simp
    have GB5 : Hid (Blk y5 w5.heap.size 53 #[.int .i64 R.st, .slice gso R.ss.length gsc]) := by rw [hy5]; exact Blk.new rfl _ _
    have GO5 := Lib.hid (GO.out.since ha5)
    have hc5 := hs5.trans ha5
    have b5 := Lib.hid (b4.out.since hc5)
    have e5 := Lib.hid (e4.out.since hc5)
    have SB5 := Lib.hid (SB4.out.since hc5)
    have SW5 := Lib.hid (SW4.out.since hc5)
    have XO5 := Lib.hid (XO4.out.since hc5)
    have XB5 := Lib.hid (XB4.out.since hc5)
    have YO5 := Lib.hid (YO4.out.since hc5)
    have YB5 := Lib.hid (YB4.out.since hc5)
    have hs05 := hs04.trans hc5
    clear b4 e4 SB4 SW4 XO4 XB4 YO4 YB4 GO hs04 hs5 ha5 hc5
    obtain ⟨p0, p1, _, _⟩ := SB5.out.two
    obtain ⟨r0, r1, _, _⟩ := GB5.out.two
    rw [hy5] at p0 p1 r0 r1
    go_wp2_with fail
    rw [← hy5]
    clear hy5 p0 p1 r0 r1
    refine (eqWalk_any _ _ R R _ GO5.out.at SW5.out.at q3 q3).mono ?_
    rintro en w6 ⟨rfl, hs6⟩
    have b6 := Lib.hid (b5.out.since hs6)
    clear b5
    have e6 := Lib.hid (e5.out.since hs6)
    clear e5
    have SB6 := Lib.hid (SB5.out.since hs6)
    clear SB5
    have SW6 := Lib.hid (SW5.out.since hs6)
    clear SW5
    have XO6 := Lib.hid (XO5.out.since hs6)
    clear XO5
    have XB6 := Lib.hid (XB5.out.since hs6)
    clear XB5
    have YO6 := Lib.hid (YO5.out.since hs6)
    clear YO5
    have YB6 := Lib.hid (YB5.out.since hs6)
    clear YB5
    have GO6 := Lib.hid (GO5.out.since hs6)
    clear GO5
    have GB6 := Lib.hid (GB5.out.since hs6)
    clear GB5
    have hs06 := hs05.trans hs6
    have z6 := hs6.size
    clear hs05 hs6
    go_wp2_with fail
    have HKC : Hid (∀ w', Since w6 w' → w'.cell? ⟨w.heap.size, 0, none⟩ = some (.slice ao n ac) ∧ w'.cell? ⟨w.heap.size, 1, none⟩ = some (.slice bo m bc) ∧ w'.cell? ⟨w.heap.size + 1, 0, none⟩ = some (.int .i64 x.st) ∧ w'.cell? ⟨w.heap.size + 1, 1, none⟩ = some (.slice so p sc) ∧ w'.cell? ⟨w3.heap.size, 0, none⟩ = some (.slice xao g.vs.length xac) ∧ w'.cell? ⟨w3.heap.size, 1, none⟩ = some (.slice xbo g.es.length xbc) ∧ w'.cell? ⟨w4.heap.size, 0, none⟩ = some (.int .i64 x.st) ∧ w'.cell? ⟨w4.heap.size, 1, none⟩ = some (.slice yso x.ss.length ysc)) := by
      intro w' hs
      obtain ⟨r0, r1, _, _⟩ := (b6.out.since hs).two
      obtain ⟨r2, r3, _, _⟩ := (e6.out.since hs).two
      obtain ⟨r4, r5, _, _⟩ := (XB6.out.since hs).two
      obtain ⟨r6, r7, _, _⟩ := (YB6.out.since hs).two
      exact ⟨r0, r1, r2, r3, r4, r5, r6, r7⟩
    refine wp_region_held_drew (S := (fun w' => w'.cell? ⟨w.heap.size, 0, none⟩ = some (.slice ao n ac) ∧ w'.cell? ⟨w.heap.size, 1, none⟩ = some (.slice bo m bc) ∧ w'.cell? ⟨w.heap.size + 1, 0, none⟩ = some (.int .i64 x.st) ∧ w'.cell? ⟨w.heap.size + 1, 1, none⟩ = some (.slice so p sc) ∧ w'.cell? ⟨w3.heap.size, 0, none⟩ = some (.slice xao g.vs.length xac) ∧ w'.cell? ⟨w3.heap.size, 1, none⟩ = some (.slice xbo g.es.length xbc) ∧ w'.cell? ⟨w4.heap.size, 0, none⟩ = some (.int .i64 x.st) ∧ w'.cell? ⟨w4.heap.size, 1, none⟩ = some (.slice yso x.ss.length ysc))) (by kernel_rfl) (HKC.out _ (Since.refl _).drew) (fun hHeld => ?_)
    refine take_yes 0 (some 54) (v := ?_) rfl (by kernel_rfl) (by kernel_rfl) (by kernel_rfl) (by kernel_rfl) (fun _ _ _ h => h) (by rfl) (by assumption) ?_ ?_
    rotate_left
    · (intro w' hSw; (try dsimp only at hSw); go_simp; try with_reducible rfl)
    try simp only [Act.put, List.setIfInBounds_toArray, List.set_cons_zero, List.set_cons_succ]
    refine take_yes 1 (some 55) (v := ?_) rfl (by kernel_rfl) (by kernel_rfl) (by kernel_rfl) (by kernel_rfl) (fun _ _ _ h => h) (by rfl) (by assumption) ?_ ?_
    rotate_left
    · (intro w' hSw; (try dsimp only at hSw); go_simp; try with_reducible rfl)
    try simp only [Act.put, List.setIfInBounds_toArray, List.set_cons_zero, List.set_cons_succ]
    refine take_run 2 rfl (by kernel_rfl) (by rfl) (fun K hK => ?_)
    go_simp
    refine (toGraph_any _ g _ (HG.out.since hs06.drew) g1 g2).mono ?_
    rintro en wq ⟨va, rfl, hoa, hsa⟩
    have hqa := Since.of_drew hsa
    refine hK.out _ _ (HKC.out _ hqa) (fun hHeld2 => ?_)
    clear hK K hHeld
    try simp only [Act.put, List.setIfInBounds_toArray, List.set_cons_zero, List.set_cons_succ]
    refine take_run 3 rfl (by kernel_rfl) (by rfl) (fun K hK => ?_)
    go_simp
    refine (eqGraph_any _ _ g g _ (XO6.out.at.since hqa) hoa.at g4 g5 g4 g5).mono ?_
    rintro en w7 ⟨rfl, hsc⟩
    have hqc := hqa.trans hsc
    refine hK.out _ _ (HKC.out _ hqc) (fun hHeld3 => ?_)
    clear hK K hHeld2
    try simp only [Act.put, List.setIfInBounds_toArray, List.set_cons_zero, List.set_cons_succ]
    refine take_yes 4 (some 58) (v := ?_) rfl (by kernel_rfl) (by kernel_rfl) (by kernel_rfl) (by kernel_rfl) (fun _ _ _ h => h) (by rfl) (by assumption) ?_ ?_
    rotate_left
    · (intro w' hSw; (try dsimp only at hSw); go_simp; try with_reducible rfl)
    try simp only [Act.put, List.setIfInBounds_toArray, List.set_cons_zero, List.set_cons_succ]
    refine wpAnyH_done (by kernel_rfl) ?_ _
    clear hHeld3 HKC hoa hsa hqa hsc
    have b7 := Lib.hid (b6.out.since hqc)
    clear b6
    have e7 := Lib.hid (e6.out.since hqc)
    clear e6
    have SB7 := Lib.hid (SB6.out.since hqc)
    clear SB6
    have SW7 := Lib.hid (SW6.out.since hqc)
    clear SW6
    have XO7 := Lib.hid (XO6.out.since hqc)
    clear XO6
    have XB7 := Lib.hid (XB6.out.since hqc)
    clear XB6
    have YO7 := Lib.hid (YO6.out.since hqc)
    clear YO6
    have YB7 := Lib.hid (YB6.out.since hqc)
    clear YB6
    have GO7 := Lib.hid (GO6.out.since hqc)
    clear GO6
    have GB7 := Lib.hid (GB6.out.since hqc)
    clear GB6
    have hs07 := hs06.trans hqc
    have z7 := hqc.size
    clear hs06 hqc
    go_wp2_with fail
    have HKC : Hid (∀ w', Since w7 w' → w'.cell? ⟨w.heap.size, 0, none⟩ = some (.slice ao n ac) ∧ w'.cell? ⟨w.heap.size, 1, none⟩ = some (.slice bo m bc) ∧ w'.cell? ⟨w.heap.size + 1, 0, none⟩ = some (.int .i64 x.st) ∧ w'.cell? ⟨w.heap.size + 1, 1, none⟩ = some (.slice so p sc) ∧ w'.cell? ⟨w3.heap.size, 0, none⟩ = some (.slice xao g.vs.length xac) ∧ w'.cell? ⟨w3.heap.size, 1, none⟩ = some (.slice xbo g.es.length xbc) ∧ w'.cell? ⟨w4.heap.size, 0, none⟩ = some (.int .i64 x.st) ∧ w'.cell? ⟨w4.heap.size, 1, none⟩ = some (.slice yso x.ss.length ysc)) := by
      intro w' hs
      obtain ⟨r0, r1, _, _⟩ := (b7.out.since hs).two
      obtain ⟨r2, r3, _, _⟩ := (e7.out.since hs).two
      obtain ⟨r4, r5, _, _⟩ := (XB7.out.since hs).two
      obtain ⟨r6, r7, _, _⟩ := (YB7.out.since hs).two
      exact ⟨r0, r1, r2, r3, r4, r5, r6, r7⟩
    refine wp_region_held_drew (S := (fun w' => w'.cell? ⟨w.heap.size, 0, none⟩ = some (.slice ao n ac) ∧ w'.cell? ⟨w.heap.size, 1, none⟩ = some (.slice bo m bc) ∧ w'.cell? ⟨w.heap.size + 1, 0, none⟩ = some (.int .i64 x.st) ∧ w'.cell? ⟨w.heap.size + 1, 1, none⟩ = some (.slice so p sc) ∧ w'.cell? ⟨w3.heap.size, 0, none⟩ = some (.slice xao g.vs.length xac) ∧ w'.cell? ⟨w3.heap.size, 1, none⟩ = some (.slice xbo g.es.length xbc) ∧ w'.cell? ⟨w4.heap.size, 0, none⟩ = some (.int .i64 x.st) ∧ w'.cell? ⟨w4.heap.size, 1, none⟩ = some (.slice yso x.ss.length ysc))) (by kernel_rfl) (HKC.out _ (Since.refl _).drew) (fun hHeld => ?_)
    refine take_yes 0 (some 59) (v := ?_) rfl (by kernel_rfl) (by kernel_rfl) (by kernel_rfl) (by kernel_rfl) (fun _ _ _ h => h) (by rfl) (by assumption) ?_ ?_
    rotate_left
    · (intro w' hSw; (try dsimp only at hSw); go_simp; try with_reducible rfl)
    try simp only [Act.put, List.setIfInBounds_toArray, List.set_cons_zero, List.set_cons_succ]
    refine take_yes 1 (some 60) (v := ?_) rfl (by kernel_rfl) (by kernel_rfl) (by kernel_rfl) (by kernel_rfl) (fun _ _ _ h => h) (by rfl) (by assumption) ?_ ?_
    rotate_left
    · (intro w' hSw; (try dsimp only at hSw); go_simp; try with_reducible rfl)
    try simp only [Act.put, List.setIfInBounds_toArray, List.set_cons_zero, List.set_cons_succ]
    refine take_run 2 rfl (by kernel_rfl) (by rfl) (fun K hK => ?_)
    go_simp
    refine (toWalk_any _ x _ (HX.out.since hs07.drew) x1).mono ?_
    rintro en wq ⟨va, rfl, hoa, hsa⟩
    have hqa := Since.of_drew hsa
    refine hK.out _ _ (HKC.out _ hqa) (fun hHeld2 => ?_)
    clear hK K hHeld
    try simp only [Act.put, List.setIfInBounds_toArray, List.set_cons_zero, List.set_cons_succ]
    refine take_run 3 rfl (by kernel_rfl) (by rfl) (fun K hK => ?_)
    go_simp
    refine (eqWalk_any _ _ x x _ (YO7.out.at.since hqa) hoa.at x4 x4).mono ?_
    rintro en w8 ⟨rfl, hsc⟩
    have hqc := hqa.trans hsc
    refine hK.out _ _ (HKC.out _ hqc) (fun hHeld3 => ?_)
    clear hK K hHeld2
    try simp only [Act.put, List.setIfInBounds_toArray, List.set_cons_zero, List.set_cons_succ]
    refine take_yes 4 (some 63) (v := ?_) rfl (by kernel_rfl) (by kernel_rfl) (by kernel_rfl) (by kernel_rfl) (fun _ _ _ h => h) (by rfl) (by assumption) ?_ ?_
    rotate_left
    · (intro w' hSw; (try dsimp only at hSw); go_simp; try with_reducible rfl)
    try simp only [Act.put, List.setIfInBounds_toArray, List.set_cons_zero, List.set_cons_succ]
    refine wpAnyH_done (by kernel_rfl) ?_ _
    clear hHeld3 HKC hoa hsa hqa hsc
    have b8 := Lib.hid (b7.out.since hqc)
    clear b7
    have e8 := Lib.hid (e7.out.since hqc)
    clear e7
    have SB8 := Lib.hid (SB7.out.since hqc)
    clear SB7
    have SW8 := Lib.hid (SW7.out.since hqc)
    clear SW7
    have XO8 := Lib.hid (XO7.out.since hqc)
    clear XO7
    have XB8 := Lib.hid (XB7.out.since hqc)
    clear XB7
    have YO8 := Lib.hid (YO7.out.since hqc)
    clear YO7
    have YB8 := Lib.hid (YB7.out.since hqc)
    clear YB7
    have GO8 := Lib.hid (GO7.out.since hqc)
    clear GO7
    have GB8 := Lib.hid (GB7.out.since hqc)
    clear GB7
    have hs08 := hs07.trans hqc
    have z8 := hqc.size
    clear hs07 hqc
    obtain ⟨r0, r1, _, _⟩ := XB8.out.two
    go_wp2_with fail
    clear r0 r1
    refine (markGraph_any _ _ _ g 1 _ XO8.out (by omega) (by decide) (by decide) g6 g7).mono ?_
    rintro en w9 ⟨rfl, hmx, hw9⟩
    rw [← HKX0.out]
    clear hmx XO8
    have b9 := Lib.hid (b8.out.within hw9 (by omega))
    clear b8
    have e9 := Lib.hid (e8.out.within hw9 (by omega))
    clear e8
    have SB9 := Lib.hid (SB8.out.within hw9 (by omega))
    clear SB8
    have SW9 := Lib.hid (SW8.out.within hw9 (by omega))
    clear SW8
    have XB9 := Lib.hid (XB8.out.within hw9 (by omega))
    clear XB8
    have YO9 := Lib.hid (YO8.out.within hw9 (by omega))
    clear YO8
    have YB9 := Lib.hid (YB8.out.within hw9 (by omega))
    clear YB8
    have GO9 := Lib.hid (GO8.out.within hw9 (by omega))
    clear GO8
    have GB9 := Lib.hid (GB8.out.within hw9 (by omega))
    clear GB8
    have hs09 := hs08.within (by omega) hw9
    have z9 := hw9.size
    clear hs08 hw9
    obtain ⟨r0, r1, _, _⟩ := YB9.out.two
    go_wp2_with fail
    clear r0 r1
    refine (markWalk_any _ _ _ x kx0 _ YO9.out bk0.1 (by omega) x6).mono ?_
    rintro en w10 ⟨rfl, hmx, hw10⟩
    rw [← HKX1.out]
    clear hmx YO9
    have b10 := Lib.hid (b9.out.within hw10 (by omega))
    clear b9
    have e10 := Lib.hid (e9.out.within hw10 (by omega))
    clear e9
    have SB10 := Lib.hid (SB9.out.within hw10 (by omega))
    clear SB9
    have SW10 := Lib.hid (SW9.out.within hw10 (by omega))
    clear SW9
    have XB10 := Lib.hid (XB9.out.within hw10 (by omega))
    clear XB9
    have YB10 := Lib.hid (YB9.out.within hw10 (by omega))
    clear YB9
    have GO10 := Lib.hid (GO9.out.within hw10 (by omega))
    clear GO9
    have GB10 := Lib.hid (GB9.out.within hw10 (by omega))
    clear GB9
    have hs010 := hs09.within (by omega) hw10
    have z10 := hw10.size
    clear hs09 hw10 XB10 YB10
    obtain ⟨p0, p1, _, _⟩ := SB10.out.two
    obtain ⟨r0, r1, _, _⟩ := GB10.out.two
    go_wp2_with fail
    clear p0 p1 r0 r1
    refine (eqWalk_any _ _ R R _ GO10.out.at SW10.out.at q3 q3).mono ?_
    rintro en w11 ⟨rfl, hs11⟩
    have b11 := Lib.hid (b10.out.since hs11)
    clear b10
    have e11 := Lib.hid (e10.out.since hs11)
    clear e10
    have SB11 := Lib.hid (SB10.out.since hs11)
    clear SB10
    have SW11 := Lib.hid (SW10.out.since hs11)
    clear SW10
    have GO11 := Lib.hid (GO10.out.since hs11)
    clear GO10
    have GB11 := Lib.hid (GB10.out.since hs11)
    clear GB10
    have hs011 := hs010.trans hs11
    have z11 := hs11.size
    clear hs010 hs11
    obtain ⟨r0, r1, _, _⟩ := GB11.out.two
    go_wp2_with fail
    clear r0 r1
    refine (markWalk_any _ _ _ R 1 _ GO11.out (by decide) (by decide) q6).mono ?_
    rintro en w12 ⟨rfl, hmg, hw12⟩
    rw [← HKR.out]
    have HM12 := Lib.hid hmg
    clear hmg GO11
    have b12 := Lib.hid (b11.out.within hw12 (by omega))
    clear b11
    have e12 := Lib.hid (e11.out.within hw12 (by omega))
    clear e11
    have SB12 := Lib.hid (SB11.out.within hw12 (by omega))
    clear SB11
    have SW12 := Lib.hid (SW11.out.within hw12 (by omega))
    clear SW11
    have GB12 := Lib.hid (GB11.out.within hw12 (by omega))
    clear GB11
    have hs012 := hs011.within (by omega) hw12
    have z12 := hw12.size
    clear hs011 hw12
    obtain ⟨r0, r1, _, _⟩ := GB12.out.two
    go_wp2_with fail
    clear r0 r1
    refine (heldWalk_any _ R 1 _ HM12.out.at (by decide) (by decide) q6).mono ?_
    rintro en w13 ⟨rfl, hs13⟩
    rw [← HKR.out]
    have b13 := Lib.hid (b12.out.since hs13)
    clear b12
    have e13 := Lib.hid (e12.out.since hs13)
    clear e12
    have SB13 := Lib.hid (SB12.out.since hs13)
    clear SB12
    have SW13 := Lib.hid (SW12.out.since hs13)
    clear SW12
    have GB13 := Lib.hid (GB12.out.since hs13)
    clear GB12
    have HM13 := Lib.hid (HM12.out.since hs13)
    clear HM12
    have hs013 := hs012.trans hs13
    have z13 := hs13.size
    clear hs012 hs13
    go_upto_region 31 with fail
    go_cut [15, 16] (fun p c wx => BoxW w13 wx p R ∧ c = .bool C)
    case first =>
      have HKC : Hid (∀ w', Since w13 w' → w'.cell? ⟨w.heap.size, 0, none⟩ = some (.slice ao n ac) ∧ w'.cell? ⟨w.heap.size, 1, none⟩ = some (.slice bo m bc) ∧ w'.cell? ⟨w.heap.size + 1, 0, none⟩ = some (.int .i64 x.st) ∧ w'.cell? ⟨w.heap.size + 1, 1, none⟩ = some (.slice so p sc)) := by
        intro w' hs
        obtain ⟨x0, x1, _, _⟩ := (b13.out.since hs).two
        obtain ⟨y0, y1, _, _⟩ := (e13.out.since hs).two
        exact ⟨x0, x1, y0, y1⟩
      go_wp2_with fail
      refine wp_region_held_drew (S := (fun w' => w'.cell? ⟨w.heap.size, 0, none⟩ = some (.slice ao n ac) ∧ w'.cell? ⟨w.heap.size, 1, none⟩ = some (.slice bo m bc) ∧ w'.cell? ⟨w.heap.size + 1, 0, none⟩ = some (.int .i64 x.st) ∧ w'.cell? ⟨w.heap.size + 1, 1, none⟩ = some (.slice so p sc))) (by kernel_rfl) (HKC.out _ (Since.refl _).drew) (fun hHeld => ?_)
      refine take_yes 0 (some 95) (v := ?_) rfl (by kernel_rfl) (by kernel_rfl) (by kernel_rfl) (by kernel_rfl) (fun _ _ _ h => h) (by rfl) (by assumption) ?_ ?_
      rotate_left
      · (intro w' hSw; (try dsimp only at hSw); go_simp; try with_reducible rfl)
      try simp only [Act.put, List.setIfInBounds_toArray, List.set_cons_zero, List.set_cons_succ]
      refine take_yes 2 (some 97) (v := ?_) rfl (by kernel_rfl) (by kernel_rfl) (by kernel_rfl) (by kernel_rfl) (fun _ _ _ h => h) (by rfl) (by assumption) ?_ ?_
      rotate_left
      · (intro w' hSw; (try dsimp only at hSw); go_simp; try with_reducible rfl)
      try simp only [Act.put, List.setIfInBounds_toArray, List.set_cons_zero, List.set_cons_succ]
      refine take_two 1 8 rfl rfl (by kernel_rfl) (by rfl) (by rfl) (fun K hK => ?_) (fun K hK => ?_)
      · skip
        go_simp
        refine (toGraph_any _ g _ (HG.out.since (hs013.trans (Since.refl w13).drew)) g1 g2).mono ?_
        rintro en q1 ⟨v1, rfl, ho1, hs1⟩
        have hc1 := Since.trans (Since.refl w13).drew hs1
        have X1 := Lib.hid ho1
        clear ho1
        refine hK.out _ _ (HKC.out _ hc1) (fun hHeld1 => ?_)
        clear hK K hHeld
        try simp only [Act.put, List.setIfInBounds_toArray, List.set_cons_zero, List.set_cons_succ]
        refine take_two 3 8 rfl rfl (by kernel_rfl) (by rfl) (by rfl) (fun K hK => ?_) (fun K hK => ?_)
        · skip
          go_simp
          refine (toWalk_any _ x _ (HX.out.since (hs013.trans hc1)) x1).mono ?_
          rintro en q2 ⟨v2, rfl, ho2, hs2⟩
          have hc2 := Since.trans hc1 hs2
          have Y2 := Lib.hid ho2
          clear ho2
          have XF2 := Lib.hid ((X1.out).since hs2)
          refine hK.out _ _ (HKC.out _ hc2) (fun hHeld2 => ?_)
          clear hK K hHeld1
          try simp only [Act.put, List.setIfInBounds_toArray, List.set_cons_zero, List.set_cons_succ]
          refine take_two 4 8 rfl rfl (by kernel_rfl) (by rfl) (by rfl) (fun K hK => ?_) (fun K hK => ?_)
          · skip
            go_simp
            refine (HI.out _ _ _ (XF2.out).at (Y2.out).at).mono ?_
            rintro en q3 ⟨v3, rfl, ho3, hs3⟩
            obtain ⟨rs3, rfl, ka3, ia3⟩ := ho3
            obtain ⟨rso, rsc, rfl⟩ := ka3.len
            have hlo := Since.lt hc2
            have hhi := hs3.size
            have OR : Hid (OwnW _ _ _ _ _) := ⟨_, rfl, ka3, ia3⟩
            clear ka3 ia3
            have hc3 := Since.trans hc2 hs3
            refine hK.out _ _ (HKC.out _ hc3) (fun hHeld3 => ?_)
            clear hK K hHeld2
            try simp only [Act.put, List.setIfInBounds_toArray, List.set_cons_zero, List.set_cons_succ]
            refine take_yes 5 (some 94) (v := ?_) rfl (by kernel_rfl) (by kernel_rfl) (by kernel_rfl) (by kernel_rfl) (fun _ _ _ h => h) (by rfl) (by assumption) ?_ ?_
            rotate_left
            · (intro w' hSw; (try dsimp only at hSw); go_simp; try with_reducible rfl)
            try simp only [Act.put, List.setIfInBounds_toArray, List.set_cons_zero, List.set_cons_succ]
            refine take_yes 6 (some 100) (v := ?_) rfl (by kernel_rfl) (by kernel_rfl) (by kernel_rfl) (by kernel_rfl) (fun _ _ _ h => h) (by rfl) (by assumption) ?_ ?_
            rotate_left
            · (intro w' hSw; (try dsimp only at hSw); go_simp; try with_reducible rfl)
            try simp only [Act.put, List.setIfInBounds_toArray, List.set_cons_zero, List.set_cons_succ]
            refine take_yes 7 (some 101) (v := ?_) rfl (by kernel_rfl) (by kernel_rfl) (by kernel_rfl) (by kernel_rfl) (fun _ _ _ h => h) (by rfl) (by assumption) ?_ ?_
            rotate_left
            · (intro w' hSw; (try dsimp only at hSw); go_simp; try with_reducible rfl)
            try simp only [Act.put, List.setIfInBounds_toArray, List.set_cons_zero, List.set_cons_succ]
            refine take_run 8 rfl (by kernel_rfl) (by rfl) (fun K hK => ?_)
            go_simp
            have hc4 := Since.alloc hc3 (.cells #[.int .i64 0, .slice none 0 0] 53)
            have hal4 : Since q3 (q3.alloc (.cells #[.int .i64 0, .slice none 0 0] 53)) := (Since.refl _).alloc _
            have B4 : Hid (Blk (q3.alloc (.cells #[.int .i64 0, .slice none 0 0] 53)) (q3.heap.size) 53 #[.int .i64 0, .slice none 0 0]) := Blk.new (by simp) _ _
            have hB4 : w13.heap.size ≤ q3.heap.size := by have := Since.lt hc3; first | exact this | simpa using this
            have OR4 := Lib.hid ((OR.out).since hal4)
            refine hK.out _ _ (HKC.out _ hc4) (fun hHeld4 => ?_)
            clear hK K hHeld3
            try simp only [Act.put, List.setIfInBounds_toArray, List.set_cons_zero, List.set_cons_succ]
            refine take_run 9 rfl (by kernel_rfl) (by rfl) (fun K hK => ?_)
            obtain ⟨s0, s1, s2, s3⟩ := (B4.out).two
            go_simp
            clear s0 s1 s2 s3
            have hcf := Since.alloc hc3 (.cells #[.int .i64 R.st, .slice rso R.ss.length rsc] 53)
            refine hK.out _ _ (HKC.out _ hcf) (fun hHeldz => ?_)
            clear hK K hHeld4
            try simp only [Act.put, List.setIfInBounds_toArray, List.set_cons_zero, List.set_cons_succ]
            refine take_yes 10 (some 16) (v := ?_) rfl (by kernel_rfl) (by kernel_rfl) (by kernel_rfl) (by kernel_rfl) (fun _ _ _ h => h) (by rfl) (by assumption) ?_ ?_
            rotate_left
            · (intro w' hSw; (try dsimp only at hSw); go_simp; try with_reducible rfl)
            try simp only [Act.put, List.setIfInBounds_toArray, List.set_cons_zero, List.set_cons_succ]
            refine wpAnyH_done (by kernel_rfl) ?_ _
            clear hHeldz
            go_wp2_with fail
            go_meet
            all_goals
              refine ⟨boxW_mk (q3.heap.size) hB4 ?_ ?_ ((OR.out).since ((Since.refl _).alloc (.cells #[.int .i64 R.st, .slice rso R.ss.length rsc] 53))) (Blk.new (by simp) _ _) hcf, rfl⟩
              all_goals (first | omega | (simp; omega) | simp)
          · skip
            go_simp
            have hc3 := Since.alloc hc2 (.cells #[.int .i64 0, .slice none 0 0] 53)
            have hal3 : Since q2 (q2.alloc (.cells #[.int .i64 0, .slice none 0 0] 53)) := (Since.refl _).alloc _
            have B3 : Hid (Blk (q2.alloc (.cells #[.int .i64 0, .slice none 0 0] 53)) (q2.heap.size) 53 #[.int .i64 0, .slice none 0 0]) := Blk.new (by simp) _ _
            have hB3 : w13.heap.size ≤ q2.heap.size := by have := Since.lt hc2; first | exact this | simpa using this
            have XF3 := Lib.hid ((XF2.out).since hal3)
            have YF3 := Lib.hid ((Y2.out).since hal3)
            refine hK.out _ _ (HKC.out _ hc3) (fun hHeld3 => ?_)
            clear hK K hHeld2
            try simp only [Act.put, List.setIfInBounds_toArray, List.set_cons_zero, List.set_cons_succ]
            refine take_run 4 rfl (by kernel_rfl) (by rfl) (fun K hK => ?_)
            go_simp
            refine (HI.out _ _ _ (XF3.out).at (YF3.out).at).mono ?_
            rintro en q4 ⟨v4, rfl, ho4, hs4⟩
            obtain ⟨rs4, rfl, ka4, ia4⟩ := ho4
            obtain ⟨rso, rsc, rfl⟩ := ka4.len
            have hlo := Since.lt hc3
            have hhi := hs4.size
            have OR : Hid (OwnW _ _ _ _ _) := ⟨_, rfl, ka4, ia4⟩
            clear ka4 ia4
            have hc4 := Since.trans hc3 hs4
            have hBl := (B3.out).lt
            have BF4 := Lib.hid ((B3.out).since hs4)
            refine hK.out _ _ (HKC.out _ hc4) (fun hHeld4 => ?_)
            clear hK K hHeld3
            try simp only [Act.put, List.setIfInBounds_toArray, List.set_cons_zero, List.set_cons_succ]
            refine take_yes 5 (some 94) (v := ?_) rfl (by kernel_rfl) (by kernel_rfl) (by kernel_rfl) (by kernel_rfl) (fun _ _ _ h => h) (by rfl) (by assumption) ?_ ?_
            rotate_left
            · (intro w' hSw; (try dsimp only at hSw); go_simp; try with_reducible rfl)
            try simp only [Act.put, List.setIfInBounds_toArray, List.set_cons_zero, List.set_cons_succ]
            refine take_yes 6 (some 100) (v := ?_) rfl (by kernel_rfl) (by kernel_rfl) (by kernel_rfl) (by kernel_rfl) (fun _ _ _ h => h) (by rfl) (by assumption) ?_ ?_
            rotate_left
            · (intro w' hSw; (try dsimp only at hSw); go_simp; try with_reducible rfl)
            try simp only [Act.put, List.setIfInBounds_toArray, List.set_cons_zero, List.set_cons_succ]
            refine take_yes 7 (some 101) (v := ?_) rfl (by kernel_rfl) (by kernel_rfl) (by kernel_rfl) (by kernel_rfl) (fun _ _ _ h => h) (by rfl) (by assumption) ?_ ?_
            rotate_left
            · (intro w' hSw; (try dsimp only at hSw); go_simp; try with_reducible rfl)
            try simp only [Act.put, List.setIfInBounds_toArray, List.set_cons_zero, List.set_cons_succ]
            refine take_run 9 rfl (by kernel_rfl) (by rfl) (fun K hK => ?_)
            obtain ⟨s0, s1, s2, s3⟩ := (BF4.out).two
            go_simp
            clear s0 s1 s2 s3
            refine hK.out _ _ ?_ (fun hHeldz => ?_)
            · obtain ⟨t0, t1, _, _⟩ := (((b13.out.since hc4).far (p := ⟨q2.heap.size, 0, none⟩) (by have := hB3; first | omega | (simp; omega)) (.int .i64 R.st)).far (p := ⟨q2.heap.size, 1, none⟩) (by have := hB3; first | omega | (simp; omega)) (.slice rso R.ss.length rsc)).two
              obtain ⟨u0, u1, _, _⟩ := (((e13.out.since hc4).far (p := ⟨q2.heap.size, 0, none⟩) (by have := hB3; first | omega | (simp; omega)) (.int .i64 R.st)).far (p := ⟨q2.heap.size, 1, none⟩) (by have := hB3; first | omega | (simp; omega)) (.slice rso R.ss.length rsc)).two
              exact ⟨t0, t1, u0, u1⟩
            clear hK K hHeld4
            try simp only [Act.put, List.setIfInBounds_toArray, List.set_cons_zero, List.set_cons_succ]
            refine take_yes 10 (some 16) (v := ?_) rfl (by kernel_rfl) (by kernel_rfl) (by kernel_rfl) (by kernel_rfl) (fun _ _ _ h => h) (by rfl) (by assumption) ?_ ?_
            rotate_left
            · (intro w' hSw; (try dsimp only at hSw); go_simp; try with_reducible rfl)
            try simp only [Act.put, List.setIfInBounds_toArray, List.set_cons_zero, List.set_cons_succ]
            refine wpAnyH_done (by kernel_rfl) ?_ _
            clear hHeldz
            go_wp2_with fail
            go_meet
            all_goals
              refine ⟨boxW_mk (q2.heap.size) hB3 ?_ ?_ ((OR.out).far2 ?_) (((BF4.out).set 0 (.int .i64 R.st)).set 1 (.slice rso R.ss.length rsc)) ((Since.setCell (Since.setCell hc4 (a := ⟨q2.heap.size, 0, none⟩) hB3 (.int .i64 R.st)) (a := ⟨q2.heap.size, 1, none⟩) hB3 (.slice rso R.ss.length rsc))), rfl⟩
              all_goals (first | omega | (simp; omega) | simp)
        · skip
          go_simp
          have hc2 := Since.alloc hc1 (.cells #[.int .i64 0, .slice none 0 0] 53)
          have hal2 : Since q1 (q1.alloc (.cells #[.int .i64 0, .slice none 0 0] 53)) := (Since.refl _).alloc _
          have B2 : Hid (Blk (q1.alloc (.cells #[.int .i64 0, .slice none 0 0] 53)) (q1.heap.size) 53 #[.int .i64 0, .slice none 0 0]) := Blk.new (by simp) _ _
          have hB2 : w13.heap.size ≤ q1.heap.size := by have := Since.lt hc1; first | exact this | simpa using this
          have XF2 := Lib.hid ((X1.out).since hal2)
          refine hK.out _ _ (HKC.out _ hc2) (fun hHeld2 => ?_)
          clear hK K hHeld1
          try simp only [Act.put, List.setIfInBounds_toArray, List.set_cons_zero, List.set_cons_succ]
          refine take_run 3 rfl (by kernel_rfl) (by rfl) (fun K hK => ?_)
          go_simp
          refine (toWalk_any _ x _ (HX.out.since (hs013.trans hc2)) x1).mono ?_
          rintro en q3 ⟨v3, rfl, ho3, hs3⟩
          have hc3 := Since.trans hc2 hs3
          have Y3 := Lib.hid ho3
          clear ho3
          have XF3 := Lib.hid ((XF2.out).since hs3)
          have BF3 := Lib.hid ((B2.out).since hs3)
          refine hK.out _ _ (HKC.out _ hc3) (fun hHeld3 => ?_)
          clear hK K hHeld2
          try simp only [Act.put, List.setIfInBounds_toArray, List.set_cons_zero, List.set_cons_succ]
          refine take_run 4 rfl (by kernel_rfl) (by rfl) (fun K hK => ?_)
          go_simp
          refine (HI.out _ _ _ (XF3.out).at (Y3.out).at).mono ?_
          rintro en q4 ⟨v4, rfl, ho4, hs4⟩
          obtain ⟨rs4, rfl, ka4, ia4⟩ := ho4
          obtain ⟨rso, rsc, rfl⟩ := ka4.len
          have hlo := Since.lt hc3
          have hhi := hs4.size
          have OR : Hid (OwnW _ _ _ _ _) := ⟨_, rfl, ka4, ia4⟩
          clear ka4 ia4
          have hc4 := Since.trans hc3 hs4
          have hBl := (BF3.out).lt
          have BF4 := Lib.hid ((BF3.out).since hs4)
          refine hK.out _ _ (HKC.out _ hc4) (fun hHeld4 => ?_)
          clear hK K hHeld3
          try simp only [Act.put, List.setIfInBounds_toArray, List.set_cons_zero, List.set_cons_succ]
          refine take_yes 5 (some 94) (v := ?_) rfl (by kernel_rfl) (by kernel_rfl) (by kernel_rfl) (by kernel_rfl) (fun _ _ _ h => h) (by rfl) (by assumption) ?_ ?_
          rotate_left
          · (intro w' hSw; (try dsimp only at hSw); go_simp; try with_reducible rfl)
          try simp only [Act.put, List.setIfInBounds_toArray, List.set_cons_zero, List.set_cons_succ]
          refine take_yes 6 (some 100) (v := ?_) rfl (by kernel_rfl) (by kernel_rfl) (by kernel_rfl) (by kernel_rfl) (fun _ _ _ h => h) (by rfl) (by assumption) ?_ ?_
          rotate_left
          · (intro w' hSw; (try dsimp only at hSw); go_simp; try with_reducible rfl)
          try simp only [Act.put, List.setIfInBounds_toArray, List.set_cons_zero, List.set_cons_succ]
          refine take_yes 7 (some 101) (v := ?_) rfl (by kernel_rfl) (by kernel_rfl) (by kernel_rfl) (by kernel_rfl) (fun _ _ _ h => h) (by rfl) (by assumption) ?_ ?_
          rotate_left
          · (intro w' hSw; (try dsimp only at hSw); go_simp; try with_reducible rfl)
          try simp only [Act.put, List.setIfInBounds_toArray, List.set_cons_zero, List.set_cons_succ]
          refine take_run 9 rfl (by kernel_rfl) (by rfl) (fun K hK => ?_)
          obtain ⟨s0, s1, s2, s3⟩ := (BF4.out).two
          go_simp
          clear s0 s1 s2 s3
          refine hK.out _ _ ?_ (fun hHeldz => ?_)
          · obtain ⟨t0, t1, _, _⟩ := (((b13.out.since hc4).far (p := ⟨q1.heap.size, 0, none⟩) (by have := hB2; first | omega | (simp; omega)) (.int .i64 R.st)).far (p := ⟨q1.heap.size, 1, none⟩) (by have := hB2; first | omega | (simp; omega)) (.slice rso R.ss.length rsc)).two
            obtain ⟨u0, u1, _, _⟩ := (((e13.out.since hc4).far (p := ⟨q1.heap.size, 0, none⟩) (by have := hB2; first | omega | (simp; omega)) (.int .i64 R.st)).far (p := ⟨q1.heap.size, 1, none⟩) (by have := hB2; first | omega | (simp; omega)) (.slice rso R.ss.length rsc)).two
            exact ⟨t0, t1, u0, u1⟩
          clear hK K hHeld4
          try simp only [Act.put, List.setIfInBounds_toArray, List.set_cons_zero, List.set_cons_succ]
          refine take_yes 10 (some 16) (v := ?_) rfl (by kernel_rfl) (by kernel_rfl) (by kernel_rfl) (by kernel_rfl) (fun _ _ _ h => h) (by rfl) (by assumption) ?_ ?_
          rotate_left
          · (intro w' hSw; (try dsimp only at hSw); go_simp; try with_reducible rfl)
          try simp only [Act.put, List.setIfInBounds_toArray, List.set_cons_zero, List.set_cons_succ]
          refine wpAnyH_done (by kernel_rfl) ?_ _
          clear hHeldz
          go_wp2_with fail
          go_meet
          all_goals
            refine ⟨boxW_mk (q1.heap.size) hB2 ?_ ?_ ((OR.out).far2 ?_) (((BF4.out).set 0 (.int .i64 R.st)).set 1 (.slice rso R.ss.length rsc)) ((Since.setCell (Since.setCell hc4 (a := ⟨q1.heap.size, 0, none⟩) hB2 (.int .i64 R.st)) (a := ⟨q1.heap.size, 1, none⟩) hB2 (.slice rso R.ss.length rsc))), rfl⟩
            all_goals (first | omega | (simp; omega) | simp)
      · skip
        go_simp
        have hc1 := Since.alloc (Since.refl w13).drew (.cells #[.int .i64 0, .slice none 0 0] 53)
        have hal1 : Since w13.drew (w13.drew.alloc (.cells #[.int .i64 0, .slice none 0 0] 53)) := (Since.refl _).alloc _
        have B1 : Hid (Blk (w13.drew.alloc (.cells #[.int .i64 0, .slice none 0 0] 53)) (w13.heap.size) 53 #[.int .i64 0, .slice none 0 0]) := Blk.new (by simp) _ _
        have hB1 : w13.heap.size ≤ w13.heap.size := by have := Since.lt (Since.refl w13).drew; first | exact this | simpa using this
        refine hK.out _ _ (HKC.out _ hc1) (fun hHeld1 => ?_)
        clear hK K hHeld
        try simp only [Act.put, List.setIfInBounds_toArray, List.set_cons_zero, List.set_cons_succ]
        refine take_run 1 rfl (by kernel_rfl) (by rfl) (fun K hK => ?_)
        go_simp
        refine (toGraph_any _ g _ (HG.out.since (hs013.trans hc1)) g1 g2).mono ?_
        rintro en q2 ⟨v2, rfl, ho2, hs2⟩
        have hc2 := Since.trans hc1 hs2
        have X2 := Lib.hid ho2
        clear ho2
        have BF2 := Lib.hid ((B1.out).since hs2)
        refine hK.out _ _ (HKC.out _ hc2) (fun hHeld2 => ?_)
        clear hK K hHeld1
        try simp only [Act.put, List.setIfInBounds_toArray, List.set_cons_zero, List.set_cons_succ]
        refine take_run 3 rfl (by kernel_rfl) (by rfl) (fun K hK => ?_)
        go_simp
        refine (toWalk_any _ x _ (HX.out.since (hs013.trans hc2)) x1).mono ?_
        rintro en q3 ⟨v3, rfl, ho3, hs3⟩
        have hc3 := Since.trans hc2 hs3
        have Y3 := Lib.hid ho3
        clear ho3
        have XF3 := Lib.hid ((X2.out).since hs3)
        have BF3 := Lib.hid ((BF2.out).since hs3)
        refine hK.out _ _ (HKC.out _ hc3) (fun hHeld3 => ?_)
        clear hK K hHeld2
        try simp only [Act.put, List.setIfInBounds_toArray, List.set_cons_zero, List.set_cons_succ]
        refine take_run 4 rfl (by kernel_rfl) (by rfl) (fun K hK => ?_)
        go_simp
        refine (HI.out _ _ _ (XF3.out).at (Y3.out).at).mono ?_
        rintro en q4 ⟨v4, rfl, ho4, hs4⟩
        obtain ⟨rs4, rfl, ka4, ia4⟩ := ho4
        obtain ⟨rso, rsc, rfl⟩ := ka4.len
        have hlo := Since.lt hc3
        have hhi := hs4.size
        have OR : Hid (OwnW _ _ _ _ _) := ⟨_, rfl, ka4, ia4⟩
        clear ka4 ia4
        have hc4 := Since.trans hc3 hs4
        have hBl := (BF3.out).lt
        have BF4 := Lib.hid ((BF3.out).since hs4)
        refine hK.out _ _ (HKC.out _ hc4) (fun hHeld4 => ?_)
        clear hK K hHeld3
        try simp only [Act.put, List.setIfInBounds_toArray, List.set_cons_zero, List.set_cons_succ]
        refine take_yes 5 (some 94) (v := ?_) rfl (by kernel_rfl) (by kernel_rfl) (by kernel_rfl) (by kernel_rfl) (fun _ _ _ h => h) (by rfl) (by assumption) ?_ ?_
        rotate_left
        · (intro w' hSw; (try dsimp only at hSw); go_simp; try with_reducible rfl)
        try simp only [Act.put, List.setIfInBounds_toArray, List.set_cons_zero, List.set_cons_succ]
        refine take_yes 6 (some 100) (v := ?_) rfl (by kernel_rfl) (by kernel_rfl) (by kernel_rfl) (by kernel_rfl) (fun _ _ _ h => h) (by rfl) (by assumption) ?_ ?_
        rotate_left
        · (intro w' hSw; (try dsimp only at hSw); go_simp; try with_reducible rfl)
        try simp only [Act.put, List.setIfInBounds_toArray, List.set_cons_zero, List.set_cons_succ]
        refine take_yes 7 (some 101) (v := ?_) rfl (by kernel_rfl) (by kernel_rfl) (by kernel_rfl) (by kernel_rfl) (fun _ _ _ h => h) (by rfl) (by assumption) ?_ ?_
        rotate_left
        · (intro w' hSw; (try dsimp only at hSw); go_simp; try with_reducible rfl)
        try simp only [Act.put, List.setIfInBounds_toArray, List.set_cons_zero, List.set_cons_succ]
        refine take_run 9 rfl (by kernel_rfl) (by rfl) (fun K hK => ?_)
        obtain ⟨s0, s1, s2, s3⟩ := (BF4.out).two
        go_simp
        clear s0 s1 s2 s3
        refine hK.out _ _ ?_ (fun hHeldz => ?_)
        · obtain ⟨t0, t1, _, _⟩ := (((b13.out.since hc4).far (p := ⟨w13.heap.size, 0, none⟩) (by have := hB1; first | omega | (simp; omega)) (.int .i64 R.st)).far (p := ⟨w13.heap.size, 1, none⟩) (by have := hB1; first | omega | (simp; omega)) (.slice rso R.ss.length rsc)).two
          obtain ⟨u0, u1, _, _⟩ := (((e13.out.since hc4).far (p := ⟨w13.heap.size, 0, none⟩) (by have := hB1; first | omega | (simp; omega)) (.int .i64 R.st)).far (p := ⟨w13.heap.size, 1, none⟩) (by have := hB1; first | omega | (simp; omega)) (.slice rso R.ss.length rsc)).two
          exact ⟨t0, t1, u0, u1⟩
        clear hK K hHeld4
        try simp only [Act.put, List.setIfInBounds_toArray, List.set_cons_zero, List.set_cons_succ]
        refine take_yes 10 (some 16) (v := ?_) rfl (by kernel_rfl) (by kernel_rfl) (by kernel_rfl) (by kernel_rfl) (fun _ _ _ h => h) (by rfl) (by assumption) ?_ ?_
        rotate_left
        · (intro w' hSw; (try dsimp only at hSw); go_simp; try with_reducible rfl)
        try simp only [Act.put, List.setIfInBounds_toArray, List.set_cons_zero, List.set_cons_succ]
        refine wpAnyH_done (by kernel_rfl) ?_ _
        clear hHeldz
        go_wp2_with fail
        go_meet
        all_goals
          refine ⟨boxW_mk (w13.heap.size) hB1 ?_ ?_ ((OR.out).far2 ?_) (((BF4.out).set 0 (.int .i64 R.st)).set 1 (.slice rso R.ss.length rsc)) ((Since.setCell (Since.setCell hc4 (a := ⟨w13.heap.size, 0, none⟩) hB1 (.int .i64 R.st)) (a := ⟨w13.heap.size, 1, none⟩) hB1 (.slice rso R.ss.length rsc))), rfl⟩
          all_goals (first | omega | (simp; omega) | simp)

    case rest =>
      obtain ⟨hbox, hcc⟩ := hcut
      subst hcc
      obtain ⟨wH, hwH⟩ : ∃ W, W = wc := ⟨_, rfl⟩
      subst hwH
      obtain ⟨hlo, hhi, hB, hso, hsc, hpp, hl0, hl1, hl2, hl3, hO, hK, hS⟩ := hbox
      subst hpp
      have hW := Lib.hid hO
      have hB0 := Lib.hid hK
      have hl4 := hK.lt
      have hl5 := hS.size
      clear hO hK
      have hs015 := hs013.trans hS
      have SB15 := Lib.hid (SB13.out.since hS)
      clear SB13
      have SW15 := Lib.hid (SW13.out.since hS)
      clear SW13
      have GB15 := Lib.hid (GB13.out.since hS)
      clear GB13
      have HM15 := Lib.hid (HM13.out.since hS)
      clear HM13
      clear hs013 hS b13 e13
      obtain ⟨p0, p1, _, _⟩ := SB15.out.two
      obtain ⟨r0, r1, _, _⟩ := hB0.out.two
      go_wp2_with fail
      clear p0 p1 r0 r1
      refine (eqWalk_any _ _ R R _ hW.out.at SW15.out.at q3 q3).mono ?_
      rintro en w16 ⟨rfl, hs16⟩
      have hs016 := hs015.trans hs16
      have GB16 := Lib.hid (GB15.out.since hs16)
      clear GB15
      have HM16 := Lib.hid (HM15.out.since hs16)
      clear HM15
      clear SB15 SW15 hW hB0 hs015 hs16
      obtain ⟨r0, r1, _, _⟩ := GB16.out.two
      go_wp2_with fail
      clear r0 r1
      refine (heldWalk_any _ R 1 _ HM16.out.at (by decide) (by decide) q6).mono ?_
      rintro en w17 ⟨rfl, hs17⟩
      rw [← HKR.out]
      have hs017 := hs016.trans hs17
      go_wp2
      go_ret
      exact ⟨rfl, hs017⟩
end Go.Proofs.Ytilkheclimammaa
