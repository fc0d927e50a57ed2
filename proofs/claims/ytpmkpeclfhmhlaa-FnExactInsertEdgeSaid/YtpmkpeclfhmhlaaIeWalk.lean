/- The law of InsertEdge, walked. -/
import Derived.Test.YtpmkpeclfhmhlaaIeS
import Derived.Test.YtpmkpeclfhmhlaaIeI
import Derived.Test.YtpmkpeclfhmhlaaMarkG
import Derived.Test.YtpmkpeclfhmhlaaLawM
import Derived.Test.YtpmkpeclfhmhlaaBoxIn
namespace Go.Proofs.Ytpmkpeclfhmhlaa
set_option maxRecDepth 100000
open Go.ChangeShapes Go.WideShapes Go.ChangeAt Go.RowKit
set_option linter.unusedVariables false
set_option linter.unusedSimpArgs false

set_option maxHeartbeats 4000000 in
set_option maxRecDepth 100000 in
theorem fnExactInsertEdge_walk (v ve : Value) (g : Grf) (e : Edg) (w : World) (h : GrfAt w v g) (hve : ve = ev e) (hl : g.vs.length ≤ maxLen ∧ g.es.length ≤ maxLen) (hei : e.In) :
    Calls Try.prog 4 #[v, ve] w fun e w' => e = .returned (.bool true) ∧ Since w w' := by
  subst hve
  have HG := Lib.hid h
  obtain ⟨a, b, rfl, ha, hb⟩ := h
  obtain ⟨ao, ac, rfl, _⟩ := ha.row
  obtain ⟨bo, bc, rfl⟩ := hb.len
  clear ha hb
  obtain ⟨n, hn⟩ : ∃ n, n = g.vs.length := ⟨_, rfl⟩
  obtain ⟨m, hm⟩ : ∃ m, m = g.es.length := ⟨_, rfl⟩
  rw [← hn, ← hm] at HG ⊢
  have HL := Lib.hid hl
  clear hn hm hl
  unfold ev
  have hs0 : Since w ((w.alloc (.cells #[.slice ao n ac, .slice bo m bc] 25)).alloc (.cells #[.int .i64 e.id, .int .i64 e.fr, .int .i64 e.to, .int .i64 e.lb] 35)) := ((Since.refl w).alloc _).alloc _
  have B0 : Hid (Blk ((w.alloc (.cells #[.slice ao n ac, .slice bo m bc] 25)).alloc (.cells #[.int .i64 e.id, .int .i64 e.fr, .int .i64 e.to, .int .i64 e.lb] 35)) w.heap.size 25 #[.slice ao n ac, .slice bo m bc]) := (Blk.new rfl _ _).alloc _
  have E0 : Hid (Blk ((w.alloc (.cells #[.slice ao n ac, .slice bo m bc] 25)).alloc (.cells #[.int .i64 e.id, .int .i64 e.fr, .int .i64 e.to, .int .i64 e.lb] 35)) (w.heap.size + 1) 35 #[.int .i64 e.id, .int .i64 e.fr, .int .i64 e.to, .int .i64 e.lb]) := Blk.new (by simp) _ _
  have hz0 : Hid (w.heap.size + 2 = ((w.alloc (.cells #[.slice ao n ac, .slice bo m bc] 25)).alloc (.cells #[.int .i64 e.id, .int .i64 e.fr, .int .i64 e.to, .int .i64 e.lb] 35)).heap.size) := by unfold Hid; simp
  by_cases hz : szG g 1048576 < 0
  · obtain ⟨x0, hx⟩ : ∃ x0, x0 = szG g 1048576 := ⟨_, rfl⟩
    rw [← hx] at hz
    have HX := Lib.hid hx
    clear hx
    go_enter Try.func4, Try.ntmps4
    go_wp2_with fail
    refine (szG_is _ g 1048576 x0 _ (HG.out.since hs0) HL.out (by decide) (by decide) HX.out.symm).mono ?_
    rintro en w1 ⟨rfl, hs1⟩
    have hs := hs0.trans hs1
    go_wp2
    go_ret
    exact ⟨rfl, hs⟩
  · obtain ⟨g1, g2, g3, _⟩ := szG_small hz
    have g4 : g.vs.length ≤ 1152921504606846976 := by omega
    have g5 : g.es.length ≤ 1152921504606846976 := by omega
    have HS : Hid (∀ u W, GrfAt W u g → CapE u → Calls Try.prog 19 #[u, .agg #[.int .i64 e.id, .int .i64 e.fr, .int .i64 e.to, .int .i64 e.lb]] W (GBOut W (insG g e) (canIns g e))) := fun u W hu hcu => specIE_any u g e W hu hcu g1 g2 hei
    have HI : Hid (∀ u W, GrfAt W u g → Calls Try.prog 21 #[u, .agg #[.int .i64 e.id, .int .i64 e.fr, .int .i64 e.to, .int .i64 e.lb]] W (GBOut W (insG g e) (canIns g e))) := fun u W hu => implIE_any u g e W hu g1 g2 hei
    have q1 : (insG g e).vs.length ≤ 1048578 := by have := insG_vs g e; omega
    have q2 : (insG g e).es.length ≤ 1048578 := by have := insG_es g e; omega
    generalize insG g e = R at HS HI q1 q2
    generalize canIns g e = C at HS HI
    have q3 : R.vs.length ≤ 1152921504606846976 := by omega
    have q4 : R.es.length ≤ 1152921504606846976 := by omega
    have q5 : R.vs.length ≤ 1152921504 := by omega
    have q6 : R.es.length ≤ 1152921504 := by omega
    have g6 : g.vs.length ≤ 1152921504 := by omega
    have g7 : g.es.length ≤ 1152921504 := by omega
    obtain ⟨kx, hkx⟩ : ∃ kx : Int, kx = 1 + szOf g := ⟨_, rfl⟩
    obtain ⟨kr, hkr⟩ : ∃ kr : Int, kr = 1 + szOf R := ⟨_, rfl⟩
    have dkx : decide (kx < 0) = false := by unfold szOf at hkx; simp; omega
    have dkr : decide (kr < 0) = false := by unfold szOf at hkr; simp; omega
    have ekr : (kr != kr) = false := by simp
    have HKX := Lib.hid hkx
    have HKR := Lib.hid hkr
    have dgg : decide (g = g) = true := by simp
    have dRR : decide (R = R) = true := by simp
    have eCC : (C != C) = false := by simp
    clear hkx hkr g3
    obtain ⟨x0, hx⟩ : ∃ x0, x0 = szG g 1048576 := ⟨_, rfl⟩
    rw [← hx] at hz
    have HX := Lib.hid hx
    clear hx
    go_enter Try.func4, Try.ntmps4
    go_wp2_with fail
    generalize ((w.alloc (.cells #[.slice ao n ac, .slice bo m bc] 25)).alloc (.cells #[.int .i64 e.id, .int .i64 e.fr, .int .i64 e.to, .int .i64 e.lb] 35)) = y0 at hs0 B0 E0 hz0 ⊢
    refine (szG_is _ g 1048576 x0 _ (HG.out.since hs0) HL.out (by decide) (by decide) HX.out.symm).mono ?_
    rintro en w1 ⟨rfl, hs1⟩
    have hs01 := hs0.trans hs1
    have b1 := Lib.hid (B0.out.since hs1)
    have e1 := Lib.hid (E0.out.since hs1)
    have z1 : w.heap.size + 2 ≤ w1.heap.size := by have := hz0.out; have := hs1.size; omega
    clear hs0 B0 E0 hz0 hs1
    go_upto_region 5 with fail
    go_cut [6, 7] (fun p c wx => BoxIn w1 wx p R ∧ c = .bool C)
    case first =>
      have HKC : Hid (∀ w', Since w1 w' → w'.cell? ⟨w.heap.size, 0, none⟩ = some (.slice ao n ac) ∧ w'.cell? ⟨w.heap.size, 1, none⟩ = some (.slice bo m bc) ∧ w'.cell? ⟨w.heap.size + 1, 0, none⟩ = some (.int .i64 e.id) ∧ w'.cell? ⟨w.heap.size + 1, 1, none⟩ = some (.int .i64 e.fr) ∧ w'.cell? ⟨w.heap.size + 1, 2, none⟩ = some (.int .i64 e.to) ∧ w'.cell? ⟨w.heap.size + 1, 3, none⟩ = some (.int .i64 e.lb)) := by
        intro w' hs
        obtain ⟨x0, x1, _, _⟩ := (b1.out.since hs).two
        obtain ⟨y0, y1, y2, y3, _, _, _, _⟩ := (e1.out.since hs).four
        exact ⟨x0, x1, y0, y1, y2, y3⟩
      go_wp2_with fail
      refine wp_region_held_drew (S := (fun w' => w'.cell? ⟨w.heap.size, 0, none⟩ = some (.slice ao n ac) ∧ w'.cell? ⟨w.heap.size, 1, none⟩ = some (.slice bo m bc) ∧ w'.cell? ⟨w.heap.size + 1, 0, none⟩ = some (.int .i64 e.id) ∧ w'.cell? ⟨w.heap.size + 1, 1, none⟩ = some (.int .i64 e.fr) ∧ w'.cell? ⟨w.heap.size + 1, 2, none⟩ = some (.int .i64 e.to) ∧ w'.cell? ⟨w.heap.size + 1, 3, none⟩ = some (.int .i64 e.lb))) (by kernel_rfl) (HKC.out _ (Since.refl _).drew) (fun hHeld => ?_)
      refine take_yes 0 (some 22) (v := ?_) rfl (by kernel_rfl) (by kernel_rfl) (by kernel_rfl) (by kernel_rfl) (fun _ _ _ h => h) (by rfl) (by assumption) ?_ ?_
      rotate_left
      · (intro w' hSw; (try dsimp only at hSw); go_simp; try with_reducible rfl)
      try simp only [Act.put, List.setIfInBounds_toArray, List.set_cons_zero, List.set_cons_succ]
      refine take_yes 2 (some 24) (v := ?_) rfl (by kernel_rfl) (by kernel_rfl) (by kernel_rfl) (by kernel_rfl) (fun _ _ _ h => h) (by rfl) (by assumption) ?_ ?_
      rotate_left
      · (intro w' hSw; (try dsimp only at hSw); go_simp; try with_reducible rfl)
      try simp only [Act.put, List.setIfInBounds_toArray, List.set_cons_zero, List.set_cons_succ]
      refine take_two 1 8 rfl rfl (by kernel_rfl) (by rfl) (by rfl) (fun K hK => ?_) (fun K hK => ?_)
      · skip
        go_simp
        refine (toGraph_any _ g _ (HG.out.since (hs01.trans (Since.refl w1).drew)) g1 g2).mono ?_
        rintro en q1 ⟨v1, rfl, ho1, hs1⟩
        have hc1 := Since.trans (Since.refl w1).drew hs1
        have X1 := Lib.hid ho1
        clear ho1
        refine hK.out _ _ (HKC.out _ hc1) (fun hHeld1 => ?_)
        clear hK K hHeld
        try simp only [Act.put, List.setIfInBounds_toArray, List.set_cons_zero, List.set_cons_succ]
        refine take_two 3 8 rfl rfl (by kernel_rfl) (by rfl) (by rfl) (fun K hK => ?_) (fun K hK => ?_)
        · skip
          go_simp
          refine (toEdge_any e _).mono ?_
          rintro en q2 ⟨rfl, hs2⟩
          have hc2 := Since.trans hc1 hs2
          have XF2 := Lib.hid ((X1.out).since hs2)
          refine hK.out _ _ (HKC.out _ hc2) (fun hHeld2 => ?_)
          clear hK K hHeld1
          try simp only [Act.put, List.setIfInBounds_toArray, List.set_cons_zero, List.set_cons_succ]
          refine take_two 4 8 rfl rfl (by kernel_rfl) (by rfl) (by rfl) (fun K hK => ?_) (fun K hK => ?_)
          · skip
            go_simp
            refine (HS.out _ _ XF2.out.at XF2.out.cap).mono ?_
            rintro en q3 ⟨v3, rfl, ho3, hs3⟩
            obtain ⟨ra3, rb3, rfl, ka3, ia3, kb3, ib3⟩ := ho3
            obtain ⟨rao, rac, rfl⟩ := ka3.len
            obtain ⟨rbo, rbc, rfl⟩ := kb3.len
            have hlo := Since.lt hc2
            have hhi := hs3.size
            have OR := Lib.hid (OwnG.intro ka3 ia3 kb3 ib3)
            clear ka3 ia3 kb3 ib3
            have hc3 := Since.trans hc2 hs3
            refine hK.out _ _ (HKC.out _ hc3) (fun hHeld3 => ?_)
            clear hK K hHeld2
            try simp only [Act.put, List.setIfInBounds_toArray, List.set_cons_zero, List.set_cons_succ]
            refine take_yes 5 (some 21) (v := ?_) rfl (by kernel_rfl) (by kernel_rfl) (by kernel_rfl) (by kernel_rfl) (fun _ _ _ h => h) (by rfl) (by assumption) ?_ ?_
            rotate_left
            · (intro w' hSw; (try dsimp only at hSw); go_simp; try with_reducible rfl)
            try simp only [Act.put, List.setIfInBounds_toArray, List.set_cons_zero, List.set_cons_succ]
            refine take_yes 6 (some 27) (v := ?_) rfl (by kernel_rfl) (by kernel_rfl) (by kernel_rfl) (by kernel_rfl) (fun _ _ _ h => h) (by rfl) (by assumption) ?_ ?_
            rotate_left
            · (intro w' hSw; (try dsimp only at hSw); go_simp; try with_reducible rfl)
            try simp only [Act.put, List.setIfInBounds_toArray, List.set_cons_zero, List.set_cons_succ]
            refine take_yes 7 (some 28) (v := ?_) rfl (by kernel_rfl) (by kernel_rfl) (by kernel_rfl) (by kernel_rfl) (fun _ _ _ h => h) (by rfl) (by assumption) ?_ ?_
            rotate_left
            · (intro w' hSw; (try dsimp only at hSw); go_simp; try with_reducible rfl)
            try simp only [Act.put, List.setIfInBounds_toArray, List.set_cons_zero, List.set_cons_succ]
            refine take_run 8 rfl (by kernel_rfl) (by rfl) (fun K hK => ?_)
            go_simp
            have hc4 := Since.alloc hc3 (.cells #[.slice none 0 0, .slice none 0 0] 30)
            have hal4 : Since q3 (q3.alloc (.cells #[.slice none 0 0, .slice none 0 0] 30)) := (Since.refl _).alloc _
            have B4 : Hid (Blk (q3.alloc (.cells #[.slice none 0 0, .slice none 0 0] 30)) (q3.heap.size) 30 #[.slice none 0 0, .slice none 0 0]) := Blk.new (by simp) _ _
            have hB4 : w1.heap.size ≤ q3.heap.size := by have := Since.lt hc3; first | exact this | simpa using this
            have OR4 := Lib.hid ((OR.out).since hal4)
            refine hK.out _ _ (HKC.out _ hc4) (fun hHeld4 => ?_)
            clear hK K hHeld3
            try simp only [Act.put, List.setIfInBounds_toArray, List.set_cons_zero, List.set_cons_succ]
            refine take_run 9 rfl (by kernel_rfl) (by rfl) (fun K hK => ?_)
            obtain ⟨s0, s1, s2, s3⟩ := (B4.out).two
            go_simp
            clear s0 s1 s2 s3
            have hcf := Since.alloc hc3 (.cells #[.slice rao R.vs.length rac, .slice rbo R.es.length rbc] 30)
            refine hK.out _ _ (HKC.out _ hcf) (fun hHeldz => ?_)
            clear hK K hHeld4
            try simp only [Act.put, List.setIfInBounds_toArray, List.set_cons_zero, List.set_cons_succ]
            refine take_yes 10 (some 7) (v := ?_) rfl (by kernel_rfl) (by kernel_rfl) (by kernel_rfl) (by kernel_rfl) (fun _ _ _ h => h) (by rfl) (by assumption) ?_ ?_
            rotate_left
            · (intro w' hSw; (try dsimp only at hSw); go_simp; try with_reducible rfl)
            try simp only [Act.put, List.setIfInBounds_toArray, List.set_cons_zero, List.set_cons_succ]
            refine wpAnyH_done (by kernel_rfl) ?_ _
            clear hHeldz
            go_wp2_with fail
            go_meet
            all_goals
              refine ⟨boxIn_mk (q3.heap.size) hB4 ?_ ?_ ((OR.out).since ((Since.refl _).alloc (.cells #[.slice rao R.vs.length rac, .slice rbo R.es.length rbc] 30))) (Blk.new (by simp) _ _) hcf, rfl⟩
              all_goals (first | omega | (simp; omega) | simp)
          · skip
            go_simp
            have hc3 := Since.alloc hc2 (.cells #[.slice none 0 0, .slice none 0 0] 30)
            have hal3 : Since q2 (q2.alloc (.cells #[.slice none 0 0, .slice none 0 0] 30)) := (Since.refl _).alloc _
            have B3 : Hid (Blk (q2.alloc (.cells #[.slice none 0 0, .slice none 0 0] 30)) (q2.heap.size) 30 #[.slice none 0 0, .slice none 0 0]) := Blk.new (by simp) _ _
            have hB3 : w1.heap.size ≤ q2.heap.size := by have := Since.lt hc2; first | exact this | simpa using this
            have XF3 := Lib.hid ((XF2.out).since hal3)
            refine hK.out _ _ (HKC.out _ hc3) (fun hHeld3 => ?_)
            clear hK K hHeld2
            try simp only [Act.put, List.setIfInBounds_toArray, List.set_cons_zero, List.set_cons_succ]
            refine take_run 4 rfl (by kernel_rfl) (by rfl) (fun K hK => ?_)
            go_simp
            refine (HS.out _ _ XF3.out.at XF3.out.cap).mono ?_
            rintro en q4 ⟨v4, rfl, ho4, hs4⟩
            obtain ⟨ra4, rb4, rfl, ka4, ia4, kb4, ib4⟩ := ho4
            obtain ⟨rao, rac, rfl⟩ := ka4.len
            obtain ⟨rbo, rbc, rfl⟩ := kb4.len
            have hlo := Since.lt hc3
            have hhi := hs4.size
            have OR := Lib.hid (OwnG.intro ka4 ia4 kb4 ib4)
            clear ka4 ia4 kb4 ib4
            have hc4 := Since.trans hc3 hs4
            have hBl := (B3.out).lt
            have BF4 := Lib.hid ((B3.out).since hs4)
            refine hK.out _ _ (HKC.out _ hc4) (fun hHeld4 => ?_)
            clear hK K hHeld3
            try simp only [Act.put, List.setIfInBounds_toArray, List.set_cons_zero, List.set_cons_succ]
            refine take_yes 5 (some 21) (v := ?_) rfl (by kernel_rfl) (by kernel_rfl) (by kernel_rfl) (by kernel_rfl) (fun _ _ _ h => h) (by rfl) (by assumption) ?_ ?_
            rotate_left
            · (intro w' hSw; (try dsimp only at hSw); go_simp; try with_reducible rfl)
            try simp only [Act.put, List.setIfInBounds_toArray, List.set_cons_zero, List.set_cons_succ]
            refine take_yes 6 (some 27) (v := ?_) rfl (by kernel_rfl) (by kernel_rfl) (by kernel_rfl) (by kernel_rfl) (fun _ _ _ h => h) (by rfl) (by assumption) ?_ ?_
            rotate_left
            · (intro w' hSw; (try dsimp only at hSw); go_simp; try with_reducible rfl)
            try simp only [Act.put, List.setIfInBounds_toArray, List.set_cons_zero, List.set_cons_succ]
            refine take_yes 7 (some 28) (v := ?_) rfl (by kernel_rfl) (by kernel_rfl) (by kernel_rfl) (by kernel_rfl) (fun _ _ _ h => h) (by rfl) (by assumption) ?_ ?_
            rotate_left
            · (intro w' hSw; (try dsimp only at hSw); go_simp; try with_reducible rfl)
            try simp only [Act.put, List.setIfInBounds_toArray, List.set_cons_zero, List.set_cons_succ]
            refine take_run 9 rfl (by kernel_rfl) (by rfl) (fun K hK => ?_)
            obtain ⟨s0, s1, s2, s3⟩ := (BF4.out).two
            go_simp
            clear s0 s1 s2 s3
            refine hK.out _ _ ?_ (fun hHeldz => ?_)
            · obtain ⟨t0, t1, _, _⟩ := (((b1.out.since hc4).far (p := ⟨q2.heap.size, 0, none⟩) (by have := hB3; first | omega | (simp; omega)) (.slice rao R.vs.length rac)).far (p := ⟨q2.heap.size, 1, none⟩) (by have := hB3; first | omega | (simp; omega)) (.slice rbo R.es.length rbc)).two
              obtain ⟨u0, u1, u2, u3, _, _, _, _⟩ := (((e1.out.since hc4).far (p := ⟨q2.heap.size, 0, none⟩) (by have := hB3; first | omega | (simp; omega)) (.slice rao R.vs.length rac)).far (p := ⟨q2.heap.size, 1, none⟩) (by have := hB3; first | omega | (simp; omega)) (.slice rbo R.es.length rbc)).four
              exact ⟨t0, t1, u0, u1, u2, u3⟩
            clear hK K hHeld4
            try simp only [Act.put, List.setIfInBounds_toArray, List.set_cons_zero, List.set_cons_succ]
            refine take_yes 10 (some 7) (v := ?_) rfl (by kernel_rfl) (by kernel_rfl) (by kernel_rfl) (by kernel_rfl) (fun _ _ _ h => h) (by rfl) (by assumption) ?_ ?_
            rotate_left
            · (intro w' hSw; (try dsimp only at hSw); go_simp; try with_reducible rfl)
            try simp only [Act.put, List.setIfInBounds_toArray, List.set_cons_zero, List.set_cons_succ]
            refine wpAnyH_done (by kernel_rfl) ?_ _
            clear hHeldz
            go_wp2_with fail
            go_meet
            all_goals
              refine ⟨boxIn_mk (q2.heap.size) hB3 ?_ ?_ ((OR.out).far2 ?_) (((BF4.out).set 0 (.slice rao R.vs.length rac)).set 1 (.slice rbo R.es.length rbc)) ((Since.setCell (Since.setCell hc4 (a := ⟨q2.heap.size, 0, none⟩) hB3 (.slice rao R.vs.length rac)) (a := ⟨q2.heap.size, 1, none⟩) hB3 (.slice rbo R.es.length rbc))), rfl⟩
              all_goals (first | omega | (simp; omega) | simp)
        · skip
          go_simp
          have hc2 := Since.alloc hc1 (.cells #[.slice none 0 0, .slice none 0 0] 30)
          have hal2 : Since q1 (q1.alloc (.cells #[.slice none 0 0, .slice none 0 0] 30)) := (Since.refl _).alloc _
          have B2 : Hid (Blk (q1.alloc (.cells #[.slice none 0 0, .slice none 0 0] 30)) (q1.heap.size) 30 #[.slice none 0 0, .slice none 0 0]) := Blk.new (by simp) _ _
          have hB2 : w1.heap.size ≤ q1.heap.size := by have := Since.lt hc1; first | exact this | simpa using this
          have XF2 := Lib.hid ((X1.out).since hal2)
          refine hK.out _ _ (HKC.out _ hc2) (fun hHeld2 => ?_)
          clear hK K hHeld1
          try simp only [Act.put, List.setIfInBounds_toArray, List.set_cons_zero, List.set_cons_succ]
          refine take_run 3 rfl (by kernel_rfl) (by rfl) (fun K hK => ?_)
          go_simp
          refine (toEdge_any e _).mono ?_
          rintro en q3 ⟨rfl, hs3⟩
          have hc3 := Since.trans hc2 hs3
          have XF3 := Lib.hid ((XF2.out).since hs3)
          have BF3 := Lib.hid ((B2.out).since hs3)
          refine hK.out _ _ (HKC.out _ hc3) (fun hHeld3 => ?_)
          clear hK K hHeld2
          try simp only [Act.put, List.setIfInBounds_toArray, List.set_cons_zero, List.set_cons_succ]
          refine take_run 4 rfl (by kernel_rfl) (by rfl) (fun K hK => ?_)
          go_simp
          refine (HS.out _ _ XF3.out.at XF3.out.cap).mono ?_
          rintro en q4 ⟨v4, rfl, ho4, hs4⟩
          obtain ⟨ra4, rb4, rfl, ka4, ia4, kb4, ib4⟩ := ho4
          obtain ⟨rao, rac, rfl⟩ := ka4.len
          obtain ⟨rbo, rbc, rfl⟩ := kb4.len
          have hlo := Since.lt hc3
          have hhi := hs4.size
          have OR := Lib.hid (OwnG.intro ka4 ia4 kb4 ib4)
          clear ka4 ia4 kb4 ib4
          have hc4 := Since.trans hc3 hs4
          have hBl := (BF3.out).lt
          have BF4 := Lib.hid ((BF3.out).since hs4)
          refine hK.out _ _ (HKC.out _ hc4) (fun hHeld4 => ?_)
          clear hK K hHeld3
          try simp only [Act.put, List.setIfInBounds_toArray, List.set_cons_zero, List.set_cons_succ]
          refine take_yes 5 (some 21) (v := ?_) rfl (by kernel_rfl) (by kernel_rfl) (by kernel_rfl) (by kernel_rfl) (fun _ _ _ h => h) (by rfl) (by assumption) ?_ ?_
          rotate_left
          · (intro w' hSw; (try dsimp only at hSw); go_simp; try with_reducible rfl)
          try simp only [Act.put, List.setIfInBounds_toArray, List.set_cons_zero, List.set_cons_succ]
          refine take_yes 6 (some 27) (v := ?_) rfl (by kernel_rfl) (by kernel_rfl) (by kernel_rfl) (by kernel_rfl) (fun _ _ _ h => h) (by rfl) (by assumption) ?_ ?_
          rotate_left
          · (intro w' hSw; (try dsimp only at hSw); go_simp; try with_reducible rfl)
          try simp only [Act.put, List.setIfInBounds_toArray, List.set_cons_zero, List.set_cons_succ]
          refine take_yes 7 (some 28) (v := ?_) rfl (by kernel_rfl) (by kernel_rfl) (by kernel_rfl) (by kernel_rfl) (fun _ _ _ h => h) (by rfl) (by assumption) ?_ ?_
          rotate_left
          · (intro w' hSw; (try dsimp only at hSw); go_simp; try with_reducible rfl)
          try simp only [Act.put, List.setIfInBounds_toArray, List.set_cons_zero, List.set_cons_succ]
          refine take_run 9 rfl (by kernel_rfl) (by rfl) (fun K hK => ?_)
          obtain ⟨s0, s1, s2, s3⟩ := (BF4.out).two
          go_simp
          clear s0 s1 s2 s3
          refine hK.out _ _ ?_ (fun hHeldz => ?_)
          · obtain ⟨t0, t1, _, _⟩ := (((b1.out.since hc4).far (p := ⟨q1.heap.size, 0, none⟩) (by have := hB2; first | omega | (simp; omega)) (.slice rao R.vs.length rac)).far (p := ⟨q1.heap.size, 1, none⟩) (by have := hB2; first | omega | (simp; omega)) (.slice rbo R.es.length rbc)).two
            obtain ⟨u0, u1, u2, u3, _, _, _, _⟩ := (((e1.out.since hc4).far (p := ⟨q1.heap.size, 0, none⟩) (by have := hB2; first | omega | (simp; omega)) (.slice rao R.vs.length rac)).far (p := ⟨q1.heap.size, 1, none⟩) (by have := hB2; first | omega | (simp; omega)) (.slice rbo R.es.length rbc)).four
            exact ⟨t0, t1, u0, u1, u2, u3⟩
          clear hK K hHeld4
          try simp only [Act.put, List.setIfInBounds_toArray, List.set_cons_zero, List.set_cons_succ]
          refine take_yes 10 (some 7) (v := ?_) rfl (by kernel_rfl) (by kernel_rfl) (by kernel_rfl) (by kernel_rfl) (fun _ _ _ h => h) (by rfl) (by assumption) ?_ ?_
          rotate_left
          · (intro w' hSw; (try dsimp only at hSw); go_simp; try with_reducible rfl)
          try simp only [Act.put, List.setIfInBounds_toArray, List.set_cons_zero, List.set_cons_succ]
          refine wpAnyH_done (by kernel_rfl) ?_ _
          clear hHeldz
          go_wp2_with fail
          go_meet
          all_goals
            refine ⟨boxIn_mk (q1.heap.size) hB2 ?_ ?_ ((OR.out).far2 ?_) (((BF4.out).set 0 (.slice rao R.vs.length rac)).set 1 (.slice rbo R.es.length rbc)) ((Since.setCell (Since.setCell hc4 (a := ⟨q1.heap.size, 0, none⟩) hB2 (.slice rao R.vs.length rac)) (a := ⟨q1.heap.size, 1, none⟩) hB2 (.slice rbo R.es.length rbc))), rfl⟩
            all_goals (first | omega | (simp; omega) | simp)
      · skip
        go_simp
        have hc1 := Since.alloc (Since.refl w1).drew (.cells #[.slice none 0 0, .slice none 0 0] 30)
        have hal1 : Since w1.drew (w1.drew.alloc (.cells #[.slice none 0 0, .slice none 0 0] 30)) := (Since.refl _).alloc _
        have B1 : Hid (Blk (w1.drew.alloc (.cells #[.slice none 0 0, .slice none 0 0] 30)) (w1.heap.size) 30 #[.slice none 0 0, .slice none 0 0]) := Blk.new (by simp) _ _
        have hB1 : w1.heap.size ≤ w1.heap.size := by have := Since.lt (Since.refl w1).drew; first | exact this | simpa using this
        refine hK.out _ _ (HKC.out _ hc1) (fun hHeld1 => ?_)
        clear hK K hHeld
        try simp only [Act.put, List.setIfInBounds_toArray, List.set_cons_zero, List.set_cons_succ]
        refine take_run 1 rfl (by kernel_rfl) (by rfl) (fun K hK => ?_)
        go_simp
        refine (toGraph_any _ g _ (HG.out.since (hs01.trans hc1)) g1 g2).mono ?_
        rintro en q2 ⟨v2, rfl, ho2, hs2⟩
        have hc2 := Since.trans hc1 hs2
        have X2 := Lib.hid ho2
        clear ho2
        have BF2 := Lib.hid ((B1.out).since hs2)
        refine hK.out _ _ (HKC.out _ hc2) (fun hHeld2 => ?_)
        clear hK K hHeld1
        try simp only [Act.put, List.setIfInBounds_toArray, List.set_cons_zero, List.set_cons_succ]
        refine take_run 3 rfl (by kernel_rfl) (by rfl) (fun K hK => ?_)
        go_simp
        refine (toEdge_any e _).mono ?_
        rintro en q3 ⟨rfl, hs3⟩
        have hc3 := Since.trans hc2 hs3
        have XF3 := Lib.hid ((X2.out).since hs3)
        have BF3 := Lib.hid ((BF2.out).since hs3)
        refine hK.out _ _ (HKC.out _ hc3) (fun hHeld3 => ?_)
        clear hK K hHeld2
        try simp only [Act.put, List.setIfInBounds_toArray, List.set_cons_zero, List.set_cons_succ]
        refine take_run 4 rfl (by kernel_rfl) (by rfl) (fun K hK => ?_)
        go_simp
        refine (HS.out _ _ XF3.out.at XF3.out.cap).mono ?_
        rintro en q4 ⟨v4, rfl, ho4, hs4⟩
        obtain ⟨ra4, rb4, rfl, ka4, ia4, kb4, ib4⟩ := ho4
        obtain ⟨rao, rac, rfl⟩ := ka4.len
        obtain ⟨rbo, rbc, rfl⟩ := kb4.len
        have hlo := Since.lt hc3
        have hhi := hs4.size
        have OR := Lib.hid (OwnG.intro ka4 ia4 kb4 ib4)
        clear ka4 ia4 kb4 ib4
        have hc4 := Since.trans hc3 hs4
        have hBl := (BF3.out).lt
        have BF4 := Lib.hid ((BF3.out).since hs4)
        refine hK.out _ _ (HKC.out _ hc4) (fun hHeld4 => ?_)
        clear hK K hHeld3
        try simp only [Act.put, List.setIfInBounds_toArray, List.set_cons_zero, List.set_cons_succ]
        refine take_yes 5 (some 21) (v := ?_) rfl (by kernel_rfl) (by kernel_rfl) (by kernel_rfl) (by kernel_rfl) (fun _ _ _ h => h) (by rfl) (by assumption) ?_ ?_
        rotate_left
        · (intro w' hSw; (try dsimp only at hSw); go_simp; try with_reducible rfl)
        try simp only [Act.put, List.setIfInBounds_toArray, List.set_cons_zero, List.set_cons_succ]
        refine take_yes 6 (some 27) (v := ?_) rfl (by kernel_rfl) (by kernel_rfl) (by kernel_rfl) (by kernel_rfl) (fun _ _ _ h => h) (by rfl) (by assumption) ?_ ?_
        rotate_left
        · (intro w' hSw; (try dsimp only at hSw); go_simp; try with_reducible rfl)
        try simp only [Act.put, List.setIfInBounds_toArray, List.set_cons_zero, List.set_cons_succ]
        refine take_yes 7 (some 28) (v := ?_) rfl (by kernel_rfl) (by kernel_rfl) (by kernel_rfl) (by kernel_rfl) (fun _ _ _ h => h) (by rfl) (by assumption) ?_ ?_
        rotate_left
        · (intro w' hSw; (try dsimp only at hSw); go_simp; try with_reducible rfl)
        try simp only [Act.put, List.setIfInBounds_toArray, List.set_cons_zero, List.set_cons_succ]
        refine take_run 9 rfl (by kernel_rfl) (by rfl) (fun K hK => ?_)
        obtain ⟨s0, s1, s2, s3⟩ := (BF4.out).two
        go_simp
        clear s0 s1 s2 s3
        refine hK.out _ _ ?_ (fun hHeldz => ?_)
        · obtain ⟨t0, t1, _, _⟩ := (((b1.out.since hc4).far (p := ⟨w1.heap.size, 0, none⟩) (by have := hB1; first | omega | (simp; omega)) (.slice rao R.vs.length rac)).far (p := ⟨w1.heap.size, 1, none⟩) (by have := hB1; first | omega | (simp; omega)) (.slice rbo R.es.length rbc)).two
          obtain ⟨u0, u1, u2, u3, _, _, _, _⟩ := (((e1.out.since hc4).far (p := ⟨w1.heap.size, 0, none⟩) (by have := hB1; first | omega | (simp; omega)) (.slice rao R.vs.length rac)).far (p := ⟨w1.heap.size, 1, none⟩) (by have := hB1; first | omega | (simp; omega)) (.slice rbo R.es.length rbc)).four
          exact ⟨t0, t1, u0, u1, u2, u3⟩
        clear hK K hHeld4
        try simp only [Act.put, List.setIfInBounds_toArray, List.set_cons_zero, List.set_cons_succ]
        refine take_yes 10 (some 7) (v := ?_) rfl (by kernel_rfl) (by kernel_rfl) (by kernel_rfl) (by kernel_rfl) (fun _ _ _ h => h) (by rfl) (by assumption) ?_ ?_
        rotate_left
        · (intro w' hSw; (try dsimp only at hSw); go_simp; try with_reducible rfl)
        try simp only [Act.put, List.setIfInBounds_toArray, List.set_cons_zero, List.set_cons_succ]
        refine wpAnyH_done (by kernel_rfl) ?_ _
        clear hHeldz
        go_wp2_with fail
        go_meet
        all_goals
          refine ⟨boxIn_mk (w1.heap.size) hB1 ?_ ?_ ((OR.out).far2 ?_) (((BF4.out).set 0 (.slice rao R.vs.length rac)).set 1 (.slice rbo R.es.length rbc)) ((Since.setCell (Since.setCell hc4 (a := ⟨w1.heap.size, 0, none⟩) hB1 (.slice rao R.vs.length rac)) (a := ⟨w1.heap.size, 1, none⟩) hB1 (.slice rbo R.es.length rbc))), rfl⟩
          all_goals (first | omega | (simp; omega) | simp)

    case rest =>
      obtain ⟨hbox, hcc⟩ := hcut
      subst hcc
      obtain ⟨wA, hwA⟩ : ∃ W, W = wc := ⟨_, rfl⟩
      subst hwA
      obtain ⟨slo, shi, sB, sao, sac, sbo, sbc, hpp, sl0, sl1, sl2, sl3, sO, sK, sS⟩ := hbox
      subst hpp
      have sW := Lib.hid sO
      have sB0 := Lib.hid sK
      have sl4 := sK.lt
      have sl5 := sS.size
      clear sO sK
      have hs0A := hs01.trans sS
      have bA := Lib.hid (b1.out.since sS)
      have eA := Lib.hid (e1.out.since sS)
      clear b1 e1 hs01 sS
      obtain ⟨p0, p1, _, _⟩ := bA.out.two
      go_wp2_with fail
      clear p0 p1
      refine (toGraph_any _ g _ (HG.out.since hs0A) g1 g2).mono ?_
      rintro en w4 ⟨v4, rfl, ho4, hs4⟩
      have XO := Lib.hid ho4
      obtain ⟨xa, xb, rfl, ka, _, kb, _⟩ := ho4
      obtain ⟨xao, xac, rfl⟩ := ka.len
      obtain ⟨xbo, xbc, rfl⟩ := kb.len
      clear ka kb
      have z4 := hs4.size
      have hs04 := (hs0A.trans hs4).alloc (.cells #[.slice xao g.vs.length xac, .slice xbo g.es.length xbc] 30)
      have hs4' := hs4.alloc (.cells #[.slice xao g.vs.length xac, .slice xbo g.es.length xbc] 30)
      have b4 := Lib.hid (bA.out.since hs4')
      have e4 := Lib.hid (eA.out.since hs4')
      have SB4 := Lib.hid (sB0.out.since hs4')
      have SW4 := Lib.hid (sW.out.since hs4')
      have XO4 := Lib.hid (XO.out.since ((Since.refl w4).alloc (.cells #[.slice xao g.vs.length xac, .slice xbo g.es.length xbc] 30)))
      have XB4 : Hid (Blk (w4.alloc (.cells #[.slice xao g.vs.length xac, .slice xbo g.es.length xbc] 30)) w4.heap.size 30 #[.slice xao g.vs.length xac, .slice xbo g.es.length xbc]) := Blk.new rfl _ _
      have y4z : Hid (w4.heap.size + 1 = (w4.alloc (.cells #[.slice xao g.vs.length xac, .slice xbo g.es.length xbc] 30)).heap.size) := by unfold Hid; simp
      clear bA eA sB0 sW XO hs0A hs4 hs4'
      go_upto_region 7 with fail
      generalize (w4.alloc (.cells #[.slice xao g.vs.length xac, .slice xbo g.es.length xbc] 30)) = y4 at hs04 b4 e4 SB4 SW4 XO4 XB4 y4z ⊢
      have c2 : w4.heap.size < y4.heap.size := by have := y4z.out; omega
      clear y4z
      have hsX := Since.refl y4
      go_cut [9, 10] (fun p c wx => BoxIn y4 wx p R ∧ c = .bool C)
      case first =>
        have HKC : Hid (∀ w', Since y4 w' → w'.cell? ⟨w4.heap.size, 0, none⟩ = some (.slice xao g.vs.length xac) ∧ w'.cell? ⟨w4.heap.size, 1, none⟩ = some (.slice xbo g.es.length xbc) ∧ w'.cell? ⟨w.heap.size + 1, 0, none⟩ = some (.int .i64 e.id) ∧ w'.cell? ⟨w.heap.size + 1, 1, none⟩ = some (.int .i64 e.fr) ∧ w'.cell? ⟨w.heap.size + 1, 2, none⟩ = some (.int .i64 e.to) ∧ w'.cell? ⟨w.heap.size + 1, 3, none⟩ = some (.int .i64 e.lb)) := by
          intro w' hs
          obtain ⟨x0, x1, _, _⟩ := (XB4.out.since hs).two
          obtain ⟨y0, y1, y2, y3, _, _, _, _⟩ := (e4.out.since hs).four
          exact ⟨x0, x1, y0, y1, y2, y3⟩
        go_wp2_with fail
        refine wp_region_held_drew (S := (fun w' => w'.cell? ⟨w4.heap.size, 0, none⟩ = some (.slice xao g.vs.length xac) ∧ w'.cell? ⟨w4.heap.size, 1, none⟩ = some (.slice xbo g.es.length xbc) ∧ w'.cell? ⟨w.heap.size + 1, 0, none⟩ = some (.int .i64 e.id) ∧ w'.cell? ⟨w.heap.size + 1, 1, none⟩ = some (.int .i64 e.fr) ∧ w'.cell? ⟨w.heap.size + 1, 2, none⟩ = some (.int .i64 e.to) ∧ w'.cell? ⟨w.heap.size + 1, 3, none⟩ = some (.int .i64 e.lb))) (by kernel_rfl) (HKC.out _ (Since.refl _).drew) (fun hHeld => ?_)
        refine take_yes 0 (some 32) (v := ?_) rfl (by kernel_rfl) (by kernel_rfl) (by kernel_rfl) (by kernel_rfl) (fun _ _ _ h => h) (by rfl) (by assumption) ?_ ?_
        rotate_left
        · (intro w' hSw; (try dsimp only at hSw); go_simp; try with_reducible rfl)
        try simp only [Act.put, List.setIfInBounds_toArray, List.set_cons_zero, List.set_cons_succ]
        refine take_yes 1 (some 33) (v := ?_) rfl (by kernel_rfl) (by kernel_rfl) (by kernel_rfl) (by kernel_rfl) (fun _ _ _ h => h) (by rfl) (by assumption) ?_ ?_
        rotate_left
        · (intro w' hSw; (try dsimp only at hSw); go_simp; try with_reducible rfl)
        try simp only [Act.put, List.setIfInBounds_toArray, List.set_cons_zero, List.set_cons_succ]
        refine take_two 2 7 rfl rfl (by kernel_rfl) (by rfl) (by rfl) (fun K hK => ?_) (fun K hK => ?_)
        · skip
          go_simp
          refine (toEdge_any e _).mono ?_
          rintro en q1 ⟨rfl, hs1⟩
          have hc1 := Since.trans (Since.refl y4).drew hs1
          refine hK.out _ _ (HKC.out _ hc1) (fun hHeld1 => ?_)
          clear hK K hHeld
          try simp only [Act.put, List.setIfInBounds_toArray, List.set_cons_zero, List.set_cons_succ]
          refine take_two 3 7 rfl rfl (by kernel_rfl) (by rfl) (by rfl) (fun K hK => ?_) (fun K hK => ?_)
          · skip
            go_simp
            refine (HI.out _ _ (XO4.out.at.since (Since.trans hsX hc1))).mono ?_
            rintro en q2 ⟨v2, rfl, ho2, hs2⟩
            obtain ⟨ra2, rb2, rfl, ka2, ia2, kb2, ib2⟩ := ho2
            obtain ⟨rao, rac, rfl⟩ := ka2.len
            obtain ⟨rbo, rbc, rfl⟩ := kb2.len
            have hlo := Since.lt hc1
            have hhi := hs2.size
            have OR := Lib.hid (OwnG.intro ka2 ia2 kb2 ib2)
            clear ka2 ia2 kb2 ib2
            have hc2 := Since.trans hc1 hs2
            refine hK.out _ _ (HKC.out _ hc2) (fun hHeld2 => ?_)
            clear hK K hHeld1
            try simp only [Act.put, List.setIfInBounds_toArray, List.set_cons_zero, List.set_cons_succ]
            refine take_yes 4 (some 31) (v := ?_) rfl (by kernel_rfl) (by kernel_rfl) (by kernel_rfl) (by kernel_rfl) (fun _ _ _ h => h) (by rfl) (by assumption) ?_ ?_
            rotate_left
            · (intro w' hSw; (try dsimp only at hSw); go_simp; try with_reducible rfl)
            try simp only [Act.put, List.setIfInBounds_toArray, List.set_cons_zero, List.set_cons_succ]
            refine take_yes 5 (some 36) (v := ?_) rfl (by kernel_rfl) (by kernel_rfl) (by kernel_rfl) (by kernel_rfl) (fun _ _ _ h => h) (by rfl) (by assumption) ?_ ?_
            rotate_left
            · (intro w' hSw; (try dsimp only at hSw); go_simp; try with_reducible rfl)
            try simp only [Act.put, List.setIfInBounds_toArray, List.set_cons_zero, List.set_cons_succ]
            refine take_yes 6 (some 37) (v := ?_) rfl (by kernel_rfl) (by kernel_rfl) (by kernel_rfl) (by kernel_rfl) (fun _ _ _ h => h) (by rfl) (by assumption) ?_ ?_
            rotate_left
            · (intro w' hSw; (try dsimp only at hSw); go_simp; try with_reducible rfl)
            try simp only [Act.put, List.setIfInBounds_toArray, List.set_cons_zero, List.set_cons_succ]
            refine take_run 7 rfl (by kernel_rfl) (by rfl) (fun K hK => ?_)
            go_simp
            have hc3 := Since.alloc hc2 (.cells #[.slice none 0 0, .slice none 0 0] 30)
            have hal3 : Since q2 (q2.alloc (.cells #[.slice none 0 0, .slice none 0 0] 30)) := (Since.refl _).alloc _
            have B3 : Hid (Blk (q2.alloc (.cells #[.slice none 0 0, .slice none 0 0] 30)) (q2.heap.size) 30 #[.slice none 0 0, .slice none 0 0]) := Blk.new (by simp) _ _
            have hB3 : y4.heap.size ≤ q2.heap.size := by have := Since.lt hc2; first | exact this | simpa using this
            have OR3 := Lib.hid ((OR.out).since hal3)
            refine hK.out _ _ (HKC.out _ hc3) (fun hHeld3 => ?_)
            clear hK K hHeld2
            try simp only [Act.put, List.setIfInBounds_toArray, List.set_cons_zero, List.set_cons_succ]
            refine take_run 8 rfl (by kernel_rfl) (by rfl) (fun K hK => ?_)
            obtain ⟨s0, s1, s2, s3⟩ := (B3.out).two
            go_simp
            clear s0 s1 s2 s3
            have hcf := Since.alloc hc2 (.cells #[.slice rao R.vs.length rac, .slice rbo R.es.length rbc] 30)
            refine hK.out _ _ (HKC.out _ hcf) (fun hHeldz => ?_)
            clear hK K hHeld3
            try simp only [Act.put, List.setIfInBounds_toArray, List.set_cons_zero, List.set_cons_succ]
            refine take_yes 9 (some 10) (v := ?_) rfl (by kernel_rfl) (by kernel_rfl) (by kernel_rfl) (by kernel_rfl) (fun _ _ _ h => h) (by rfl) (by assumption) ?_ ?_
            rotate_left
            · (intro w' hSw; (try dsimp only at hSw); go_simp; try with_reducible rfl)
            try simp only [Act.put, List.setIfInBounds_toArray, List.set_cons_zero, List.set_cons_succ]
            refine wpAnyH_done (by kernel_rfl) ?_ _
            clear hHeldz
            go_wp2_with fail
            go_meet
            all_goals
              refine ⟨boxIn_mk (q2.heap.size) hB3 ?_ ?_ ((OR.out).since ((Since.refl _).alloc (.cells #[.slice rao R.vs.length rac, .slice rbo R.es.length rbc] 30))) (Blk.new (by simp) _ _) hcf, rfl⟩
              all_goals (first | omega | (simp; omega) | simp)
          · skip
            go_simp
            have hc2 := Since.alloc hc1 (.cells #[.slice none 0 0, .slice none 0 0] 30)
            have hal2 : Since q1 (q1.alloc (.cells #[.slice none 0 0, .slice none 0 0] 30)) := (Since.refl _).alloc _
            have B2 : Hid (Blk (q1.alloc (.cells #[.slice none 0 0, .slice none 0 0] 30)) (q1.heap.size) 30 #[.slice none 0 0, .slice none 0 0]) := Blk.new (by simp) _ _
            have hB2 : y4.heap.size ≤ q1.heap.size := by have := Since.lt hc1; first | exact this | simpa using this
            refine hK.out _ _ (HKC.out _ hc2) (fun hHeld2 => ?_)
            clear hK K hHeld1
            try simp only [Act.put, List.setIfInBounds_toArray, List.set_cons_zero, List.set_cons_succ]
            refine take_run 3 rfl (by kernel_rfl) (by rfl) (fun K hK => ?_)
            go_simp
            refine (HI.out _ _ (XO4.out.at.since (Since.trans hsX hc2))).mono ?_
            rintro en q3 ⟨v3, rfl, ho3, hs3⟩
            obtain ⟨ra3, rb3, rfl, ka3, ia3, kb3, ib3⟩ := ho3
            obtain ⟨rao, rac, rfl⟩ := ka3.len
            obtain ⟨rbo, rbc, rfl⟩ := kb3.len
            have hlo := Since.lt hc2
            have hhi := hs3.size
            have OR := Lib.hid (OwnG.intro ka3 ia3 kb3 ib3)
            clear ka3 ia3 kb3 ib3
            have hc3 := Since.trans hc2 hs3
            have hBl := (B2.out).lt
            have BF3 := Lib.hid ((B2.out).since hs3)
            refine hK.out _ _ (HKC.out _ hc3) (fun hHeld3 => ?_)
            clear hK K hHeld2
            try simp only [Act.put, List.setIfInBounds_toArray, List.set_cons_zero, List.set_cons_succ]
            refine take_yes 4 (some 31) (v := ?_) rfl (by kernel_rfl) (by kernel_rfl) (by kernel_rfl) (by kernel_rfl) (fun _ _ _ h => h) (by rfl) (by assumption) ?_ ?_
            rotate_left
            · (intro w' hSw; (try dsimp only at hSw); go_simp; try with_reducible rfl)
            try simp only [Act.put, List.setIfInBounds_toArray, List.set_cons_zero, List.set_cons_succ]
            refine take_yes 5 (some 36) (v := ?_) rfl (by kernel_rfl) (by kernel_rfl) (by kernel_rfl) (by kernel_rfl) (fun _ _ _ h => h) (by rfl) (by assumption) ?_ ?_
            rotate_left
            · (intro w' hSw; (try dsimp only at hSw); go_simp; try with_reducible rfl)
            try simp only [Act.put, List.setIfInBounds_toArray, List.set_cons_zero, List.set_cons_succ]
            refine take_yes 6 (some 37) (v := ?_) rfl (by kernel_rfl) (by kernel_rfl) (by kernel_rfl) (by kernel_rfl) (fun _ _ _ h => h) (by rfl) (by assumption) ?_ ?_
            rotate_left
            · (intro w' hSw; (try dsimp only at hSw); go_simp; try with_reducible rfl)
            try simp only [Act.put, List.setIfInBounds_toArray, List.set_cons_zero, List.set_cons_succ]
            refine take_run 8 rfl (by kernel_rfl) (by rfl) (fun K hK => ?_)
            obtain ⟨s0, s1, s2, s3⟩ := (BF3.out).two
            go_simp
            clear s0 s1 s2 s3
            refine hK.out _ _ ?_ (fun hHeldz => ?_)
            · obtain ⟨t0, t1, _, _⟩ := (((XB4.out.since hc3).far (p := ⟨q1.heap.size, 0, none⟩) (by have := hB2; first | omega | (simp; omega)) (.slice rao R.vs.length rac)).far (p := ⟨q1.heap.size, 1, none⟩) (by have := hB2; first | omega | (simp; omega)) (.slice rbo R.es.length rbc)).two
              obtain ⟨u0, u1, u2, u3, _, _, _, _⟩ := (((e4.out.since hc3).far (p := ⟨q1.heap.size, 0, none⟩) (by have := hB2; first | omega | (simp; omega)) (.slice rao R.vs.length rac)).far (p := ⟨q1.heap.size, 1, none⟩) (by have := hB2; first | omega | (simp; omega)) (.slice rbo R.es.length rbc)).four
              exact ⟨t0, t1, u0, u1, u2, u3⟩
            clear hK K hHeld3
            try simp only [Act.put, List.setIfInBounds_toArray, List.set_cons_zero, List.set_cons_succ]
            refine take_yes 9 (some 10) (v := ?_) rfl (by kernel_rfl) (by kernel_rfl) (by kernel_rfl) (by kernel_rfl) (fun _ _ _ h => h) (by rfl) (by assumption) ?_ ?_
            rotate_left
            · (intro w' hSw; (try dsimp only at hSw); go_simp; try with_reducible rfl)
            try simp only [Act.put, List.setIfInBounds_toArray, List.set_cons_zero, List.set_cons_succ]
            refine wpAnyH_done (by kernel_rfl) ?_ _
            clear hHeldz
            go_wp2_with fail
            go_meet
            all_goals
              refine ⟨boxIn_mk (q1.heap.size) hB2 ?_ ?_ ((OR.out).far2 ?_) (((BF3.out).set 0 (.slice rao R.vs.length rac)).set 1 (.slice rbo R.es.length rbc)) ((Since.setCell (Since.setCell hc3 (a := ⟨q1.heap.size, 0, none⟩) hB2 (.slice rao R.vs.length rac)) (a := ⟨q1.heap.size, 1, none⟩) hB2 (.slice rbo R.es.length rbc))), rfl⟩
              all_goals (first | omega | (simp; omega) | simp)
        · skip
          go_simp
          have hc1 := Since.alloc (Since.refl y4).drew (.cells #[.slice none 0 0, .slice none 0 0] 30)
          have hal1 : Since y4.drew (y4.drew.alloc (.cells #[.slice none 0 0, .slice none 0 0] 30)) := (Since.refl _).alloc _
          have B1 : Hid (Blk (y4.drew.alloc (.cells #[.slice none 0 0, .slice none 0 0] 30)) (y4.heap.size) 30 #[.slice none 0 0, .slice none 0 0]) := Blk.new (by simp) _ _
          have hB1 : y4.heap.size ≤ y4.heap.size := by have := Since.lt (Since.refl y4).drew; first | exact this | simpa using this
          refine hK.out _ _ (HKC.out _ hc1) (fun hHeld1 => ?_)
          clear hK K hHeld
          try simp only [Act.put, List.setIfInBounds_toArray, List.set_cons_zero, List.set_cons_succ]
          refine take_run 2 rfl (by kernel_rfl) (by rfl) (fun K hK => ?_)
          go_simp
          refine (toEdge_any e _).mono ?_
          rintro en q2 ⟨rfl, hs2⟩
          have hc2 := Since.trans hc1 hs2
          have BF2 := Lib.hid ((B1.out).since hs2)
          refine hK.out _ _ (HKC.out _ hc2) (fun hHeld2 => ?_)
          clear hK K hHeld1
          try simp only [Act.put, List.setIfInBounds_toArray, List.set_cons_zero, List.set_cons_succ]
          refine take_run 3 rfl (by kernel_rfl) (by rfl) (fun K hK => ?_)
          go_simp
          refine (HI.out _ _ (XO4.out.at.since (Since.trans hsX hc2))).mono ?_
          rintro en q3 ⟨v3, rfl, ho3, hs3⟩
          obtain ⟨ra3, rb3, rfl, ka3, ia3, kb3, ib3⟩ := ho3
          obtain ⟨rao, rac, rfl⟩ := ka3.len
          obtain ⟨rbo, rbc, rfl⟩ := kb3.len
          have hlo := Since.lt hc2
          have hhi := hs3.size
          have OR := Lib.hid (OwnG.intro ka3 ia3 kb3 ib3)
          clear ka3 ia3 kb3 ib3
          have hc3 := Since.trans hc2 hs3
          have hBl := (BF2.out).lt
          have BF3 := Lib.hid ((BF2.out).since hs3)
          refine hK.out _ _ (HKC.out _ hc3) (fun hHeld3 => ?_)
          clear hK K hHeld2
          try simp only [Act.put, List.setIfInBounds_toArray, List.set_cons_zero, List.set_cons_succ]
          refine take_yes 4 (some 31) (v := ?_) rfl (by kernel_rfl) (by kernel_rfl) (by kernel_rfl) (by kernel_rfl) (fun _ _ _ h => h) (by rfl) (by assumption) ?_ ?_
          rotate_left
          · (intro w' hSw; (try dsimp only at hSw); go_simp; try with_reducible rfl)
          try simp only [Act.put, List.setIfInBounds_toArray, List.set_cons_zero, List.set_cons_succ]
          refine take_yes 5 (some 36) (v := ?_) rfl (by kernel_rfl) (by kernel_rfl) (by kernel_rfl) (by kernel_rfl) (fun _ _ _ h => h) (by rfl) (by assumption) ?_ ?_
          rotate_left
          · (intro w' hSw; (try dsimp only at hSw); go_simp; try with_reducible rfl)
          try simp only [Act.put, List.setIfInBounds_toArray, List.set_cons_zero, List.set_cons_succ]
          refine take_yes 6 (some 37) (v := ?_) rfl (by kernel_rfl) (by kernel_rfl) (by kernel_rfl) (by kernel_rfl) (fun _ _ _ h => h) (by rfl) (by assumption) ?_ ?_
          rotate_left
          · (intro w' hSw; (try dsimp only at hSw); go_simp; try with_reducible rfl)
          try simp only [Act.put, List.setIfInBounds_toArray, List.set_cons_zero, List.set_cons_succ]
          refine take_run 8 rfl (by kernel_rfl) (by rfl) (fun K hK => ?_)
          obtain ⟨s0, s1, s2, s3⟩ := (BF3.out).two
          go_simp
          clear s0 s1 s2 s3
          refine hK.out _ _ ?_ (fun hHeldz => ?_)
          · obtain ⟨t0, t1, _, _⟩ := (((XB4.out.since hc3).far (p := ⟨y4.heap.size, 0, none⟩) (by have := hB1; first | omega | (simp; omega)) (.slice rao R.vs.length rac)).far (p := ⟨y4.heap.size, 1, none⟩) (by have := hB1; first | omega | (simp; omega)) (.slice rbo R.es.length rbc)).two
            obtain ⟨u0, u1, u2, u3, _, _, _, _⟩ := (((e4.out.since hc3).far (p := ⟨y4.heap.size, 0, none⟩) (by have := hB1; first | omega | (simp; omega)) (.slice rao R.vs.length rac)).far (p := ⟨y4.heap.size, 1, none⟩) (by have := hB1; first | omega | (simp; omega)) (.slice rbo R.es.length rbc)).four
            exact ⟨t0, t1, u0, u1, u2, u3⟩
          clear hK K hHeld3
          try simp only [Act.put, List.setIfInBounds_toArray, List.set_cons_zero, List.set_cons_succ]
          refine take_yes 9 (some 10) (v := ?_) rfl (by kernel_rfl) (by kernel_rfl) (by kernel_rfl) (by kernel_rfl) (fun _ _ _ h => h) (by rfl) (by assumption) ?_ ?_
          rotate_left
          · (intro w' hSw; (try dsimp only at hSw); go_simp; try with_reducible rfl)
          try simp only [Act.put, List.setIfInBounds_toArray, List.set_cons_zero, List.set_cons_succ]
          refine wpAnyH_done (by kernel_rfl) ?_ _
          clear hHeldz
          go_wp2_with fail
          go_meet
          all_goals
            refine ⟨boxIn_mk (y4.heap.size) hB1 ?_ ?_ ((OR.out).far2 ?_) (((BF3.out).set 0 (.slice rao R.vs.length rac)).set 1 (.slice rbo R.es.length rbc)) ((Since.setCell (Since.setCell hc3 (a := ⟨y4.heap.size, 0, none⟩) hB1 (.slice rao R.vs.length rac)) (a := ⟨y4.heap.size, 1, none⟩) hB1 (.slice rbo R.es.length rbc))), rfl⟩
            all_goals (first | omega | (simp; omega) | simp)

      case rest =>
        obtain ⟨hbox, hcc⟩ := hcut
        subst hcc
        obtain ⟨wG, hwG⟩ : ∃ W, W = wc := ⟨_, rfl⟩
        subst hwG
        obtain ⟨glo, ghi, gB, gao, gac, gbo, gbc, hpp, gl0, gl1, gl2, gl3, gO, gK, gS⟩ := hbox
        subst hpp
        have gW := Lib.hid gO
        have gB0 := Lib.hid gK
        have gl4 := gK.lt
        have gl5 := gS.size
        clear gO gK
        have hs05 := hs04.trans gS
        have b5 := Lib.hid (b4.out.since gS)
        have e5 := Lib.hid (e4.out.since gS)
        have SB5 := Lib.hid (SB4.out.since gS)
        have SW5 := Lib.hid (SW4.out.since gS)
        have XO5 := Lib.hid (XO4.out.since gS)
        have XB5 := Lib.hid (XB4.out.since gS)
        have zG := gS.size
        clear b4 e4 SB4 SW4 XO4 XB4 hs04 gS hsX
        obtain ⟨p0, p1, _, _⟩ := SB5.out.two
        obtain ⟨r0, r1, _, _⟩ := gB0.out.two
        go_wp2_with fail
        clear p0 p1 r0 r1
        refine (eqGraph_any _ _ R R _ gW.out.at SW5.out.at q3 q4 q3 q4).mono ?_
        rintro en w6 ⟨rfl, hs6⟩
        have hs06 := hs05.trans hs6
        have b6 := Lib.hid (b5.out.since hs6)
        have e6 := Lib.hid (e5.out.since hs6)
        have SB6 := Lib.hid (SB5.out.since hs6)
        have SW6 := Lib.hid (SW5.out.since hs6)
        have XO6 := Lib.hid (XO5.out.since hs6)
        have XB6 := Lib.hid (XB5.out.since hs6)
        have GO6 := Lib.hid (gW.out.since hs6)
        have GB6 := Lib.hid (gB0.out.since hs6)
        have z6 := hs6.size
        clear b5 e5 SB5 SW5 XO5 XB5 gW gB0 hs05 hs6
        go_wp2_with fail
        have HKC : Hid (∀ w', Since w6 w' → w'.cell? ⟨w.heap.size, 0, none⟩ = some (.slice ao n ac) ∧ w'.cell? ⟨w.heap.size, 1, none⟩ = some (.slice bo m bc) ∧
            w'.cell? ⟨w4.heap.size, 0, none⟩ = some (.slice xao g.vs.length xac) ∧ w'.cell? ⟨w4.heap.size, 1, none⟩ = some (.slice xbo g.es.length xbc)) := by
          intro w' hs
          obtain ⟨r0, r1, _, _⟩ := (b6.out.since hs).two
          obtain ⟨s0, s1, _, _⟩ := (XB6.out.since hs).two
          exact ⟨r0, r1, s0, s1⟩
        refine wp_region_held_drew (S := (fun w' => w'.cell? ⟨w.heap.size, 0, none⟩ = some (.slice ao n ac) ∧ w'.cell? ⟨w.heap.size, 1, none⟩ = some (.slice bo m bc) ∧
            w'.cell? ⟨w4.heap.size, 0, none⟩ = some (.slice xao g.vs.length xac) ∧ w'.cell? ⟨w4.heap.size, 1, none⟩ = some (.slice xbo g.es.length xbc))) (by kernel_rfl) (HKC.out _ (Since.refl _).drew) (fun hHeld => ?_)
        refine take_yes 0 (some 47) (v := ?_) rfl (by kernel_rfl) (by kernel_rfl) (by kernel_rfl) (by kernel_rfl) (fun _ _ _ h => h) (by rfl) (by assumption) ?_ ?_
        rotate_left
        · (intro w' hSw; (try dsimp only at hSw); go_simp; try with_reducible rfl)
        try simp only [Act.put, List.setIfInBounds_toArray, List.set_cons_zero, List.set_cons_succ]
        refine take_yes 1 (some 48) (v := ?_) rfl (by kernel_rfl) (by kernel_rfl) (by kernel_rfl) (by kernel_rfl) (fun _ _ _ h => h) (by rfl) (by assumption) ?_ ?_
        rotate_left
        · (intro w' hSw; (try dsimp only at hSw); go_simp; try with_reducible rfl)
        try simp only [Act.put, List.setIfInBounds_toArray, List.set_cons_zero, List.set_cons_succ]
        refine take_run 2 rfl (by kernel_rfl) (by rfl) (fun K hK => ?_)
        go_simp
        refine (toGraph_any _ g _ (HG.out.since hs06.drew) g1 g2).mono ?_
        rintro en wa7 ⟨va7, rfl, hoa, hsa⟩
        refine hK.out _ _ (HKC.out _ (Since.of_drew hsa)) (fun hHeld2 => ?_)
        clear hK K hHeld
        try simp only [Act.put, List.setIfInBounds_toArray, List.set_cons_zero, List.set_cons_succ]
        refine take_run 3 rfl (by kernel_rfl) (by rfl) (fun K hK => ?_)
        go_simp
        refine (eqGraph_any _ _ g g _ (XO6.out.at.since (Since.of_drew hsa)) hoa.at g4 g5 g4 g5).mono ?_
        rintro en w7 ⟨rfl, hsc⟩
        refine hK.out _ _ (HKC.out _ ((Since.of_drew hsa).trans hsc)) (fun hHeld3 => ?_)
        clear hK K hHeld2
        try simp only [Act.put, List.setIfInBounds_toArray, List.set_cons_zero, List.set_cons_succ]
        refine take_yes 4 (some 51) (v := ?_) rfl (by kernel_rfl) (by kernel_rfl) (by kernel_rfl) (by kernel_rfl) (fun _ _ _ h => h) (by rfl) (by assumption) ?_ ?_
        rotate_left
        · (intro w' hSw; (try dsimp only at hSw); go_simp; try with_reducible rfl)
        try simp only [Act.put, List.setIfInBounds_toArray, List.set_cons_zero, List.set_cons_succ]
        refine wpAnyH_done (by kernel_rfl) ?_ _
        clear hHeld3
        have hw7 := (Since.of_drew hsa).trans hsc
        have hs07 := hs06.trans hw7
        have b7 := Lib.hid (b6.out.since hw7)
        have e7 := Lib.hid (e6.out.since hw7)
        have SB7 := Lib.hid (SB6.out.since hw7)
        have SW7 := Lib.hid (SW6.out.since hw7)
        have XO7 := Lib.hid (XO6.out.since hw7)
        have XB7 := Lib.hid (XB6.out.since hw7)
        have GO7 := Lib.hid (GO6.out.since hw7)
        have GB7 := Lib.hid (GB6.out.since hw7)
        have z7 := hw7.size
        clear b6 e6 SB6 SW6 XO6 XB6 GO6 GB6 hs06 hsa hsc hoa HKC hw7
        obtain ⟨r0, r1, _, _⟩ := XB7.out.two
        go_wp2_with fail
        clear r0 r1
        refine (markGraph_any _ _ _ g 1 _ XO7.out (by omega) (by decide) (by decide) g6 g7).mono ?_
        rintro en w8 ⟨rfl, hmx, hs8⟩
        rw [← HKX.out]
        have hs08 := hs07.within (by omega) hs8
        have b8 := Lib.hid (b7.out.within hs8 (by omega))
        have e8 := Lib.hid (e7.out.within hs8 (by omega))
        have SB8 := Lib.hid (SB7.out.within hs8 (by omega))
        have SW8 := Lib.hid (SW7.out.within hs8 (by omega))
        have GO8 := Lib.hid (GO7.out.within hs8 (by omega))
        have GB8 := Lib.hid (GB7.out.within hs8 (by omega))
        have z8 := hs8.size
        clear b7 e7 SB7 SW7 XO7 XB7 GO7 GB7 hs07 hs8 hmx
        obtain ⟨p0, p1, _, _⟩ := SB8.out.two
        obtain ⟨r0, r1, _, _⟩ := GB8.out.two
        go_wp2_with fail
        clear p0 p1 r0 r1
        refine (eqGraph_any _ _ R R _ GO8.out.at SW8.out.at q3 q4 q3 q4).mono ?_
        rintro en w9 ⟨rfl, hs9⟩
        have hs09 := hs08.trans hs9
        have b9 := Lib.hid (b8.out.since hs9)
        have e9 := Lib.hid (e8.out.since hs9)
        have SB9 := Lib.hid (SB8.out.since hs9)
        have SW9 := Lib.hid (SW8.out.since hs9)
        have GO9 := Lib.hid (GO8.out.since hs9)
        have GB9 := Lib.hid (GB8.out.since hs9)
        have z9 := hs9.size
        clear b8 e8 SB8 SW8 GO8 GB8 hs08 hs9
        obtain ⟨r0, r1, _, _⟩ := GB9.out.two
        go_wp2_with fail
        clear r0 r1
        refine (markGraph_any _ _ _ R 1 _ GO9.out (by omega) (by decide) (by decide) q5 q6).mono ?_
        rintro en w10 ⟨rfl, hmg, hs10⟩
        rw [← HKR.out]
        have HM := Lib.hid hmg
        have hs010 := hs09.within (by omega) hs10
        have b10 := Lib.hid (b9.out.within hs10 (by omega))
        have e10 := Lib.hid (e9.out.within hs10 (by omega))
        have SB10 := Lib.hid (SB9.out.within hs10 (by omega))
        have SW10 := Lib.hid (SW9.out.within hs10 (by omega))
        have GB10 := Lib.hid (GB9.out.within hs10 (by omega))
        have z10 := hs10.size
        clear b9 e9 SB9 SW9 GO9 GB9 hs09 hs10 hmg
        obtain ⟨r0, r1, _, _⟩ := GB10.out.two
        go_wp2_with fail
        clear r0 r1
        refine (heldGraph_any _ R 1 _ HM.out.at (by decide) (by decide) q5 q6).mono ?_
        rintro en w11 ⟨rfl, hs11⟩
        rw [← HKR.out]
        have hs011 := hs010.trans hs11
        have b11 := Lib.hid (b10.out.since hs11)
        have e11 := Lib.hid (e10.out.since hs11)
        have SB11 := Lib.hid (SB10.out.since hs11)
        have SW11 := Lib.hid (SW10.out.since hs11)
        have GB11 := Lib.hid (GB10.out.since hs11)
        have HM11 := Lib.hid (HM.out.since hs11)
        have z11 := hs11.size
        clear b10 e10 SB10 SW10 GB10 HM hs010 hs11
        go_upto_region 24 with fail
        go_cut [14, 15] (fun p c wx => BoxIn w11 wx p R ∧ c = .bool C)
        case first =>
          have HKC : Hid (∀ w', Since w11 w' → w'.cell? ⟨w.heap.size, 0, none⟩ = some (.slice ao n ac) ∧ w'.cell? ⟨w.heap.size, 1, none⟩ = some (.slice bo m bc) ∧ w'.cell? ⟨w.heap.size + 1, 0, none⟩ = some (.int .i64 e.id) ∧ w'.cell? ⟨w.heap.size + 1, 1, none⟩ = some (.int .i64 e.fr) ∧ w'.cell? ⟨w.heap.size + 1, 2, none⟩ = some (.int .i64 e.to) ∧ w'.cell? ⟨w.heap.size + 1, 3, none⟩ = some (.int .i64 e.lb)) := by
            intro w' hs
            obtain ⟨x0, x1, _, _⟩ := (b11.out.since hs).two
            obtain ⟨y0, y1, y2, y3, _, _, _, _⟩ := (e11.out.since hs).four
            exact ⟨x0, x1, y0, y1, y2, y3⟩
          go_wp2_with fail
          refine wp_region_held_drew (S := (fun w' => w'.cell? ⟨w.heap.size, 0, none⟩ = some (.slice ao n ac) ∧ w'.cell? ⟨w.heap.size, 1, none⟩ = some (.slice bo m bc) ∧ w'.cell? ⟨w.heap.size + 1, 0, none⟩ = some (.int .i64 e.id) ∧ w'.cell? ⟨w.heap.size + 1, 1, none⟩ = some (.int .i64 e.fr) ∧ w'.cell? ⟨w.heap.size + 1, 2, none⟩ = some (.int .i64 e.to) ∧ w'.cell? ⟨w.heap.size + 1, 3, none⟩ = some (.int .i64 e.lb))) (by kernel_rfl) (HKC.out _ (Since.refl _).drew) (fun hHeld => ?_)
          refine take_yes 0 (some 80) (v := ?_) rfl (by kernel_rfl) (by kernel_rfl) (by kernel_rfl) (by kernel_rfl) (fun _ _ _ h => h) (by rfl) (by assumption) ?_ ?_
          rotate_left
          · (intro w' hSw; (try dsimp only at hSw); go_simp; try with_reducible rfl)
          try simp only [Act.put, List.setIfInBounds_toArray, List.set_cons_zero, List.set_cons_succ]
          refine take_yes 2 (some 82) (v := ?_) rfl (by kernel_rfl) (by kernel_rfl) (by kernel_rfl) (by kernel_rfl) (fun _ _ _ h => h) (by rfl) (by assumption) ?_ ?_
          rotate_left
          · (intro w' hSw; (try dsimp only at hSw); go_simp; try with_reducible rfl)
          try simp only [Act.put, List.setIfInBounds_toArray, List.set_cons_zero, List.set_cons_succ]
          refine take_two 1 8 rfl rfl (by kernel_rfl) (by rfl) (by rfl) (fun K hK => ?_) (fun K hK => ?_)
          · skip
            go_simp
            refine (toGraph_any _ g _ (HG.out.since (hs011.trans (Since.refl w11).drew)) g1 g2).mono ?_
            rintro en q1 ⟨v1, rfl, ho1, hs1⟩
            have hc1 := Since.trans (Since.refl w11).drew hs1
            have X1 := Lib.hid ho1
            clear ho1
            refine hK.out _ _ (HKC.out _ hc1) (fun hHeld1 => ?_)
            clear hK K hHeld
            try simp only [Act.put, List.setIfInBounds_toArray, List.set_cons_zero, List.set_cons_succ]
            refine take_two 3 8 rfl rfl (by kernel_rfl) (by rfl) (by rfl) (fun K hK => ?_) (fun K hK => ?_)
            · skip
              go_simp
              refine (toEdge_any e _).mono ?_
              rintro en q2 ⟨rfl, hs2⟩
              have hc2 := Since.trans hc1 hs2
              have XF2 := Lib.hid ((X1.out).since hs2)
              refine hK.out _ _ (HKC.out _ hc2) (fun hHeld2 => ?_)
              clear hK K hHeld1
              try simp only [Act.put, List.setIfInBounds_toArray, List.set_cons_zero, List.set_cons_succ]
              refine take_two 4 8 rfl rfl (by kernel_rfl) (by rfl) (by rfl) (fun K hK => ?_) (fun K hK => ?_)
              · skip
                go_simp
                refine (HI.out _ _ XF2.out.at).mono ?_
                rintro en q3 ⟨v3, rfl, ho3, hs3⟩
                obtain ⟨ra3, rb3, rfl, ka3, ia3, kb3, ib3⟩ := ho3
                obtain ⟨rao, rac, rfl⟩ := ka3.len
                obtain ⟨rbo, rbc, rfl⟩ := kb3.len
                have hlo := Since.lt hc2
                have hhi := hs3.size
                have OR := Lib.hid (OwnG.intro ka3 ia3 kb3 ib3)
                clear ka3 ia3 kb3 ib3
                have hc3 := Since.trans hc2 hs3
                refine hK.out _ _ (HKC.out _ hc3) (fun hHeld3 => ?_)
                clear hK K hHeld2
                try simp only [Act.put, List.setIfInBounds_toArray, List.set_cons_zero, List.set_cons_succ]
                refine take_yes 5 (some 79) (v := ?_) rfl (by kernel_rfl) (by kernel_rfl) (by kernel_rfl) (by kernel_rfl) (fun _ _ _ h => h) (by rfl) (by assumption) ?_ ?_
                rotate_left
                · (intro w' hSw; (try dsimp only at hSw); go_simp; try with_reducible rfl)
                try simp only [Act.put, List.setIfInBounds_toArray, List.set_cons_zero, List.set_cons_succ]
                refine take_yes 6 (some 85) (v := ?_) rfl (by kernel_rfl) (by kernel_rfl) (by kernel_rfl) (by kernel_rfl) (fun _ _ _ h => h) (by rfl) (by assumption) ?_ ?_
                rotate_left
                · (intro w' hSw; (try dsimp only at hSw); go_simp; try with_reducible rfl)
                try simp only [Act.put, List.setIfInBounds_toArray, List.set_cons_zero, List.set_cons_succ]
                refine take_yes 7 (some 86) (v := ?_) rfl (by kernel_rfl) (by kernel_rfl) (by kernel_rfl) (by kernel_rfl) (fun _ _ _ h => h) (by rfl) (by assumption) ?_ ?_
                rotate_left
                · (intro w' hSw; (try dsimp only at hSw); go_simp; try with_reducible rfl)
                try simp only [Act.put, List.setIfInBounds_toArray, List.set_cons_zero, List.set_cons_succ]
                refine take_run 8 rfl (by kernel_rfl) (by rfl) (fun K hK => ?_)
                go_simp
                have hc4 := Since.alloc hc3 (.cells #[.slice none 0 0, .slice none 0 0] 30)
                have hal4 : Since q3 (q3.alloc (.cells #[.slice none 0 0, .slice none 0 0] 30)) := (Since.refl _).alloc _
                have B4 : Hid (Blk (q3.alloc (.cells #[.slice none 0 0, .slice none 0 0] 30)) (q3.heap.size) 30 #[.slice none 0 0, .slice none 0 0]) := Blk.new (by simp) _ _
                have hB4 : w11.heap.size ≤ q3.heap.size := by have := Since.lt hc3; first | exact this | simpa using this
                have OR4 := Lib.hid ((OR.out).since hal4)
                refine hK.out _ _ (HKC.out _ hc4) (fun hHeld4 => ?_)
                clear hK K hHeld3
                try simp only [Act.put, List.setIfInBounds_toArray, List.set_cons_zero, List.set_cons_succ]
                refine take_run 9 rfl (by kernel_rfl) (by rfl) (fun K hK => ?_)
                obtain ⟨s0, s1, s2, s3⟩ := (B4.out).two
                go_simp
                clear s0 s1 s2 s3
                have hcf := Since.alloc hc3 (.cells #[.slice rao R.vs.length rac, .slice rbo R.es.length rbc] 30)
                refine hK.out _ _ (HKC.out _ hcf) (fun hHeldz => ?_)
                clear hK K hHeld4
                try simp only [Act.put, List.setIfInBounds_toArray, List.set_cons_zero, List.set_cons_succ]
                refine take_yes 10 (some 15) (v := ?_) rfl (by kernel_rfl) (by kernel_rfl) (by kernel_rfl) (by kernel_rfl) (fun _ _ _ h => h) (by rfl) (by assumption) ?_ ?_
                rotate_left
                · (intro w' hSw; (try dsimp only at hSw); go_simp; try with_reducible rfl)
                try simp only [Act.put, List.setIfInBounds_toArray, List.set_cons_zero, List.set_cons_succ]
                refine wpAnyH_done (by kernel_rfl) ?_ _
                clear hHeldz
                go_wp2_with fail
                go_meet
                all_goals
                  refine ⟨boxIn_mk (q3.heap.size) hB4 ?_ ?_ ((OR.out).since ((Since.refl _).alloc (.cells #[.slice rao R.vs.length rac, .slice rbo R.es.length rbc] 30))) (Blk.new (by simp) _ _) hcf, rfl⟩
                  all_goals (first | omega | (simp; omega) | simp)
              · skip
                go_simp
                have hc3 := Since.alloc hc2 (.cells #[.slice none 0 0, .slice none 0 0] 30)
                have hal3 : Since q2 (q2.alloc (.cells #[.slice none 0 0, .slice none 0 0] 30)) := (Since.refl _).alloc _
                have B3 : Hid (Blk (q2.alloc (.cells #[.slice none 0 0, .slice none 0 0] 30)) (q2.heap.size) 30 #[.slice none 0 0, .slice none 0 0]) := Blk.new (by simp) _ _
                have hB3 : w11.heap.size ≤ q2.heap.size := by have := Since.lt hc2; first | exact this | simpa using this
                have XF3 := Lib.hid ((XF2.out).since hal3)
                refine hK.out _ _ (HKC.out _ hc3) (fun hHeld3 => ?_)
                clear hK K hHeld2
                try simp only [Act.put, List.setIfInBounds_toArray, List.set_cons_zero, List.set_cons_succ]
                refine take_run 4 rfl (by kernel_rfl) (by rfl) (fun K hK => ?_)
                go_simp
                refine (HI.out _ _ XF3.out.at).mono ?_
                rintro en q4 ⟨v4, rfl, ho4, hs4⟩
                obtain ⟨ra4, rb4, rfl, ka4, ia4, kb4, ib4⟩ := ho4
                obtain ⟨rao, rac, rfl⟩ := ka4.len
                obtain ⟨rbo, rbc, rfl⟩ := kb4.len
                have hlo := Since.lt hc3
                have hhi := hs4.size
                have OR := Lib.hid (OwnG.intro ka4 ia4 kb4 ib4)
                clear ka4 ia4 kb4 ib4
                have hc4 := Since.trans hc3 hs4
                have hBl := (B3.out).lt
                have BF4 := Lib.hid ((B3.out).since hs4)
                refine hK.out _ _ (HKC.out _ hc4) (fun hHeld4 => ?_)
                clear hK K hHeld3
                try simp only [Act.put, List.setIfInBounds_toArray, List.set_cons_zero, List.set_cons_succ]
                refine take_yes 5 (some 79) (v := ?_) rfl (by kernel_rfl) (by kernel_rfl) (by kernel_rfl) (by kernel_rfl) (fun _ _ _ h => h) (by rfl) (by assumption) ?_ ?_
                rotate_left
                · (intro w' hSw; (try dsimp only at hSw); go_simp; try with_reducible rfl)
                try simp only [Act.put, List.setIfInBounds_toArray, List.set_cons_zero, List.set_cons_succ]
                refine take_yes 6 (some 85) (v := ?_) rfl (by kernel_rfl) (by kernel_rfl) (by kernel_rfl) (by kernel_rfl) (fun _ _ _ h => h) (by rfl) (by assumption) ?_ ?_
                rotate_left
                · (intro w' hSw; (try dsimp only at hSw); go_simp; try with_reducible rfl)
                try simp only [Act.put, List.setIfInBounds_toArray, List.set_cons_zero, List.set_cons_succ]
                refine take_yes 7 (some 86) (v := ?_) rfl (by kernel_rfl) (by kernel_rfl) (by kernel_rfl) (by kernel_rfl) (fun _ _ _ h => h) (by rfl) (by assumption) ?_ ?_
                rotate_left
                · (intro w' hSw; (try dsimp only at hSw); go_simp; try with_reducible rfl)
                try simp only [Act.put, List.setIfInBounds_toArray, List.set_cons_zero, List.set_cons_succ]
                refine take_run 9 rfl (by kernel_rfl) (by rfl) (fun K hK => ?_)
                obtain ⟨s0, s1, s2, s3⟩ := (BF4.out).two
                go_simp
                clear s0 s1 s2 s3
                refine hK.out _ _ ?_ (fun hHeldz => ?_)
                · obtain ⟨t0, t1, _, _⟩ := (((b11.out.since hc4).far (p := ⟨q2.heap.size, 0, none⟩) (by have := hB3; first | omega | (simp; omega)) (.slice rao R.vs.length rac)).far (p := ⟨q2.heap.size, 1, none⟩) (by have := hB3; first | omega | (simp; omega)) (.slice rbo R.es.length rbc)).two
                  obtain ⟨u0, u1, u2, u3, _, _, _, _⟩ := (((e11.out.since hc4).far (p := ⟨q2.heap.size, 0, none⟩) (by have := hB3; first | omega | (simp; omega)) (.slice rao R.vs.length rac)).far (p := ⟨q2.heap.size, 1, none⟩) (by have := hB3; first | omega | (simp; omega)) (.slice rbo R.es.length rbc)).four
                  exact ⟨t0, t1, u0, u1, u2, u3⟩
                clear hK K hHeld4
                try simp only [Act.put, List.setIfInBounds_toArray, List.set_cons_zero, List.set_cons_succ]
                refine take_yes 10 (some 15) (v := ?_) rfl (by kernel_rfl) (by kernel_rfl) (by kernel_rfl) (by kernel_rfl) (fun _ _ _ h => h) (by rfl) (by assumption) ?_ ?_
                rotate_left
                · (intro w' hSw; (try dsimp only at hSw); go_simp; try with_reducible rfl)
                try simp only [Act.put, List.setIfInBounds_toArray, List.set_cons_zero, List.set_cons_succ]
                refine wpAnyH_done (by kernel_rfl) ?_ _
                clear hHeldz
                go_wp2_with fail
                go_meet
                all_goals
                  refine ⟨boxIn_mk (q2.heap.size) hB3 ?_ ?_ ((OR.out).far2 ?_) (((BF4.out).set 0 (.slice rao R.vs.length rac)).set 1 (.slice rbo R.es.length rbc)) ((Since.setCell (Since.setCell hc4 (a := ⟨q2.heap.size, 0, none⟩) hB3 (.slice rao R.vs.length rac)) (a := ⟨q2.heap.size, 1, none⟩) hB3 (.slice rbo R.es.length rbc))), rfl⟩
                  all_goals (first | omega | (simp; omega) | simp)
            · skip
              go_simp
              have hc2 := Since.alloc hc1 (.cells #[.slice none 0 0, .slice none 0 0] 30)
              have hal2 : Since q1 (q1.alloc (.cells #[.slice none 0 0, .slice none 0 0] 30)) := (Since.refl _).alloc _
              have B2 : Hid (Blk (q1.alloc (.cells #[.slice none 0 0, .slice none 0 0] 30)) (q1.heap.size) 30 #[.slice none 0 0, .slice none 0 0]) := Blk.new (by simp) _ _
              have hB2 : w11.heap.size ≤ q1.heap.size := by have := Since.lt hc1; first | exact this | simpa using this
              have XF2 := Lib.hid ((X1.out).since hal2)
              refine hK.out _ _ (HKC.out _ hc2) (fun hHeld2 => ?_)
              clear hK K hHeld1
              try simp only [Act.put, List.setIfInBounds_toArray, List.set_cons_zero, List.set_cons_succ]
              refine take_run 3 rfl (by kernel_rfl) (by rfl) (fun K hK => ?_)
              go_simp
              refine (toEdge_any e _).mono ?_
              rintro en q3 ⟨rfl, hs3⟩
              have hc3 := Since.trans hc2 hs3
              have XF3 := Lib.hid ((XF2.out).since hs3)
              have BF3 := Lib.hid ((B2.out).since hs3)
              refine hK.out _ _ (HKC.out _ hc3) (fun hHeld3 => ?_)
              clear hK K hHeld2
              try simp only [Act.put, List.setIfInBounds_toArray, List.set_cons_zero, List.set_cons_succ]
              refine take_run 4 rfl (by kernel_rfl) (by rfl) (fun K hK => ?_)
              go_simp
              refine (HI.out _ _ XF3.out.at).mono ?_
              rintro en q4 ⟨v4, rfl, ho4, hs4⟩
              obtain ⟨ra4, rb4, rfl, ka4, ia4, kb4, ib4⟩ := ho4
              obtain ⟨rao, rac, rfl⟩ := ka4.len
              obtain ⟨rbo, rbc, rfl⟩ := kb4.len
              have hlo := Since.lt hc3
              have hhi := hs4.size
              have OR := Lib.hid (OwnG.intro ka4 ia4 kb4 ib4)
              clear ka4 ia4 kb4 ib4
              have hc4 := Since.trans hc3 hs4
              have hBl := (BF3.out).lt
              have BF4 := Lib.hid ((BF3.out).since hs4)
              refine hK.out _ _ (HKC.out _ hc4) (fun hHeld4 => ?_)
              clear hK K hHeld3
              try simp only [Act.put, List.setIfInBounds_toArray, List.set_cons_zero, List.set_cons_succ]
              refine take_yes 5 (some 79) (v := ?_) rfl (by kernel_rfl) (by kernel_rfl) (by kernel_rfl) (by kernel_rfl) (fun _ _ _ h => h) (by rfl) (by assumption) ?_ ?_
              rotate_left
              · (intro w' hSw; (try dsimp only at hSw); go_simp; try with_reducible rfl)
              try simp only [Act.put, List.setIfInBounds_toArray, List.set_cons_zero, List.set_cons_succ]
              refine take_yes 6 (some 85) (v := ?_) rfl (by kernel_rfl) (by kernel_rfl) (by kernel_rfl) (by kernel_rfl) (fun _ _ _ h => h) (by rfl) (by assumption) ?_ ?_
              rotate_left
              · (intro w' hSw; (try dsimp only at hSw); go_simp; try with_reducible rfl)
              try simp only [Act.put, List.setIfInBounds_toArray, List.set_cons_zero, List.set_cons_succ]
              refine take_yes 7 (some 86) (v := ?_) rfl (by kernel_rfl) (by kernel_rfl) (by kernel_rfl) (by kernel_rfl) (fun _ _ _ h => h) (by rfl) (by assumption) ?_ ?_
              rotate_left
              · (intro w' hSw; (try dsimp only at hSw); go_simp; try with_reducible rfl)
              try simp only [Act.put, List.setIfInBounds_toArray, List.set_cons_zero, List.set_cons_succ]
              refine take_run 9 rfl (by kernel_rfl) (by rfl) (fun K hK => ?_)
              obtain ⟨s0, s1, s2, s3⟩ := (BF4.out).two
              go_simp
              clear s0 s1 s2 s3
              refine hK.out _ _ ?_ (fun hHeldz => ?_)
              · obtain ⟨t0, t1, _, _⟩ := (((b11.out.since hc4).far (p := ⟨q1.heap.size, 0, none⟩) (by have := hB2; first | omega | (simp; omega)) (.slice rao R.vs.length rac)).far (p := ⟨q1.heap.size, 1, none⟩) (by have := hB2; first | omega | (simp; omega)) (.slice rbo R.es.length rbc)).two
                obtain ⟨u0, u1, u2, u3, _, _, _, _⟩ := (((e11.out.since hc4).far (p := ⟨q1.heap.size, 0, none⟩) (by have := hB2; first | omega | (simp; omega)) (.slice rao R.vs.length rac)).far (p := ⟨q1.heap.size, 1, none⟩) (by have := hB2; first | omega | (simp; omega)) (.slice rbo R.es.length rbc)).four
                exact ⟨t0, t1, u0, u1, u2, u3⟩
              clear hK K hHeld4
              try simp only [Act.put, List.setIfInBounds_toArray, List.set_cons_zero, List.set_cons_succ]
              refine take_yes 10 (some 15) (v := ?_) rfl (by kernel_rfl) (by kernel_rfl) (by kernel_rfl) (by kernel_rfl) (fun _ _ _ h => h) (by rfl) (by assumption) ?_ ?_
              rotate_left
              · (intro w' hSw; (try dsimp only at hSw); go_simp; try with_reducible rfl)
              try simp only [Act.put, List.setIfInBounds_toArray, List.set_cons_zero, List.set_cons_succ]
              refine wpAnyH_done (by kernel_rfl) ?_ _
              clear hHeldz
              go_wp2_with fail
              go_meet
              all_goals
                refine ⟨boxIn_mk (q1.heap.size) hB2 ?_ ?_ ((OR.out).far2 ?_) (((BF4.out).set 0 (.slice rao R.vs.length rac)).set 1 (.slice rbo R.es.length rbc)) ((Since.setCell (Since.setCell hc4 (a := ⟨q1.heap.size, 0, none⟩) hB2 (.slice rao R.vs.length rac)) (a := ⟨q1.heap.size, 1, none⟩) hB2 (.slice rbo R.es.length rbc))), rfl⟩
                all_goals (first | omega | (simp; omega) | simp)
          · skip
            go_simp
            have hc1 := Since.alloc (Since.refl w11).drew (.cells #[.slice none 0 0, .slice none 0 0] 30)
            have hal1 : Since w11.drew (w11.drew.alloc (.cells #[.slice none 0 0, .slice none 0 0] 30)) := (Since.refl _).alloc _
            have B1 : Hid (Blk (w11.drew.alloc (.cells #[.slice none 0 0, .slice none 0 0] 30)) (w11.heap.size) 30 #[.slice none 0 0, .slice none 0 0]) := Blk.new (by simp) _ _
            have hB1 : w11.heap.size ≤ w11.heap.size := by have := Since.lt (Since.refl w11).drew; first | exact this | simpa using this
            refine hK.out _ _ (HKC.out _ hc1) (fun hHeld1 => ?_)
            clear hK K hHeld
            try simp only [Act.put, List.setIfInBounds_toArray, List.set_cons_zero, List.set_cons_succ]
            refine take_run 1 rfl (by kernel_rfl) (by rfl) (fun K hK => ?_)
            go_simp
            refine (toGraph_any _ g _ (HG.out.since (hs011.trans hc1)) g1 g2).mono ?_
            rintro en q2 ⟨v2, rfl, ho2, hs2⟩
            have hc2 := Since.trans hc1 hs2
            have X2 := Lib.hid ho2
            clear ho2
            have BF2 := Lib.hid ((B1.out).since hs2)
            refine hK.out _ _ (HKC.out _ hc2) (fun hHeld2 => ?_)
            clear hK K hHeld1
            try simp only [Act.put, List.setIfInBounds_toArray, List.set_cons_zero, List.set_cons_succ]
            refine take_run 3 rfl (by kernel_rfl) (by rfl) (fun K hK => ?_)
            go_simp
            refine (toEdge_any e _).mono ?_
            rintro en q3 ⟨rfl, hs3⟩
            have hc3 := Since.trans hc2 hs3
            have XF3 := Lib.hid ((X2.out).since hs3)
            have BF3 := Lib.hid ((BF2.out).since hs3)
            refine hK.out _ _ (HKC.out _ hc3) (fun hHeld3 => ?_)
            clear hK K hHeld2
            try simp only [Act.put, List.setIfInBounds_toArray, List.set_cons_zero, List.set_cons_succ]
            refine take_run 4 rfl (by kernel_rfl) (by rfl) (fun K hK => ?_)
            go_simp
            refine (HI.out _ _ XF3.out.at).mono ?_
            rintro en q4 ⟨v4, rfl, ho4, hs4⟩
            obtain ⟨ra4, rb4, rfl, ka4, ia4, kb4, ib4⟩ := ho4
            obtain ⟨rao, rac, rfl⟩ := ka4.len
            obtain ⟨rbo, rbc, rfl⟩ := kb4.len
            have hlo := Since.lt hc3
            have hhi := hs4.size
            have OR := Lib.hid (OwnG.intro ka4 ia4 kb4 ib4)
            clear ka4 ia4 kb4 ib4
            have hc4 := Since.trans hc3 hs4
            have hBl := (BF3.out).lt
            have BF4 := Lib.hid ((BF3.out).since hs4)
            refine hK.out _ _ (HKC.out _ hc4) (fun hHeld4 => ?_)
            clear hK K hHeld3
            try simp only [Act.put, List.setIfInBounds_toArray, List.set_cons_zero, List.set_cons_succ]
            refine take_yes 5 (some 79) (v := ?_) rfl (by kernel_rfl) (by kernel_rfl) (by kernel_rfl) (by kernel_rfl) (fun _ _ _ h => h) (by rfl) (by assumption) ?_ ?_
            rotate_left
            · (intro w' hSw; (try dsimp only at hSw); go_simp; try with_reducible rfl)
            try simp only [Act.put, List.setIfInBounds_toArray, List.set_cons_zero, List.set_cons_succ]
            refine take_yes 6 (some 85) (v := ?_) rfl (by kernel_rfl) (by kernel_rfl) (by kernel_rfl) (by kernel_rfl) (fun _ _ _ h => h) (by rfl) (by assumption) ?_ ?_
            rotate_left
            · (intro w' hSw; (try dsimp only at hSw); go_simp; try with_reducible rfl)
            try simp only [Act.put, List.setIfInBounds_toArray, List.set_cons_zero, List.set_cons_succ]
            refine take_yes 7 (some 86) (v := ?_) rfl (by kernel_rfl) (by kernel_rfl) (by kernel_rfl) (by kernel_rfl) (fun _ _ _ h => h) (by rfl) (by assumption) ?_ ?_
            rotate_left
            · (intro w' hSw; (try dsimp only at hSw); go_simp; try with_reducible rfl)
            try simp only [Act.put, List.setIfInBounds_toArray, List.set_cons_zero, List.set_cons_succ]
            refine take_run 9 rfl (by kernel_rfl) (by rfl) (fun K hK => ?_)
            obtain ⟨s0, s1, s2, s3⟩ := (BF4.out).two
            go_simp
            clear s0 s1 s2 s3
            refine hK.out _ _ ?_ (fun hHeldz => ?_)
            · obtain ⟨t0, t1, _, _⟩ := (((b11.out.since hc4).far (p := ⟨w11.heap.size, 0, none⟩) (by have := hB1; first | omega | (simp; omega)) (.slice rao R.vs.length rac)).far (p := ⟨w11.heap.size, 1, none⟩) (by have := hB1; first | omega | (simp; omega)) (.slice rbo R.es.length rbc)).two
              obtain ⟨u0, u1, u2, u3, _, _, _, _⟩ := (((e11.out.since hc4).far (p := ⟨w11.heap.size, 0, none⟩) (by have := hB1; first | omega | (simp; omega)) (.slice rao R.vs.length rac)).far (p := ⟨w11.heap.size, 1, none⟩) (by have := hB1; first | omega | (simp; omega)) (.slice rbo R.es.length rbc)).four
              exact ⟨t0, t1, u0, u1, u2, u3⟩
            clear hK K hHeld4
            try simp only [Act.put, List.setIfInBounds_toArray, List.set_cons_zero, List.set_cons_succ]
            refine take_yes 10 (some 15) (v := ?_) rfl (by kernel_rfl) (by kernel_rfl) (by kernel_rfl) (by kernel_rfl) (fun _ _ _ h => h) (by rfl) (by assumption) ?_ ?_
            rotate_left
            · (intro w' hSw; (try dsimp only at hSw); go_simp; try with_reducible rfl)
            try simp only [Act.put, List.setIfInBounds_toArray, List.set_cons_zero, List.set_cons_succ]
            refine wpAnyH_done (by kernel_rfl) ?_ _
            clear hHeldz
            go_wp2_with fail
            go_meet
            all_goals
              refine ⟨boxIn_mk (w11.heap.size) hB1 ?_ ?_ ((OR.out).far2 ?_) (((BF4.out).set 0 (.slice rao R.vs.length rac)).set 1 (.slice rbo R.es.length rbc)) ((Since.setCell (Since.setCell hc4 (a := ⟨w11.heap.size, 0, none⟩) hB1 (.slice rao R.vs.length rac)) (a := ⟨w11.heap.size, 1, none⟩) hB1 (.slice rbo R.es.length rbc))), rfl⟩
              all_goals (first | omega | (simp; omega) | simp)

        case rest =>
          obtain ⟨hbox, hcc⟩ := hcut
          subst hcc
          obtain ⟨wH, hwH⟩ : ∃ W, W = wc := ⟨_, rfl⟩
          subst hwH
          obtain ⟨hlo, hhi, hB, hao, hac, hbo, hbc, hpp, hl0, hl1, hl2, hl3, hO, hK, hS⟩ := hbox
          subst hpp
          have hW := Lib.hid hO
          have hB0 := Lib.hid hK
          have hl4 := hK.lt
          have hl5 := hS.size
          clear hO hK
          have hs013 := hs011.trans hS
          have SB13 := Lib.hid (SB11.out.since hS)
          have SW13 := Lib.hid (SW11.out.since hS)
          have GB13 := Lib.hid (GB11.out.since hS)
          have HM13 := Lib.hid (HM11.out.since hS)
          clear SB11 SW11 GB11 HM11 hs011 hS b11 e11
          obtain ⟨p0, p1, _, _⟩ := SB13.out.two
          obtain ⟨r0, r1, _, _⟩ := hB0.out.two
          go_wp2_with fail
          clear p0 p1 r0 r1
          refine (eqGraph_any _ _ R R _ hW.out.at SW13.out.at q3 q4 q3 q4).mono ?_
          rintro en w14 ⟨rfl, hs14⟩
          have hs014 := hs013.trans hs14
          have GB14 := Lib.hid (GB13.out.since hs14)
          have HM14 := Lib.hid (HM13.out.since hs14)
          clear SB13 SW13 GB13 HM13 hW hB0 hs013 hs14
          obtain ⟨r0, r1, _, _⟩ := GB14.out.two
          go_wp2_with fail
          clear r0 r1
          refine (heldGraph_any _ R 1 _ HM14.out.at (by decide) (by decide) q5 q6).mono ?_
          rintro en w15 ⟨rfl, hs15⟩
          rw [← HKR.out]
          have hs015 := hs014.trans hs15
          go_wp2
          go_ret
          exact ⟨rfl, hs015⟩
end Go.Proofs.Ytpmkpeclfhmhlaa
