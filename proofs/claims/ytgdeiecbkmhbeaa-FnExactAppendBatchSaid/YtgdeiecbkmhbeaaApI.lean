/- The program's ApplyBatch. -/
import Derived.Test.YtgdeiecbkmhbeaaApT
import Derived.Test.YtgdeiecbkmhbeaaChgL
import Derived.Test.YtgdeiecbkmhbeaaBoxIn
namespace Go.Proofs.Ytgdeiecbkmhbeaa
set_option maxRecDepth 100000
open Go.ChangeShapes Go.WideShapes Go.ChangeAt Go.RowKit
set_option linter.unusedVariables false
set_option linter.unusedSimpArgs false

theorem gb_stored2 {w w1 : World} {lo hi B : Nat} {v : Value} {R : Grf} {C : Bool} (hO : OwnG lo hi w1 v R) (hB : B < lo ∨ hi ≤ B) (hlo : w.heap.size ≤ lo) (hhi : hi ≤ w1.heap.size) (hB2 : w.heap.size ≤ B) (hs : Since w w1) (u0 u1 : Value) :
    GBOut w R C (.returned (.tuple #[v, .bool C])) ((w1.setCell ⟨B, 0, none⟩ u0).setCell ⟨B, 1, none⟩ u1) :=
  ⟨v, rfl, ((hO.far2 hB).wider hlo (by simpa using hhi)), (hs.setCell (a := ⟨B, 0, none⟩) hB2 u0).setCell (a := ⟨B, 1, none⟩) hB2 u1⟩
set_option maxHeartbeats 4000000 in
set_option maxRecDepth 100000 in
theorem implAB_any (v u : Value) (g : Grf) (cs : List Chg) (w : World) (h : GrfAt w v g) (hu : BchAt w u cs) (h1 : g.vs.length ≤ 1048577) (h2 : g.es.length ≤ 1048577) (h3 : cs.length ≤ 1048577) :
    Calls Try.prog 53 #[v, u] w (GBOut w (appG g cs) (appC g cs)) := by
  have HG := Lib.hid h
  obtain ⟨a, b, rfl, ha, hb⟩ := h
  obtain ⟨ao, ac, rfl, _⟩ := ha.row
  obtain ⟨bo, bc, rfl⟩ := hb.len
  obtain ⟨s, rfl, hin, so, sc, rfl, HS⟩ := hu
  have HXI := Lib.hid hin
  clear ha hb hin
  obtain ⟨n, hn⟩ : ∃ n, n = cs.length := ⟨_, rfl⟩
  have hn9 : n ≤ 1048577 := by omega
  have HN := Lib.hid hn
  rw [← hn]
  obtain ⟨y, hy⟩ : ∃ y, y = ((w.alloc (.cells #[.slice ao g.vs.length ac, .slice bo g.es.length bc] 39)).alloc (.cells #[.slice so n sc] 29)).alloc (.cells #[.slice none 0 0, .slice none 0 0] 39) := ⟨_, rfl⟩
  have hs0 : Since w y := by rw [hy]; exact (((Since.refl w).alloc _).alloc _).alloc _
  have hz : w.heap.size + 1 + 1 + 1 = y.heap.size := by rw [hy]; simp
  have BG : Hid (Blk y w.heap.size 39 #[.slice ao g.vs.length ac, .slice bo g.es.length bc]) := by rw [hy]; exact ((Blk.new rfl _ _).alloc _).alloc _
  have BB : Hid (Blk y (w.heap.size + 1) 29 #[.slice so n sc]) := by rw [hy]; exact (Blk.new (by simp) _ _).alloc _
  have BR : Hid (Blk y (w.heap.size + 1 + 1) 39 #[.slice none 0 0, .slice none 0 0]) := by rw [hy]; exact Blk.new (by simp) _ _
  clear hn
  have HST : ∀ (w1 : World) (hc : Since y w1), True := fun _ _ => trivial
  go_enter Try.func53, Try.ntmps53
  go_wp2_with fail
  rw [← hy]
  clear hy HST
  refine (copyGraph_any _ g _ (HG.out.since hs0) h1 h2).mono ?_
  rintro en w1 ⟨v1, rfl, ho1, hs1⟩
  have GO := Lib.hid ho1
  obtain ⟨ga, gb, rfl, ka, _, kb, _⟩ := ho1
  obtain ⟨gao, gac, rfl⟩ := ka.len
  obtain ⟨gbo, gbc, rfl⟩ := kb.len
  clear ka kb
  have hz1 := hs1.size
  obtain ⟨y1, hy1⟩ : ∃ y1, y1 = w1.alloc (.cells #[.slice gao g.vs.length gac, .slice gbo g.es.length gbc] 39) := ⟨_, rfl⟩
  have hs1y : Since w1 y1 := by rw [hy1]; exact (Since.refl w1).alloc _
  have hzb : w1.heap.size + 1 = y1.heap.size := by rw [hy1]; simp
  have BX1 : Hid (Blk y1 w1.heap.size 39 #[.slice gao g.vs.length gac, .slice gbo g.es.length gbc]) := by rw [hy1]; exact Blk.new rfl _ _
  have GO1 := Lib.hid (GO.out.since hs1y)
  have hcy := hs1.trans hs1y
  have BG1 := Lib.hid (BG.out.since hcy)
  have BB1 := Lib.hid (BB.out.since hcy)
  have BR1 := Lib.hid (BR.out.since hcy)
  have hs01 := hs0.trans hcy
  clear GO hs1 hs1y BG BB BR hcy hs0
  obtain ⟨p0, p1, _, _⟩ := BG1.out.two
  rw [hy1] at p0 p1
  go_wp2_with fail
  rw [← hy1]
  clear hy1 p0 p1
  rcases Bool.eq_false_or_eq_true (validB g) with hv | hv
  rotate_left
  · have HV := Lib.hid hv
    have HA := Lib.hid (app_none (appB_inval (cs := cs) hv))
    clear hv
    refine (implVG_any _ g _ (HG.out.since hs01) h1 h2).mono ?_
    rintro en w2 ⟨rfl, hs2⟩
    rw [HV.out]
    have hs02 := hs01.trans hs2
    have hz2 := hs2.size
    obtain ⟨r0, r1, r2, r3⟩ := (BR1.out.since hs2).two
    obtain ⟨q0, q1, _, _⟩ := (BX1.out.since hs2).two
    have GO2 := Lib.hid (GO1.out.since hs2)
    go_wp2_with fail
    refine bodyPost_ret (v := .tuple #[.agg #[.slice gao g.vs.length gac, .slice gbo g.es.length gbc], .bool false]) (by simp [results, Try.results53, go_sem, *]) rfl ?_
    rw [HA.out.1, HA.out.2]
    exact gb_stored GO2.out (by omega) (by omega) (by omega) (by omega) hs02 _ _
  have HV := Lib.hid hv
  by_cases hlen : 6 < n
  · have HA := Lib.hid (app_none (appB_long (g := g) (cs := cs) (by rw [← HN.out]; exact hlen)))
    have hgt : (6 : Int) < (n : Int) := by omega
    clear hv
    refine (implVG_any _ g _ (HG.out.since hs01) h1 h2).mono ?_
    rintro en w2 ⟨rfl, hs2⟩
    rw [HV.out]
    have hs02 := hs01.trans hs2
    have hz2 := hs2.size
    obtain ⟨b0, _⟩ := (BB1.out.since hs2).one
    obtain ⟨r0, r1, r2, r3⟩ := (BR1.out.since hs2).two
    obtain ⟨q0, q1, _, _⟩ := (BX1.out.since hs2).two
    have GO2 := Lib.hid (GO1.out.since hs2)
    go_wp2_with fail
    refine bodyPost_ret (v := .tuple #[.agg #[.slice gao g.vs.length gac, .slice gbo g.es.length gbc], .bool false]) (by simp [results, Try.results53, go_sem, *]) rfl ?_
    rw [HA.out.1, HA.out.2]
    exact gb_stored GO2.out (by omega) (by omega) (by omega) (by omega) hs02 _ _
  have HAP0 := Lib.hid (appB_run hv (show cs.length ≤ 6 by rw [← HN.out]; omega))
  have hle : ¬ (6 : Int) < (n : Int) := by omega
  clear hv
  refine (implVG_any _ g _ (HG.out.since hs01) h1 h2).mono ?_
  rintro en w2 ⟨rfl, hs2⟩
  rw [HV.out]
  have hs02 := hs01.trans hs2
  have hz2 := hs2.size
  have BB2 := Lib.hid (BB1.out.since hs2)
  have BR2 := Lib.hid (BR1.out.since hs2)
  have BG2 := Lib.hid (BG1.out.since hs2)
  have BX2 := Lib.hid (BX1.out.since hs2)
  have GO2 := Lib.hid (GO1.out.since hs2)
  clear BB1 BR1 BG1 BX1 GO1 hs2 hs01
  obtain ⟨b0, _⟩ := BB2.out.one
  go_wp2_with fail
  clear b0
  go_loopw [26] (fun i wr => ∃ k : Nat, k ≤ n ∧ i = .int .i64 k ∧ Hid (∃ x xao xac xbo xbc lo hi, runC g (cs.take k) = some x ∧ Blk wr w1.heap.size 39 #[.slice xao x.vs.length xac, .slice xbo x.es.length xbc] ∧ OwnG lo hi wr (.agg #[.slice xao x.vs.length xac, .slice xbo x.es.length xbc]) x ∧ y.heap.size ≤ lo ∧ hi ≤ wr.heap.size ∧ (w1.heap.size < lo ∨ hi ≤ w1.heap.size)) ∧ Hid (Blk wr w.heap.size 39 #[.slice ao g.vs.length ac, .slice bo g.es.length bc]) ∧ Hid (Blk wr (w.heap.size + 1 + 1) 39 #[.slice none 0 0, .slice none 0 0]) ∧ Since w wr ∧ w1.heap.size + 1 ≤ wr.heap.size) (fun i _ => n - (intOf i).toNat)
  case atStart => exact ⟨0, Nat.zero_le _, rfl, ⟨g, gao, gac, gbo, gbc, y.heap.size, w1.heap.size, rfl, BX2.out, GO2.out, Nat.le_refl _, by omega, .inr (Nat.le_refl _)⟩, BG2.out, BR2.out, hs02, by omega⟩
  case round =>
    obtain ⟨k, hk, rfl, HX, HBG, HBR, hsw, hzr⟩ := hrel
    obtain ⟨x, xao, xac, xbo, xbc, lo, hi, hrun, hbx, hox, hlo, hhi, hdj⟩ := HX.out
    have BXr := Lib.hid hbx
    have OXr := Lib.hid hox
    have HRUN := Lib.hid hrun
    clear HX hbx hox hrun
    by_cases hlt : k < n
    · have hx : k < cs.length := by have := HN.out; omega
      obtain ⟨be, oe, rfl, hbe, d0, d1, d2, d3, d4⟩ := HS.out k hx
      have s1 := since_cells hsw hbe
      rw [← s1] at d0 d1 d2 d3 d4
      clear s1
      have HCI : Hid (cs[k].ed.In) := HXI.out cs[k] (List.getElem_mem hx)
      have HSTEP := Lib.hid (runC_step hx HRUN.out)
      have HSTOP := Lib.hid (fun hn => runC_stop hx HRUN.out hn)
      have kk0 : (0 : Int) ≤ (k : Int) := by omega
      have kk1 : (k : Int) < (n : Int) := by omega
      obtain ⟨c, hc⟩ : ∃ c, c = cs[k] := ⟨_, rfl⟩
      rw [← hc] at d0 d1 d2 d3 d4 HCI HSTEP HSTOP
      clear hc
      have hvx := runC_valid HV.out HRUN.out
      obtain ⟨x5, x12⟩ := runC_size HV.out HRUN.out
      have HAPS := Lib.hid (stepC_ap hvx c)
      clear hvx
      have HEF : Hid (∀ W, Calls Try.prog 96 #[cv c] W fun en w' => en = .returned (.iface (if c.ins = true then 144 else 145) (ev c.ed)) ∧ Since W w') := fun W => effect_any c W
      have HAP : Hid (∀ V W, GrfAt W V x → Calls Try.prog (if c.ins = true then 133 else 146) #[ev c.ed, V] W (GBOut W (apT x c) (apC x c))) := by
        intro V W hV
        unfold apT apC
        by_cases hi : c.ins = true
        · simp only [if_pos hi]; exact insTo_any V x c.ed W hV (by omega) (by omega) HCI.out
        · simp only [if_neg hi]; exact delTo_any V x c.ed W hV (by omega) (by omega)
      have hm : ∀ (N : Nat) (e : Value) (W : World), (method (N + 1) (if c.ins = true then 144 else 145) e "loop.example/g01922/impl.applyTo").run Try.prog W = .ok (if c.ins = true then 133 else 146, e) W := by
        intro N e W
        by_cases hi : c.ins = true
        · simp only [if_pos hi]; kernel_rfl
        · simp only [if_neg hi]; kernel_rfl
      have hcf : ∀ (x0 x1 : Value) (W : World), (callFunc (if c.ins = true then 133 else 146) #[x0, x1]).run Try.prog W = .ok (.enter (if c.ins = true then 133 else 146) #[x0, x1]) W := by
        intro x0 x1 W
        by_cases hi : c.ins = true
        · simp only [if_pos hi]; kernel_rfl
        · simp only [if_neg hi]; kernel_rfl
      generalize (if c.ins = true then 144 else 145) = TI at HEF hm
      generalize (if c.ins = true then 133 else 146) = FI at HAP hm hcf
      generalize apT x c = R at HAP HAPS
      generalize apC x c = C at HAP HAPS
      unfold cv ev at HEF
      unfold ev at HAP
      obtain ⟨y5, hy5⟩ : ∃ y5, y5 = wr.alloc (.cells #[.bool c.ins, .int .i64 c.ed.id, .int .i64 c.ed.fr, .int .i64 (Edg.to c.ed), .int .i64 c.ed.lb] 98) := ⟨_, rfl⟩
      have hs5 : Since wr y5 := by rw [hy5]; exact (Since.refl wr).alloc _
      have hz5 : wr.heap.size + 1 = y5.heap.size := by rw [hy5]; simp
      have BC : Hid (Blk y5 wr.heap.size 98 #[.bool c.ins, .int .i64 c.ed.id, .int .i64 c.ed.fr, .int .i64 (Edg.to c.ed), .int .i64 c.ed.lb]) := by rw [hy5]; exact Blk.new rfl _ _
      have BX := Lib.hid (BXr.out.since hs5)
      have OX := Lib.hid (OXr.out.since hs5)
      have hCBl := BC.out.lt
      have hXBl := BX.out.lt
      have BGr := Lib.hid (HBG.out.since hs5)
      have BRr := Lib.hid (HBR.out.since hs5)
      have hs05 := hsw.trans hs5
      clear BXr OXr HBG HBR
      go_upto_region 7 with fail
      rw [← hy5]
      clear hy5 d0 d1 d2 d3 d4
      go_cut [9, 10] (fun p c wx => BoxIn y5 wx p R ∧ c = .bool C)
      case first =>
        have HKC : Hid (∀ w', Since y5 w' → (w'.cell? ⟨wr.heap.size, 0, none⟩ = some (.bool c.ins) ∧ w'.cell? ⟨wr.heap.size, 1, none⟩ = some (.int .i64 c.ed.id) ∧ w'.cell? ⟨wr.heap.size, 2, none⟩ = some (.int .i64 c.ed.fr) ∧ w'.cell? ⟨wr.heap.size, 3, none⟩ = some (.int .i64 (Edg.to c.ed)) ∧ w'.cell? ⟨wr.heap.size, 4, none⟩ = some (.int .i64 c.ed.lb)) ∧ w'.cell? ⟨w1.heap.size, 0, none⟩ = some (.slice xao x.vs.length xac) ∧ w'.cell? ⟨w1.heap.size, 1, none⟩ = some (.slice xbo x.es.length xbc)) := by
          intro w' hs
          obtain ⟨t5, _⟩ := (BC.out.since hs).fiveC
          obtain ⟨q0, q1, _, _⟩ := (BX.out.since hs).two
          exact ⟨t5, q0, q1⟩
        go_wp2_with fail
        refine wp_region_held_drew (S := (fun w' => (w'.cell? ⟨wr.heap.size, 0, none⟩ = some (.bool c.ins) ∧ w'.cell? ⟨wr.heap.size, 1, none⟩ = some (.int .i64 c.ed.id) ∧ w'.cell? ⟨wr.heap.size, 2, none⟩ = some (.int .i64 c.ed.fr) ∧ w'.cell? ⟨wr.heap.size, 3, none⟩ = some (.int .i64 (Edg.to c.ed)) ∧ w'.cell? ⟨wr.heap.size, 4, none⟩ = some (.int .i64 c.ed.lb)) ∧ w'.cell? ⟨w1.heap.size, 0, none⟩ = some (.slice xao x.vs.length xac) ∧ w'.cell? ⟨w1.heap.size, 1, none⟩ = some (.slice xbo x.es.length xbc))) (by kernel_rfl) (HKC.out _ (Since.refl _).drew) (fun hHeld => ?_)
        refine take_yes 0 (some 31) (v := ?_) rfl (by kernel_rfl) (by kernel_rfl) (by kernel_rfl) (by kernel_rfl) (fun _ _ _ h => h) (by rfl) (by assumption) ?_ ?_
        rotate_left
        · (intro w' hSw; (try dsimp only at hSw); go_simp; try with_reducible rfl)
        try simp only [Act.put, List.setIfInBounds_toArray, List.set_cons_zero, List.set_cons_succ]
        refine take_yes 2 (some 33) (v := ?_) rfl (by kernel_rfl) (by kernel_rfl) (by kernel_rfl) (by kernel_rfl) (fun _ _ _ h => h) (by rfl) (by assumption) ?_ ?_
        rotate_left
        · (intro w' hSw; (try dsimp only at hSw); go_simp; try with_reducible rfl)
        try simp only [Act.put, List.setIfInBounds_toArray, List.set_cons_zero, List.set_cons_succ]
        refine take_two 1 7 rfl rfl (by kernel_rfl) (by rfl) (by rfl) (fun K hK => ?_) (fun K hK => ?_)
        · skip
          go_simp
          refine (HEF.out _).mono ?_
          rintro en q1 ⟨rfl, hs1⟩
          have hc1 := Since.trans (Since.refl y5).drew hs1
          refine hK.out _ _ (HKC.out _ hc1) (fun hHeld1 => ?_)
          clear hK K hHeld
          try simp only [Act.put, List.setIfInBounds_toArray, List.set_cons_zero, List.set_cons_succ]
          refine take_two 3 7 rfl rfl (by kernel_rfl) (by rfl) (by rfl) (fun K hK => ?_) (fun K hK => ?_)
          · skip
            go_simp
            refine (HAP.out _ _ (OX.out.since (hc1)).at).mono ?_
            rintro en q2 ⟨v2, rfl, ho2, hs2⟩
            obtain ⟨ra2, rb2, rfl, ka2, ia2, kb2, ib2⟩ := ho2
            obtain ⟨rao, rac, rfl⟩ := ka2.len
            obtain ⟨rbo, rbc, rfl⟩ := kb2.len
            have OR : Hid (OwnG _ _ _ _ _) := ⟨_, _, rfl, ka2, ia2, kb2, ib2⟩
            clear ka2 ia2 kb2 ib2
            have hlo := Since.lt hc1
            have hhi := hs2.size
            have hc2 := Since.trans hc1 hs2
            refine hK.out _ _ (HKC.out _ hc2) (fun hHeld2 => ?_)
            clear hK K hHeld1
            try simp only [Act.put, List.setIfInBounds_toArray, List.set_cons_zero, List.set_cons_succ]
            refine take_yes 4 (some 30) (v := ?_) rfl (by kernel_rfl) (by kernel_rfl) (by kernel_rfl) (by kernel_rfl) (fun _ _ _ h => h) (by rfl) (by assumption) ?_ ?_
            rotate_left
            · (intro w' hSw; (try dsimp only at hSw); go_simp; try with_reducible rfl)
            try simp only [Act.put, List.setIfInBounds_toArray, List.set_cons_zero, List.set_cons_succ]
            refine take_yes 5 (some 35) (v := ?_) rfl (by kernel_rfl) (by kernel_rfl) (by kernel_rfl) (by kernel_rfl) (fun _ _ _ h => h) (by rfl) (by assumption) ?_ ?_
            rotate_left
            · (intro w' hSw; (try dsimp only at hSw); go_simp; try with_reducible rfl)
            try simp only [Act.put, List.setIfInBounds_toArray, List.set_cons_zero, List.set_cons_succ]
            refine take_yes 6 (some 36) (v := ?_) rfl (by kernel_rfl) (by kernel_rfl) (by kernel_rfl) (by kernel_rfl) (fun _ _ _ h => h) (by rfl) (by assumption) ?_ ?_
            rotate_left
            · (intro w' hSw; (try dsimp only at hSw); go_simp; try with_reducible rfl)
            try simp only [Act.put, List.setIfInBounds_toArray, List.set_cons_zero, List.set_cons_succ]
            refine take_run 7 rfl (by kernel_rfl) (by rfl) (fun K hK => ?_)
            go_simp
            have hc3 := Since.alloc hc2 (.cells #[.slice none 0 0, .slice none 0 0] 39)
            have hal3 : Since q2 (q2.alloc (.cells #[.slice none 0 0, .slice none 0 0] 39)) := (Since.refl _).alloc _
            have B3 : Hid (Blk (q2.alloc (.cells #[.slice none 0 0, .slice none 0 0] 39)) (q2.heap.size) 39 #[.slice none 0 0, .slice none 0 0]) := Blk.new (by simp) _ _
            have hB3 : y5.heap.size ≤ q2.heap.size := by have := Since.lt hc2; first | exact this | simpa using this
            have OO_1 := Lib.hid ((OR.out).since hal3)
            refine hK.out _ _ (HKC.out _ hc3) (fun hHeld3 => ?_)
            clear hK K hHeld2
            try simp only [Act.put, List.setIfInBounds_toArray, List.set_cons_zero, List.set_cons_succ]
            refine take_run 8 rfl (by kernel_rfl) (by rfl) (fun K hK => ?_)
            obtain ⟨s0, s1, s2, s3⟩ := (B3.out).two
            go_simp
            clear s0 s1 s2 s3
            have hcf := Since.alloc hc2 (.cells #[.slice rao R.vs.length rac, .slice rbo R.es.length rbc] 39)
            refine hK.out _ _ (HKC.out _ hcf) (fun hHeldz => ?_)
            clear hK K hHeld3
            try simp only [Act.put, List.setIfInBounds_toArray, List.set_cons_zero, List.set_cons_succ]
            refine take_yes 9 (some 10) (v := ?_) rfl (by kernel_rfl) (by kernel_rfl) (by kernel_rfl) (by kernel_rfl) (fun _ _ _ h => h) (by rfl) (by assumption) ?_ ?_
            rotate_left
            · (intro w' hSw; (try dsimp only at hSw); go_simp; try with_reducible rfl)
            try simp only [Act.put, List.setIfInBounds_toArray, List.set_cons_zero, List.set_cons_succ]
            refine wpAnyH_done (by kernel_rfl) ?_ _
            clear hHeldz
            go_wp2_with fail
            go_meet
            all_goals
              refine ⟨boxIn_mk (q2.heap.size) hB3 ?_ ?_ ((OR.out).since ((Since.refl _).alloc (.cells #[.slice rao R.vs.length rac, .slice rbo R.es.length rbc] 39))) (Blk.new (by simp) _ _) hcf, rfl⟩
              all_goals (first | omega | (simp; omega) | simp)
          · skip
            go_simp
            have hc2 := Since.alloc hc1 (.cells #[.slice none 0 0, .slice none 0 0] 39)
            have hal2 : Since q1 (q1.alloc (.cells #[.slice none 0 0, .slice none 0 0] 39)) := (Since.refl _).alloc _
            have B2 : Hid (Blk (q1.alloc (.cells #[.slice none 0 0, .slice none 0 0] 39)) (q1.heap.size) 39 #[.slice none 0 0, .slice none 0 0]) := Blk.new (by simp) _ _
            have hB2 : y5.heap.size ≤ q1.heap.size := by have := Since.lt hc1; first | exact this | simpa using this
            refine hK.out _ _ (HKC.out _ hc2) (fun hHeld2 => ?_)
            clear hK K hHeld1
            try simp only [Act.put, List.setIfInBounds_toArray, List.set_cons_zero, List.set_cons_succ]
            refine take_run 3 rfl (by kernel_rfl) (by rfl) (fun K hK => ?_)
            go_simp
            refine (HAP.out _ _ (OX.out.since (hc2)).at).mono ?_
            rintro en q3 ⟨v3, rfl, ho3, hs3⟩
            obtain ⟨ra3, rb3, rfl, ka3, ia3, kb3, ib3⟩ := ho3
            obtain ⟨rao, rac, rfl⟩ := ka3.len
            obtain ⟨rbo, rbc, rfl⟩ := kb3.len
            have OR : Hid (OwnG _ _ _ _ _) := ⟨_, _, rfl, ka3, ia3, kb3, ib3⟩
            clear ka3 ia3 kb3 ib3
            have hlo := Since.lt hc2
            have hhi := hs3.size
            have hc3 := Since.trans hc2 hs3
            have hBl := (B2.out).lt
            have BB_1 := Lib.hid ((B2.out).since hs3)
            refine hK.out _ _ (HKC.out _ hc3) (fun hHeld3 => ?_)
            clear hK K hHeld2
            try simp only [Act.put, List.setIfInBounds_toArray, List.set_cons_zero, List.set_cons_succ]
            refine take_yes 4 (some 30) (v := ?_) rfl (by kernel_rfl) (by kernel_rfl) (by kernel_rfl) (by kernel_rfl) (fun _ _ _ h => h) (by rfl) (by assumption) ?_ ?_
            rotate_left
            · (intro w' hSw; (try dsimp only at hSw); go_simp; try with_reducible rfl)
            try simp only [Act.put, List.setIfInBounds_toArray, List.set_cons_zero, List.set_cons_succ]
            refine take_yes 5 (some 35) (v := ?_) rfl (by kernel_rfl) (by kernel_rfl) (by kernel_rfl) (by kernel_rfl) (fun _ _ _ h => h) (by rfl) (by assumption) ?_ ?_
            rotate_left
            · (intro w' hSw; (try dsimp only at hSw); go_simp; try with_reducible rfl)
            try simp only [Act.put, List.setIfInBounds_toArray, List.set_cons_zero, List.set_cons_succ]
            refine take_yes 6 (some 36) (v := ?_) rfl (by kernel_rfl) (by kernel_rfl) (by kernel_rfl) (by kernel_rfl) (fun _ _ _ h => h) (by rfl) (by assumption) ?_ ?_
            rotate_left
            · (intro w' hSw; (try dsimp only at hSw); go_simp; try with_reducible rfl)
            try simp only [Act.put, List.setIfInBounds_toArray, List.set_cons_zero, List.set_cons_succ]
            refine take_run 8 rfl (by kernel_rfl) (by rfl) (fun K hK => ?_)
            obtain ⟨s0, s1, s2, s3⟩ := (BB_1.out).two
            go_simp
            clear s0 s1 s2 s3
            refine hK.out _ _ ?_ (fun hHeldz => ?_)
            · obtain ⟨t5, _⟩ := (((((BC.out.since hc3)).far (p := ⟨q1.heap.size, 0, none⟩) (by have := hB2; have := hCBl; have := hXBl; first | omega | (simp; omega)) (.slice rao R.vs.length rac))).far (p := ⟨q1.heap.size, 1, none⟩) (by have := hB2; have := hCBl; have := hXBl; first | omega | (simp; omega)) (.slice rbo R.es.length rbc)).fiveC
              obtain ⟨u0, u1, _, _⟩ := (((((BX.out.since hc3)).far (p := ⟨q1.heap.size, 0, none⟩) (by have := hB2; have := hCBl; have := hXBl; first | omega | (simp; omega)) (.slice rao R.vs.length rac))).far (p := ⟨q1.heap.size, 1, none⟩) (by have := hB2; have := hCBl; have := hXBl; first | omega | (simp; omega)) (.slice rbo R.es.length rbc)).two
              exact ⟨t5, u0, u1⟩
            clear hK K hHeld3
            try simp only [Act.put, List.setIfInBounds_toArray, List.set_cons_zero, List.set_cons_succ]
            refine take_yes 9 (some 10) (v := ?_) rfl (by kernel_rfl) (by kernel_rfl) (by kernel_rfl) (by kernel_rfl) (fun _ _ _ h => h) (by rfl) (by assumption) ?_ ?_
            rotate_left
            · (intro w' hSw; (try dsimp only at hSw); go_simp; try with_reducible rfl)
            try simp only [Act.put, List.setIfInBounds_toArray, List.set_cons_zero, List.set_cons_succ]
            refine wpAnyH_done (by kernel_rfl) ?_ _
            clear hHeldz
            go_wp2_with fail
            go_meet
            all_goals
              refine ⟨boxIn_mk (q1.heap.size) hB2 ?_ ?_ ((OR.out).far2 ?_) (((BB_1.out).set 0 (.slice rao R.vs.length rac)).set 1 (.slice rbo R.es.length rbc)) (Since.setCell (Since.setCell hc3 (a := ⟨q1.heap.size, 0, none⟩) hB2 (.slice rao R.vs.length rac)) (a := ⟨q1.heap.size, 1, none⟩) hB2 (.slice rbo R.es.length rbc)), rfl⟩
              all_goals (first | omega | (simp; omega) | simp)
        · skip
          go_simp
          have hc1 := Since.alloc (Since.refl y5).drew (.cells #[.slice none 0 0, .slice none 0 0] 39)
          have hal1 : Since y5.drew (y5.drew.alloc (.cells #[.slice none 0 0, .slice none 0 0] 39)) := (Since.refl _).alloc _
          have B1 : Hid (Blk (y5.drew.alloc (.cells #[.slice none 0 0, .slice none 0 0] 39)) (y5.heap.size) 39 #[.slice none 0 0, .slice none 0 0]) := Blk.new (by simp) _ _
          have hB1 : y5.heap.size ≤ y5.heap.size := by have := Since.lt (Since.refl y5).drew; first | exact this | simpa using this
          refine hK.out _ _ (HKC.out _ hc1) (fun hHeld1 => ?_)
          clear hK K hHeld
          try simp only [Act.put, List.setIfInBounds_toArray, List.set_cons_zero, List.set_cons_succ]
          refine take_run 1 rfl (by kernel_rfl) (by rfl) (fun K hK => ?_)
          go_simp
          refine (HEF.out _).mono ?_
          rintro en q2 ⟨rfl, hs2⟩
          have hc2 := Since.trans hc1 hs2
          have BB_1 := Lib.hid ((B1.out).since hs2)
          refine hK.out _ _ (HKC.out _ hc2) (fun hHeld2 => ?_)
          clear hK K hHeld1
          try simp only [Act.put, List.setIfInBounds_toArray, List.set_cons_zero, List.set_cons_succ]
          refine take_run 3 rfl (by kernel_rfl) (by rfl) (fun K hK => ?_)
          go_simp
          refine (HAP.out _ _ (OX.out.since (hc2)).at).mono ?_
          rintro en q3 ⟨v3, rfl, ho3, hs3⟩
          obtain ⟨ra3, rb3, rfl, ka3, ia3, kb3, ib3⟩ := ho3
          obtain ⟨rao, rac, rfl⟩ := ka3.len
          obtain ⟨rbo, rbc, rfl⟩ := kb3.len
          have OR : Hid (OwnG _ _ _ _ _) := ⟨_, _, rfl, ka3, ia3, kb3, ib3⟩
          clear ka3 ia3 kb3 ib3
          have hlo := Since.lt hc2
          have hhi := hs3.size
          have hc3 := Since.trans hc2 hs3
          have hBl := (BB_1.out).lt
          have BB_2 := Lib.hid ((BB_1.out).since hs3)
          refine hK.out _ _ (HKC.out _ hc3) (fun hHeld3 => ?_)
          clear hK K hHeld2
          try simp only [Act.put, List.setIfInBounds_toArray, List.set_cons_zero, List.set_cons_succ]
          refine take_yes 4 (some 30) (v := ?_) rfl (by kernel_rfl) (by kernel_rfl) (by kernel_rfl) (by kernel_rfl) (fun _ _ _ h => h) (by rfl) (by assumption) ?_ ?_
          rotate_left
          · (intro w' hSw; (try dsimp only at hSw); go_simp; try with_reducible rfl)
          try simp only [Act.put, List.setIfInBounds_toArray, List.set_cons_zero, List.set_cons_succ]
          refine take_yes 5 (some 35) (v := ?_) rfl (by kernel_rfl) (by kernel_rfl) (by kernel_rfl) (by kernel_rfl) (fun _ _ _ h => h) (by rfl) (by assumption) ?_ ?_
          rotate_left
          · (intro w' hSw; (try dsimp only at hSw); go_simp; try with_reducible rfl)
          try simp only [Act.put, List.setIfInBounds_toArray, List.set_cons_zero, List.set_cons_succ]
          refine take_yes 6 (some 36) (v := ?_) rfl (by kernel_rfl) (by kernel_rfl) (by kernel_rfl) (by kernel_rfl) (fun _ _ _ h => h) (by rfl) (by assumption) ?_ ?_
          rotate_left
          · (intro w' hSw; (try dsimp only at hSw); go_simp; try with_reducible rfl)
          try simp only [Act.put, List.setIfInBounds_toArray, List.set_cons_zero, List.set_cons_succ]
          refine take_run 8 rfl (by kernel_rfl) (by rfl) (fun K hK => ?_)
          obtain ⟨s0, s1, s2, s3⟩ := (BB_2.out).two
          go_simp
          clear s0 s1 s2 s3
          refine hK.out _ _ ?_ (fun hHeldz => ?_)
          · obtain ⟨t5, _⟩ := (((((BC.out.since hc3)).far (p := ⟨y5.heap.size, 0, none⟩) (by have := hB1; have := hCBl; have := hXBl; first | omega | (simp; omega)) (.slice rao R.vs.length rac))).far (p := ⟨y5.heap.size, 1, none⟩) (by have := hB1; have := hCBl; have := hXBl; first | omega | (simp; omega)) (.slice rbo R.es.length rbc)).fiveC
            obtain ⟨u0, u1, _, _⟩ := (((((BX.out.since hc3)).far (p := ⟨y5.heap.size, 0, none⟩) (by have := hB1; have := hCBl; have := hXBl; first | omega | (simp; omega)) (.slice rao R.vs.length rac))).far (p := ⟨y5.heap.size, 1, none⟩) (by have := hB1; have := hCBl; have := hXBl; first | omega | (simp; omega)) (.slice rbo R.es.length rbc)).two
            exact ⟨t5, u0, u1⟩
          clear hK K hHeld3
          try simp only [Act.put, List.setIfInBounds_toArray, List.set_cons_zero, List.set_cons_succ]
          refine take_yes 9 (some 10) (v := ?_) rfl (by kernel_rfl) (by kernel_rfl) (by kernel_rfl) (by kernel_rfl) (fun _ _ _ h => h) (by rfl) (by assumption) ?_ ?_
          rotate_left
          · (intro w' hSw; (try dsimp only at hSw); go_simp; try with_reducible rfl)
          try simp only [Act.put, List.setIfInBounds_toArray, List.set_cons_zero, List.set_cons_succ]
          refine wpAnyH_done (by kernel_rfl) ?_ _
          clear hHeldz
          go_wp2_with fail
          go_meet
          all_goals
            refine ⟨boxIn_mk (y5.heap.size) hB1 ?_ ?_ ((OR.out).far2 ?_) (((BB_2.out).set 0 (.slice rao R.vs.length rac)).set 1 (.slice rbo R.es.length rbc)) (Since.setCell (Since.setCell hc3 (a := ⟨y5.heap.size, 0, none⟩) hB1 (.slice rao R.vs.length rac)) (a := ⟨y5.heap.size, 1, none⟩) hB1 (.slice rbo R.es.length rbc)), rfl⟩
            all_goals (first | omega | (simp; omega) | simp)
      case rest =>
        obtain ⟨hbox, hcc⟩ := hcut
        subst hcc
        obtain ⟨wA, hwA⟩ : ∃ W, W = wc := ⟨_, rfl⟩
        subst hwA
        obtain ⟨rlo, rhi, rB, rao, rac, rbo, rbc, hpp, r0, r1, r2, r3, rO, rK, rS⟩ := hbox
        subst hpp
        have RO := Lib.hid rO
        have RK := Lib.hid rK
        have r5 := rS.size
        have r6 := rK.lt
        have BGA := Lib.hid (BGr.out.since rS)
        have BRA := Lib.hid (BRr.out.since rS)
        have BXA := Lib.hid (BX.out.since rS)
        have hs0A := hs05.trans rS
        clear rO rK rS BGr BRr BX OX BC hs05
        cases C with
        | false =>
          have HA := Lib.hid (app_none ((HAP0.out).trans (HSTOP.out (by rw [HAPS.out]; rfl))))
          clear HAPS HSTEP HSTOP
          obtain ⟨g0, g1, _, _⟩ := BGA.out.two
          go_wp2_with fail
          clear g0 g1
          refine (copyGraph_any _ g _ (HG.out.since hs0A) h1 h2).mono ?_
          rintro en w6 ⟨v6, rfl, ho6, hs6⟩
          have GO6 := Lib.hid ho6
          obtain ⟨ha, hb, rfl, ka, _, kb, _⟩ := ho6
          obtain ⟨hao, hac, rfl⟩ := ka.len
          obtain ⟨hbo, hbc, rfl⟩ := kb.len
          clear ka kb
          have hs06 := hs0A.trans hs6
          obtain ⟨t0, t1, t2, t3⟩ := (BRA.out.since hs6).two
          go_wp2_with fail
          refine bodyPost_ret (v := .tuple #[.agg #[.slice hao g.vs.length hac, .slice hbo g.es.length hbc], .bool false]) (by simp [results, Try.results53, go_sem, *]) rfl ?_
          rw [HA.out.1, HA.out.2]
          exact gb_stored GO6.out (by omega) (by omega) (Nat.le_refl _) (by omega) hs06 _ _
        | true =>
          have HNX : Hid (runC g (cs.take (k + 1)) = some R) := by
            unfold Hid; rw [HSTEP.out, HAPS.out]; rfl
          clear HAPS HSTEP HSTOP
          obtain ⟨g0, g1, _, _⟩ := RK.out.two
          obtain ⟨t0, t1, t2, t3⟩ := BXA.out.two
          have ROz := Lib.hid (RO.out.far2 (B := w1.heap.size) (i := 0) (j := 1) (u := .slice rao R.vs.length rac) (u' := .slice rbo R.es.length rbc) (by omega))
          have BXz := Lib.hid ((BXA.out.set 0 (.slice rao R.vs.length rac)).set 1 (.slice rbo R.es.length rbc))
          have BGz := Lib.hid ((BGA.out.far (p := ⟨w1.heap.size, 0, none⟩) (by simp; omega) (.slice rao R.vs.length rac)).far (p := ⟨w1.heap.size, 1, none⟩) (by simp; omega) (.slice rbo R.es.length rbc))
          have BRz := Lib.hid ((BRA.out.far (p := ⟨w1.heap.size, 0, none⟩) (by simp; omega) (.slice rao R.vs.length rac)).far (p := ⟨w1.heap.size, 1, none⟩) (by simp; omega) (.slice rbo R.es.length rbc))
          have hsz := (hs0A.setCell (a := ⟨w1.heap.size, 0, none⟩) (by simp; omega) (.slice rao R.vs.length rac)).setCell (a := ⟨w1.heap.size, 1, none⟩) (by simp; omega) (.slice rbo R.es.length rbc)
          have hzz : ((wA.setCell ⟨w1.heap.size, 0, none⟩ (.slice rao R.vs.length rac)).setCell ⟨w1.heap.size, 1, none⟩ (.slice rbo R.es.length rbc)).heap.size = wA.heap.size := by simp
          have HREL : Hid (∃ x xao xac xbo xbc lo hi, runC g (cs.take (k + 1)) = some x ∧ Blk ((wA.setCell ⟨w1.heap.size, 0, none⟩ (.slice rao R.vs.length rac)).setCell ⟨w1.heap.size, 1, none⟩ (.slice rbo R.es.length rbc)) w1.heap.size 39 #[.slice xao x.vs.length xac, .slice xbo x.es.length xbc] ∧ OwnG lo hi ((wA.setCell ⟨w1.heap.size, 0, none⟩ (.slice rao R.vs.length rac)).setCell ⟨w1.heap.size, 1, none⟩ (.slice rbo R.es.length rbc)) (.agg #[.slice xao x.vs.length xac, .slice xbo x.es.length xbc]) x ∧ y.heap.size ≤ lo ∧ hi ≤ ((wA.setCell ⟨w1.heap.size, 0, none⟩ (.slice rao R.vs.length rac)).setCell ⟨w1.heap.size, 1, none⟩ (.slice rbo R.es.length rbc)).heap.size ∧ (w1.heap.size < lo ∨ hi ≤ w1.heap.size)) :=
            ⟨R, rao, rac, rbo, rbc, rlo, rhi, HNX.out, BXz.out, ROz.out, by omega, by rw [hzz]; omega, .inl (by omega)⟩
          have hzq : w1.heap.size + 1 ≤ ((wA.setCell ⟨w1.heap.size, 0, none⟩ (.slice rao R.vs.length rac)).setCell ⟨w1.heap.size, 1, none⟩ (.slice rbo R.es.length rbc)).heap.size := by rw [hzz]; omega
          clear hzz
          go_wp2
          go_roundw
          case rel => exact ⟨k + 1, by omega, by go_num, HREL, BGz.out, BRz.out, hsz, hzq⟩
          case measure => simp [intOf]; omega
    · obtain rfl : k = n := by omega
      have HA := Lib.hid (app_some (x := x) (HAP0.out.trans (by have := HRUN.out; rw [List.take_of_length_le (by have := HN.out; omega)] at this; exact this)))
      obtain ⟨q0, q1, _, _⟩ := BXr.out.two
      obtain ⟨t0, t1, t2, t3⟩ := HBR.out.two
      go_wp2_with fail
      refine bodyPost_ret (v := .tuple #[.agg #[.slice xao x.vs.length xac, .slice xbo x.es.length xbc], .bool true]) (by simp [results, Try.results53, go_sem, *]) rfl ?_
      rw [HA.out.1, HA.out.2]
      exact gb_stored2 OXr.out (.inl (by omega)) (by omega) hhi (by omega) hsw _ _
end Go.Proofs.Ytgdeiecbkmhbeaa
