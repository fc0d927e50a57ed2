/- AppendBatch of a history, the program's. -/
import Derived.Test.YtgdeiecbkmhbeaaHam
import Derived.Test.YtgdeiecbkmhbeaaApI
namespace Go.Proofs.Ytgdeiecbkmhbeaa
set_option maxRecDepth 100000
open Go.ChangeShapes Go.WideShapes Go.ChangeAt Go.RowKit
set_option linter.unusedVariables false
set_option linter.unusedSimpArgs false
set_option maxHeartbeats 16000000 in
set_option maxRecDepth 100000 in
theorem implAH_any (v u : Value) (x : Hst) (cs : List Chg) (w : World) (h : HstAt w v x) (hu : BchAt w u cs) (h1 : SmH x) (h3 : cs.length ≤ 1048577) :
    Calls Try.prog 14 #[v, u] w (HBOut w (addH x cs) (addC x cs)) := by
  have HX := Lib.hid h
  have HBT := Lib.hid hu
  obtain ⟨b, rfl, hb⟩ := h
  obtain ⟨bo, bc, rfl, HC⟩ := hb
  obtain ⟨s, rfl, hbs⟩ := hu
  obtain ⟨_, so, sc, rfl, _⟩ := hbs
  obtain ⟨n, hn⟩ : ∃ n, n = x.gs.length := ⟨_, rfl⟩
  have HN := Lib.hid hn
  rw [← hn] at HX ⊢
  clear hn
  obtain ⟨y, hy⟩ : ∃ y, y = ((w.alloc (.cells #[.int .i64 x.f, .slice bo n bc] 26)).alloc (.cells #[.slice so cs.length sc] 29)).alloc (.cells #[.int .i64 0, .slice none 0 0] 26) := ⟨_, rfl⟩
  have hs0 : Since w y := by rw [hy]; exact (((Since.refl w).alloc _).alloc _).alloc _
  have hz : w.heap.size + 1 + 1 + 1 = y.heap.size := by rw [hy]; simp
  have BW : Hid (Blk y w.heap.size 26 #[.int .i64 x.f, .slice bo n bc]) := by rw [hy]; exact ((Blk.new rfl _ _).alloc _).alloc _
  have BB : Hid (Blk y (w.heap.size + 1) 29 #[.slice so cs.length sc]) := by rw [hy]; exact (Blk.new (by simp) _ _).alloc _
  have BR : Hid (Blk y (w.heap.size + 1 + 1) 26 #[.int .i64 0, .slice none 0 0]) := by rw [hy]; exact Blk.new (by simp) _ _
  obtain ⟨p0, p1, _, _⟩ := BW.out.two
  rw [hy] at p0 p1
  go_enter Try.func14, Try.ntmps14
  go_wp2_with fail
  rw [← hy]
  clear hy p0 p1
  refine (copyHistory_any _ x _ (HX.out.since hs0) h1).mono ?_
  rintro en y2 ⟨B, xo, xc, rfl, hB, kB, ko, hs12⟩
  have BX := Lib.hid kB
  have HO := Lib.hid ko
  clear kB ko
  have hs02 := hs0.trans hs12
  have hzw : y.heap.size ≤ y2.heap.size := hs12.size
  obtain ⟨p0, p1, _, _⟩ := (BW.out.since hs12).two
  go_wp2_with fail
  clear p0 p1
  refine (implLV_any _ x _ (HX.out.since hs02) h1).mono ?_
  rintro en w3 ⟨rfl, hs3⟩
  have hcf := hs3
  rcases Bool.eq_false_or_eq_true (validH x) with hvv | hvv
  rotate_left
  · have HR := Lib.hid (addC_inv (cs := cs) hvv)
    rw [latH_zero hvv]
    clear hvv
    obtain ⟨x0, x1, _, _⟩ := (BX.out.since hcf).two
    obtain ⟨r0, r1, r2, r3⟩ := (BR.out.since (hs12.trans hcf)).two
    have hz9 := hcf.size
    have HO9 : Hid (OwnR y.heap.size _ _ (.slice xo x.gs.length xc) x.gs) := (HO.out.since hcf).wider (Nat.le_refl _) hz9
    have hs09 := hs02.trans hcf
    go_wp2
    refine bodyPost_ret (v := .tuple #[.agg #[.int .i64 x.f, .slice xo x.gs.length xc], .bool false]) (by simp [results, Try.results14, go_sem, *]) rfl ?_
    rw [HR.out.2, HR.out.1]
    exact ⟨_, rfl, ⟨_, rfl, (((HO9.out.far (B := w.heap.size + 1 + 1) (.inl (by omega)) 0 (.int .i64 x.f)).far (B := w.heap.size + 1 + 1) (.inl (by omega)) 1 (.slice xo x.gs.length xc)).wider (by omega) (by simp))⟩, (hs09.setCell (by show w.heap.size ≤ w.heap.size + 1 + 1; omega) _).setCell (by show w.heap.size ≤ w.heap.size + 1 + 1; omega) _⟩
  have HVV := Lib.hid hvv
  obtain ⟨_, a1, a2, a3, a4⟩ := validH_parts hvv
  obtain ⟨hlat, hlat1⟩ := latH_pos hvv
  have HLAT := Lib.hid hlat


  by_cases hfull : latH x = 999
  · have HR := Lib.hid (addC_full (cs := cs) hfull)
    have HFU := Lib.hid hfull
    clear hvv hfull hlat
    rw [HFU.out]
    obtain ⟨x0, x1, _, _⟩ := (BX.out.since hcf).two
    obtain ⟨r0, r1, r2, r3⟩ := (BR.out.since (hs12.trans hcf)).two
    have hz9 := hcf.size
    have HO9 : Hid (OwnR y.heap.size _ _ (.slice xo x.gs.length xc) x.gs) := (HO.out.since hcf).wider (Nat.le_refl _) hz9
    have hs09 := hs02.trans hcf
    go_wp2
    refine bodyPost_ret (v := .tuple #[.agg #[.int .i64 x.f, .slice xo x.gs.length xc], .bool false]) (by simp [results, Try.results14, go_sem, *]) rfl ?_
    rw [HR.out.2, HR.out.1]
    exact ⟨_, rfl, ⟨_, rfl, (((HO9.out.far (B := w.heap.size + 1 + 1) (.inl (by omega)) 0 (.int .i64 x.f)).far (B := w.heap.size + 1 + 1) (.inl (by omega)) 1 (.slice xo x.gs.length xc)).wider (by omega) (by simp))⟩, (hs09.setCell (by show w.heap.size ≤ w.heap.size + 1 + 1; omega) _).setCell (by show w.heap.size ≤ w.heap.size + 1 + 1; omega) _⟩
  · obtain ⟨k, hk⟩ : ∃ k, k + 1 = x.gs.length := ⟨x.gs.length - 1, by omega⟩
    have hx : k < x.gs.length := by omega
    have HLG := Lib.hid (lastG_get hk)
    obtain ⟨be, oe, p, q, rfl, hbe, c0, c1, hg⟩ := HC.out k hx
    obtain ⟨vo, vc, eo, ec, rfl, rfl⟩ := grf_shape hg
    have HB0 := Lib.hid (h1.get k hx)
    have HG := Lib.hid hg
    have hkn : k + 1 = n := by have := HN.out; omega
    have HKN := Lib.hid hkn
    have hk1 : (n : Int) - 1 = (k : Int) := by omega
    have hkw : IntKind.i64.wrap (k : Int) = (k : Int) := by rw [IntKind.wrap_i64]; omega
    have kk0 : (0 : Int) ≤ (k : Int) := by omega
    have kk1 : (k : Int) < (n : Int) := by omega
    have kk2 : k < n := by omega
    have hlen : x.gs.length ≤ 2097154 := by omega
    have hne1 : (latH x == 999) = false := by simpa using hfull
    have hne0 : (latH x == 0) = false := by simp; omega
    have HCC := Lib.hid (addC_app (cs := cs) hvv hfull HLG.out)
    clear hvv hfull hlat hg hkn
    generalize x.gs[k] = g at c0 c1 HG HB0 HLG HCC
    obtain ⟨wy, hwy⟩ : ∃ W, W = w3 := ⟨_, rfl⟩
    subst hwy
    have hs0f := hs02.trans hcf
    have hyf := hs12.trans hcf
    have HAB : Hid (∀ W, Since wy W → Calls Try.prog 53 #[.agg #[.slice vo g.vs.length vc, .slice eo g.es.length ec], .agg #[.slice so cs.length sc]] W (GBOut W (appG g cs) (appC g cs))) := fun W hW => implAB_any _ _ g cs W ((HG.out.since hs0f).since hW) ((HBT.out.since hs0f).since hW) HB0.out.1 HB0.out.2 h3
    have HC0 : Hid (w.cell? ⟨be, oe + k * 2, none⟩ = some (.slice vo g.vs.length vc) ∧ w.cell? ⟨be, oe + k * 2 + 1, none⟩ = some (.slice eo g.es.length ec)) := ⟨c0, c1⟩
    have hblt : w.heap.size + 1 < wy.heap.size := by have := hyf.size; omega
    have hbel : be < wy.heap.size := by have := hs0f.size; omega
    have HKC : Hid (∀ w', Since wy w' → w'.cell? ⟨w.heap.size, 1, none⟩ = some (.slice (some ⟨be, oe, none⟩) n bc) ∧ w'.cell? ⟨w.heap.size + 1, 0, none⟩ = some (.slice so cs.length sc) ∧ w'.cell? ⟨be, oe + k * 2, none⟩ = some (.slice vo g.vs.length vc) ∧ w'.cell? ⟨be, oe + k * 2 + 1, none⟩ = some (.slice eo g.es.length ec)) := by
      intro w' hs
      obtain ⟨_, x1, _, _⟩ := (BW.out.since (hyf.trans hs)).two
      obtain ⟨x2, _⟩ := (BB.out.since (hyf.trans hs)).one
      have s1 := since_cells (hs0f.trans hs) hbe
      exact ⟨x1, x2, (s1 _).trans HC0.out.1, (s1 _).trans HC0.out.2⟩
    clear c0 c1
    have HKS : Hid (∀ (w' : World) (G : Nat), Since wy w' → wy.heap.size ≤ G → ∀ (u0 u1 : Value), Since wy ((w'.setCell ⟨G, 0, none⟩ u0).setCell ⟨G, 1, none⟩ u1)) := fun w' G hs hG u0 u1 => (hs.setCell (a := ⟨G, 0, none⟩) hG u0).setCell (a := ⟨G, 1, none⟩) hG u1
    obtain ⟨R, hR⟩ : ∃ R, appG g cs = R := ⟨_, rfl⟩
    rw [hR] at HAB
    have HRA := Lib.hid hR
    clear hR
    generalize appC g cs = C at HAB HCC
    go_upto_region 5 with fail
    go_cut [8, 9] (fun p c wx => BoxIn wy wx p R ∧ c = .bool C)
    case first =>
      go_wp2_with fail
      refine wp_region_held_drew (S := (fun w' => w'.cell? ⟨w.heap.size, 1, none⟩ = some (.slice (some ⟨be, oe, none⟩) n bc) ∧ w'.cell? ⟨w.heap.size + 1, 0, none⟩ = some (.slice so cs.length sc) ∧ w'.cell? ⟨be, oe + k * 2, none⟩ = some (.slice vo g.vs.length vc) ∧ w'.cell? ⟨be, oe + k * 2 + 1, none⟩ = some (.slice eo g.es.length ec))) (by kernel_rfl) (HKC.out _ (Since.refl _).drew) (fun hHeld => ?_)
      refine take_yes 0 (some 24) (v := ?_) rfl (by kernel_rfl) (by kernel_rfl) (by kernel_rfl) (by kernel_rfl) (fun _ _ _ h => h) (by rfl) (by assumption) ?_ ?_
      rotate_left
      · (intro w' hSw; (try dsimp only at hSw); go_simp; try with_reducible rfl)
      try simp only [Act.put, List.setIfInBounds_toArray, List.set_cons_zero, List.set_cons_succ]
      refine take_yes 1 (some 25) (v := ?_) rfl (by kernel_rfl) (by kernel_rfl) (by kernel_rfl) (by kernel_rfl) (fun _ _ _ h => h) (by rfl) (by assumption) ?_ ?_
      rotate_left
      · (intro w' hSw; (try dsimp only at hSw); go_simp; try with_reducible rfl)
      try simp only [Act.put, List.setIfInBounds_toArray, List.set_cons_zero, List.set_cons_succ]
      refine take_yes 2 (some 26) (v := ?_) rfl (by kernel_rfl) (by kernel_rfl) (by kernel_rfl) (by kernel_rfl) (fun _ _ _ h => h) (by rfl) (by assumption) ?_ ?_
      rotate_left
      · (intro w' hSw; (try dsimp only at hSw); go_simp; try with_reducible rfl)
      try simp only [Act.put, List.setIfInBounds_toArray, List.set_cons_zero, List.set_cons_succ]
      refine take_yes 3 (some 27) (v := ?_) rfl (by kernel_rfl) (by kernel_rfl) (by kernel_rfl) (by kernel_rfl) (fun _ _ _ h => h) (by rfl) (by assumption) ?_ ?_
      rotate_left
      · (intro w' hSw; (try dsimp only at hSw); go_simp; try with_reducible rfl)
      try simp only [Act.put, List.setIfInBounds_toArray, List.set_cons_zero, List.set_cons_succ]
      refine take_yes 4 (some 28) (v := ?_) rfl (by kernel_rfl) (by kernel_rfl) (by kernel_rfl) (by kernel_rfl) (fun _ _ _ h => h) (by rfl) (by assumption) ?_ ?_
      rotate_left
      · (intro w' hSw; (try dsimp only at hSw); go_simp; try with_reducible rfl)
      try simp only [Act.put, List.setIfInBounds_toArray, List.set_cons_zero, List.set_cons_succ]
      refine take_yes 5 (some 29) (v := ?_) rfl (by kernel_rfl) (by kernel_rfl) (by kernel_rfl) (by kernel_rfl) (fun _ _ _ h => h) (by rfl) (by assumption) ?_ ?_
      rotate_left
      · (intro w' hSw; (try dsimp only at hSw); go_simp; try with_reducible rfl)
      try simp only [Act.put, List.setIfInBounds_toArray, List.set_cons_zero, List.set_cons_succ]
      refine take_yes 6 (some 30) (v := ?_) rfl (by kernel_rfl) (by kernel_rfl) (by kernel_rfl) (by kernel_rfl) (fun _ _ _ h => h) (by rfl) (by assumption) ?_ ?_
      rotate_left
      · (intro w' hSw; (try dsimp only at hSw); go_simp; try with_reducible rfl)
      try simp only [Act.put, List.setIfInBounds_toArray, List.set_cons_zero, List.set_cons_succ]
      refine take_yes 7 (some 31) (v := ?_) rfl (by kernel_rfl) (by kernel_rfl) (by kernel_rfl) (by kernel_rfl) (fun _ _ _ h => h) (by rfl) (by assumption) ?_ ?_
      rotate_left
      · (intro w' hSw; (try dsimp only at hSw); go_simp; try with_reducible rfl)
      try simp only [Act.put, List.setIfInBounds_toArray, List.set_cons_zero, List.set_cons_succ]
      refine take_yes 8 (some 32) (v := ?_) rfl (by kernel_rfl) (by kernel_rfl) (by kernel_rfl) (by kernel_rfl) (fun _ _ _ h => h) (by rfl) (by assumption) ?_ ?_
      rotate_left
      · (intro w' hSw; (try dsimp only at hSw); go_simp; try with_reducible rfl)
      try simp only [Act.put, List.setIfInBounds_toArray, List.set_cons_zero, List.set_cons_succ]
      refine take_two 9 13 rfl rfl (by kernel_rfl) (by rfl) (by rfl) (fun K hK => ?_) (fun K hK => ?_)
      · skip
        go_simp
        refine (HAB.out _ ((Since.refl wy).drew)).mono ?_
        rintro en q1 ⟨v1, rfl, ho1, hs1⟩
        obtain ⟨ra1, rb1, rfl, ka1, ia1, kb1, ib1⟩ := ho1
        obtain ⟨rao, rac, rfl⟩ := ka1.len
        obtain ⟨rbo, rbc, rfl⟩ := kb1.len
        have OR : Hid (OwnG _ _ _ _ _) := ⟨_, _, rfl, ka1, ia1, kb1, ib1⟩
        clear ka1 ia1 kb1 ib1
        have hlo := Since.lt (Since.refl wy).drew
        have hhi := hs1.size
        have hc1 := Since.trans (Since.refl wy).drew hs1
        refine hK.out _ _ (HKC.out _ hc1) (fun hHeld1 => ?_)
        clear hK K hHeld
        try simp only [Act.put, List.setIfInBounds_toArray, List.set_cons_zero, List.set_cons_succ]
        refine take_yes 10 (some 23) (v := ?_) rfl (by kernel_rfl) (by kernel_rfl) (by kernel_rfl) (by kernel_rfl) (fun _ _ _ h => h) (by rfl) (by assumption) ?_ ?_
        rotate_left
        · (intro w' hSw; (try dsimp only at hSw); go_simp; try with_reducible rfl)
        try simp only [Act.put, List.setIfInBounds_toArray, List.set_cons_zero, List.set_cons_succ]
        refine take_yes 11 (some 34) (v := ?_) rfl (by kernel_rfl) (by kernel_rfl) (by kernel_rfl) (by kernel_rfl) (fun _ _ _ h => h) (by rfl) (by assumption) ?_ ?_
        rotate_left
        · (intro w' hSw; (try dsimp only at hSw); go_simp; try with_reducible rfl)
        try simp only [Act.put, List.setIfInBounds_toArray, List.set_cons_zero, List.set_cons_succ]
        refine take_yes 12 (some 35) (v := ?_) rfl (by kernel_rfl) (by kernel_rfl) (by kernel_rfl) (by kernel_rfl) (fun _ _ _ h => h) (by rfl) (by assumption) ?_ ?_
        rotate_left
        · (intro w' hSw; (try dsimp only at hSw); go_simp; try with_reducible rfl)
        try simp only [Act.put, List.setIfInBounds_toArray, List.set_cons_zero, List.set_cons_succ]
        refine take_run 13 rfl (by kernel_rfl) (by rfl) (fun K hK => ?_)
        go_simp
        have hc2 := Since.alloc hc1 (.cells #[.slice none 0 0, .slice none 0 0] 39)
        have hal2 : Since q1 (q1.alloc (.cells #[.slice none 0 0, .slice none 0 0] 39)) := (Since.refl _).alloc _
        have B2 : Hid (Blk (q1.alloc (.cells #[.slice none 0 0, .slice none 0 0] 39)) (q1.heap.size) 39 #[.slice none 0 0, .slice none 0 0]) := Blk.new (by simp) _ _
        have hB2 : wy.heap.size ≤ q1.heap.size := by have := Since.lt hc1; first | exact this | simpa using this
        have OO_1 := Lib.hid ((OR.out).since hal2)
        refine hK.out _ _ (HKC.out _ hc2) (fun hHeld2 => ?_)
        clear hK K hHeld1
        try simp only [Act.put, List.setIfInBounds_toArray, List.set_cons_zero, List.set_cons_succ]
        refine take_run 14 rfl (by kernel_rfl) (by rfl) (fun K hK => ?_)
        obtain ⟨s0, s1, s2, s3⟩ := (B2.out).two
        go_simp
        clear s0 s1 s2 s3
        have hcf := Since.alloc hc1 (.cells #[.slice rao R.vs.length rac, .slice rbo R.es.length rbc] 39)
        refine hK.out _ _ (HKC.out _ hcf) (fun hHeldz => ?_)
        clear hK K hHeld2
        try simp only [Act.put, List.setIfInBounds_toArray, List.set_cons_zero, List.set_cons_succ]
        refine take_yes 15 (some 9) (v := ?_) rfl (by kernel_rfl) (by kernel_rfl) (by kernel_rfl) (by kernel_rfl) (fun _ _ _ h => h) (by rfl) (by assumption) ?_ ?_
        rotate_left
        · (intro w' hSw; (try dsimp only at hSw); go_simp; try with_reducible rfl)
        try simp only [Act.put, List.setIfInBounds_toArray, List.set_cons_zero, List.set_cons_succ]
        refine wpAnyH_done (by kernel_rfl) ?_ _
        clear hHeldz
        go_wp2_with fail
        go_meet
        all_goals
          refine ⟨boxIn_mk (q1.heap.size) hB2 ?_ ?_ ((OR.out).since ((Since.refl _).alloc (.cells #[.slice rao R.vs.length rac, .slice rbo R.es.length rbc] 39))) (Blk.new (by simp) _ _) hcf, rfl⟩
          all_goals (first | omega | (simp; omega) | simp)
      · skip
        go_simp
        have hc1 := Since.alloc (Since.refl wy).drew (.cells #[.slice none 0 0, .slice none 0 0] 39)
        have hal1 : Since wy.drew (wy.drew.alloc (.cells #[.slice none 0 0, .slice none 0 0] 39)) := (Since.refl _).alloc _
        have B1 : Hid (Blk (wy.drew.alloc (.cells #[.slice none 0 0, .slice none 0 0] 39)) (wy.heap.size) 39 #[.slice none 0 0, .slice none 0 0]) := Blk.new (by simp) _ _
        have hB1 : wy.heap.size ≤ wy.heap.size := by have := Since.lt (Since.refl wy).drew; first | exact this | simpa using this
        refine hK.out _ _ (HKC.out _ hc1) (fun hHeld1 => ?_)
        clear hK K hHeld
        try simp only [Act.put, List.setIfInBounds_toArray, List.set_cons_zero, List.set_cons_succ]
        refine take_run 9 rfl (by kernel_rfl) (by rfl) (fun K hK => ?_)
        go_simp
        refine (HAB.out _ (hc1)).mono ?_
        rintro en q2 ⟨v2, rfl, ho2, hs2⟩
        obtain ⟨ra2, rb2, rfl, ka2, ia2, kb2, ib2⟩ := ho2
        obtain ⟨rao, rac, rfl⟩ := ka2.len
        obtain ⟨rbo, rbc, rfl⟩ := kb2.len
        have OR : Hid (OwnG _ _ _ _ _) := ⟨_, _, rfl, ka2, ia2, kb2, ib2⟩
        clear ka2 ia2 kb2 ib2
        have hlo := Since.lt hc1
        have hhi := hs2.size
        have hc2 := Since.trans hc1 hs2
        have hBl := (B1.out).lt
        have BB_1 := Lib.hid ((B1.out).since hs2)
        refine hK.out _ _ (HKC.out _ hc2) (fun hHeld2 => ?_)
        clear hK K hHeld1
        try simp only [Act.put, List.setIfInBounds_toArray, List.set_cons_zero, List.set_cons_succ]
        refine take_yes 10 (some 23) (v := ?_) rfl (by kernel_rfl) (by kernel_rfl) (by kernel_rfl) (by kernel_rfl) (fun _ _ _ h => h) (by rfl) (by assumption) ?_ ?_
        rotate_left
        · (intro w' hSw; (try dsimp only at hSw); go_simp; try with_reducible rfl)
        try simp only [Act.put, List.setIfInBounds_toArray, List.set_cons_zero, List.set_cons_succ]
        refine take_yes 11 (some 34) (v := ?_) rfl (by kernel_rfl) (by kernel_rfl) (by kernel_rfl) (by kernel_rfl) (fun _ _ _ h => h) (by rfl) (by assumption) ?_ ?_
        rotate_left
        · (intro w' hSw; (try dsimp only at hSw); go_simp; try with_reducible rfl)
        try simp only [Act.put, List.setIfInBounds_toArray, List.set_cons_zero, List.set_cons_succ]
        refine take_yes 12 (some 35) (v := ?_) rfl (by kernel_rfl) (by kernel_rfl) (by kernel_rfl) (by kernel_rfl) (fun _ _ _ h => h) (by rfl) (by assumption) ?_ ?_
        rotate_left
        · (intro w' hSw; (try dsimp only at hSw); go_simp; try with_reducible rfl)
        try simp only [Act.put, List.setIfInBounds_toArray, List.set_cons_zero, List.set_cons_succ]
        refine take_run 14 rfl (by kernel_rfl) (by rfl) (fun K hK => ?_)
        obtain ⟨s0, s1, s2, s3⟩ := (BB_1.out).two
        go_simp
        clear s0 s1 s2 s3
        refine hK.out _ _ (HKC.out _ (HKS.out _ (wy.heap.size) hc2 hB1 _ _)) (fun hHeldz => ?_)
        clear hK K hHeld2
        try simp only [Act.put, List.setIfInBounds_toArray, List.set_cons_zero, List.set_cons_succ]
        refine take_yes 15 (some 9) (v := ?_) rfl (by kernel_rfl) (by kernel_rfl) (by kernel_rfl) (by kernel_rfl) (fun _ _ _ h => h) (by rfl) (by assumption) ?_ ?_
        rotate_left
        · (intro w' hSw; (try dsimp only at hSw); go_simp; try with_reducible rfl)
        try simp only [Act.put, List.setIfInBounds_toArray, List.set_cons_zero, List.set_cons_succ]
        refine wpAnyH_done (by kernel_rfl) ?_ _
        clear hHeldz
        go_wp2_with fail
        go_meet
        all_goals
          refine ⟨boxIn_mk (wy.heap.size) hB1 ?_ ?_ ((OR.out).far2 ?_) (((BB_1.out).set 0 (.slice rao R.vs.length rac)).set 1 (.slice rbo R.es.length rbc)) (Since.setCell (Since.setCell hc2 (a := ⟨wy.heap.size, 0, none⟩) hB1 (.slice rao R.vs.length rac)) (a := ⟨wy.heap.size, 1, none⟩) hB1 (.slice rbo R.es.length rbc)), rfl⟩
          all_goals (first | omega | (simp; omega) | simp)
    case rest =>
      obtain ⟨hbox, hcc⟩ := hcut
      subst hcc
      obtain ⟨wx, hwx⟩ : ∃ W, W = wc := ⟨_, rfl⟩
      subst hwx
      obtain ⟨Tlo, Thi, TB, Tao, Tac, Tbo, Tbc, hpp, Tl0, Tl1, Tl2, Tl3, TO, TK, TS⟩ := hbox
      subst hpp
      have TW := Lib.hid TO
      have TB0 := Lib.hid TK
      clear TO TK
      have TSZ := TS.size
      cases C
      · have HR := Lib.hid (addC_no HCC.out)
        replace hcf := hcf.trans TS
        obtain ⟨x0, x1, _, _⟩ := (BX.out.since hcf).two
        obtain ⟨r0, r1, r2, r3⟩ := (BR.out.since (hs12.trans hcf)).two
        have hz9 := hcf.size
        have HO9 : Hid (OwnR y.heap.size _ _ (.slice xo x.gs.length xc) x.gs) := (HO.out.since hcf).wider (Nat.le_refl _) hz9
        have hs09 := hs02.trans hcf
        go_wp2
        refine bodyPost_ret (v := .tuple #[.agg #[.int .i64 x.f, .slice xo x.gs.length xc], .bool false]) (by simp [results, Try.results14, go_sem, *]) rfl ?_
        rw [HR.out.2, HR.out.1]
        exact ⟨_, rfl, ⟨_, rfl, (((HO9.out.far (B := w.heap.size + 1 + 1) (.inl (by omega)) 0 (.int .i64 x.f)).far (B := w.heap.size + 1 + 1) (.inl (by omega)) 1 (.slice xo x.gs.length xc)).wider (by omega) (by simp))⟩, (hs09.setCell (by show w.heap.size ≤ w.heap.size + 1 + 1; omega) _).setCell (by show w.heap.size ≤ w.heap.size + 1 + 1; omega) _⟩
      · have HR := Lib.hid (addC_yes HCC.out HLG.out)
        rw [HRA.out] at HR
        have BXT := Lib.hid ((BX.out.since hcf).since TS)
        have hz6 := hcf.size
        have HOT : Hid (OwnR y.heap.size y2.heap.size wx (.slice xo x.gs.length xc) x.gs) := (HO.out.since hcf).since TS
        have HGT : Hid (OwnG y2.heap.size wx.heap.size wx (.agg #[.slice Tao R.vs.length Tac, .slice Tbo R.es.length Tbc]) R) := TW.out.wider (by omega) (by omega)
        have hs1x : Since y wx := hs12.trans (hcf.trans TS)
        obtain ⟨g0, g1, _, _⟩ := TB0.out.two
        go_wp2_with fail
        clear g0 g1
        refine (appendGraph_any B x.f y.heap.size y2.heap.size _ x.gs _ _ _ _ _ _ R _ BXT.out HOT.out hzw (by have := TS.size; omega) HGT.out (by omega) (by omega) (by omega)).mono ?_
        rintro en w6 ⟨rfl, v6, k6, o6, r6⟩
        have hs16 : Since y w6 := r6.1 y hs1x hB (Nat.le_refl _)
        have hcz0 := hs0.trans hs16
        have HL : Hid (addL ⟨x.f, x.gs⟩ R = addL x R) := by unfold Hid; rfl
        rw [HL.out] at k6 o6
        have KB6 := Lib.hid k6
        have KO6 := Lib.hid o6
        clear k6 o6
        obtain ⟨s6, c6, rfl⟩ := KO6.out.len
        obtain ⟨n6, hn6⟩ : ∃ q, (addL x R).gs.length = q := ⟨_, rfl⟩
        obtain ⟨f6, hf6⟩ : ∃ q, (addL x R).f = q := ⟨_, rfl⟩
        have HF6 := Lib.hid hf6
        rw [hn6] at KB6 KO6
        rw [hf6] at KB6
        clear hn6 hf6
        obtain ⟨x0, x1, _, _⟩ := KB6.out.two
        obtain ⟨r0, r1, r2, r3⟩ := (BR.out.since hs16).two
        have hzz := hs16.size
        go_wp2
        refine bodyPost_ret (v := .tuple #[.agg #[.int .i64 f6, .slice s6 n6 c6], .bool true]) (by simp [results, Try.results14, go_sem, *]) rfl ?_
        rw [HR.out.2]
        exact hb_stored HR.out.1 KO6.out (.inl (by omega)) (by omega) (Nat.le_refl _) (by omega) hcz0 HF6.out.symm _ _
end Go.Proofs.Ytgdeiecbkmhbeaa
