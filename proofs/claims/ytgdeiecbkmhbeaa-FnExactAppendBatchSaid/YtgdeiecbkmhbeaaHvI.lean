/- The program's IsValidHistory. -/
import Derived.Test.YtgdeiecbkmhbeaaHsL
import Derived.Test.YtgdeiecbkmhbeaaK2
import Derived.Test.YtgdeiecbkmhbeaaEqG
import Derived.Test.YtgdeiecbkmhbeaaK1
namespace Go.Proofs.Ytgdeiecbkmhbeaa
set_option maxRecDepth 100000
open Go.ChangeShapes Go.WideShapes Go.ChangeAt Go.RowKit
set_option linter.unusedVariables false
set_option linter.unusedSimpArgs false

set_option maxHeartbeats 2000000 in
set_option maxRecDepth 100000 in
theorem implVH_any (v : Value) (x : Hst) (w : World) (h : HstAt w v x) (h1 : SmH x) :
    Calls Try.prog 17 #[v] w fun e w' => e = .returned (.bool (validH x)) ∧ Since w w' := by
  obtain ⟨b, rfl, hb⟩ := h
  obtain ⟨bo, bc, rfl, HC⟩ := hb
  have HSM := Lib.hid h1
  obtain ⟨n, hn⟩ : ∃ n, n = x.gs.length := ⟨_, rfl⟩
  have hn9 : n ≤ 1048577 := by have := h1.1; omega
  have HN := Lib.hid hn
  rw [← hn]
  clear hn h1
  obtain ⟨y, hy⟩ : ∃ y, y = w.alloc (.cells #[.int .i64 x.f, .slice bo n bc] 26) := ⟨_, rfl⟩
  have hs0 : Since w y := by rw [hy]; exact (Since.refl w).alloc _
  have BW : Hid (Blk y w.heap.size 26 #[.int .i64 x.f, .slice bo n bc]) := by rw [hy]; exact Blk.new rfl _ _
  have HF : Hid (∀ P : Prop, (validH x = true → P) → ¬ (1 ≤ n ∧ n ≤ 8 ∧ 1 ≤ x.f ∧ x.f + (n : Int) ≤ 1000) → validH x = false) := fun P _ hne => by
    rcases Bool.eq_false_or_eq_true (validH x) with hv | hv
    · obtain ⟨_, a1, a2, a3, a4⟩ := validH_parts hv
      have := HN.out
      exact absurd ⟨by omega, by omega, by omega, by omega⟩ hne
    · exact hv
  obtain ⟨p0, p1, _, _⟩ := BW.out.two
  rw [hy] at p0 p1
  by_cases hl : 1 ≤ n ∧ n ≤ 8
  rotate_left
  · have HR := Lib.hid (HF.out True (fun _ => trivial) (by omega))
    by_cases hl1 : n < 1
    · have hn0 : (n : Int) < 1 := by omega
      have hd : decide ((n : Int) < 1) = true := by simpa using hn0
      go_enter Try.func17, Try.ntmps17
      go_wp2
      go_ret
      exact ⟨ret_bool HR.out.symm, (Since.refl w).alloc _⟩
    · have hn0 : ¬ (n : Int) < 1 := by omega
      have hd : decide ((n : Int) < 1) = false := by simp; omega
      have hn8 : (8 : Int) < (n : Int) := by omega
      have hd8 : decide ((8 : Int) < (n : Int)) = true := by simpa using hn8
      go_enter Try.func17, Try.ntmps17
      go_wp2
      go_ret
      exact ⟨ret_bool HR.out.symm, (Since.refl w).alloc _⟩
  have hn0 : ¬ (n : Int) < 1 := by omega
  have hd : decide ((n : Int) < 1) = false := by simp; omega
  have hn8 : ¬ (8 : Int) < (n : Int) := by omega
  have hd8 : decide ((8 : Int) < (n : Int)) = false := by simp; omega
  by_cases hf : 1 ≤ x.f ∧ x.f + (n : Int) ≤ 1000
  rotate_left
  · have HR := Lib.hid (HF.out True (fun _ => trivial) (by omega))
    by_cases hf1 : x.f < 1
    · have hdf : decide (x.f < 1) = true := by simpa using hf1
      go_enter Try.func17, Try.ntmps17
      go_wp2
      go_ret
      exact ⟨ret_bool HR.out.symm, (Since.refl w).alloc _⟩
    · have hdf : decide (x.f < 1) = false := by simp; omega
      have hf2 : (999 : Int) - ((n : Int) - 1) < x.f := by omega
      have hd9 : decide ((999 : Int) - ((n : Int) - 1) < x.f) = true := by simpa using hf2
      go_enter Try.func17, Try.ntmps17
      go_wp2
      go_ret
      exact ⟨ret_bool HR.out.symm, (Since.refl w).alloc _⟩
  have hf1 : ¬ x.f < 1 := by omega
  have hdf : decide (x.f < 1) = false := by simp; omega
  have hf2 : ¬ (999 : Int) - ((n : Int) - 1) < x.f := by omega
  have hd9 : decide ((999 : Int) - ((n : Int) - 1) < x.f) = false := by simp; omega
  have HRNG : Hid (inB (n : Int) 1 8 = true ∧ inB x.f 1 (999 - (n : Int) + 1) = true) := ⟨inB_true (by omega) (by omega), inB_true (by omega) (by omega)⟩
  have kk3 : 0 < n := by omega
  clear HF
  go_enter Try.func17, Try.ntmps17
  go_wp2_with fail
  rw [← hy]
  clear hy p0 p1 hf hl hf1 hf2 hdf hd9 hd hn0 hn8 hd8
  go_loopw [31] (fun i wr => ∃ k : Nat, k ≤ n ∧ i = .int .i64 k ∧ Hid (∀ j (hj : j < x.gs.length), j < k → goodG x.gs x.gs[j] = true) ∧ Since y wr) (fun i _ => n - (intOf i).toNat)
  case atStart => exact ⟨0, Nat.zero_le _, rfl, fun j hj h => by omega, Since.refl y⟩
  case round =>
    obtain ⟨k, hk, rfl, HT, hsw⟩ := hrel
    have hs0w := hs0.trans hsw
    by_cases hlt : k < n
    · have hx : k < x.gs.length := by have := HN.out; omega
      have hx0 : 0 < x.gs.length := by omega
      obtain ⟨be, oe, p, q, rfl, hbe, c0, c1, hg⟩ := HC.out k hx
      obtain ⟨vo, vc, eo, ec, rfl, rfl⟩ := grf_shape hg
      obtain ⟨be2, oe2, p2, r2, e2, _, z0, z1, hg2⟩ := HC.out 0 hx0
      obtain ⟨vo2, vc2, eo2, ec2, rfl, rfl⟩ := grf_shape hg2
      injection e2 with e2; injection e2 with e2 e3
      subst e2; subst e3
      rw [Nat.zero_mul, Nat.add_zero] at z0
      have HG := Lib.hid hg
      have HG2 : Hid (IntsAt w (.slice vo2 (x.gs[0]).vs.length vc2) (x.gs[0]).vs) := by
        obtain ⟨a, b, e, ha, _⟩ := hg2
        injection e with e; injection e with e; injection e with e1 e2
        subst e1; exact ha
      have HGV : Hid (IntsAt w (.slice vo (x.gs[k]).vs.length vc) (x.gs[k]).vs) := by
        obtain ⟨a, b, e, ha, _⟩ := hg
        injection e with e; injection e with e; injection e with e1 e2
        subst e1; exact ha
      have HB0 := Lib.hid (HSM.out.get k hx)
      have HB2 := Lib.hid (HSM.out.get 0 hx0)
      have HBAD := Lib.hid (validH_bad (h := x) k hx)
      have HSTEP : Hid (goodG x.gs x.gs[k] = true → ∀ j (hj : j < x.gs.length), j < k + 1 → goodG x.gs x.gs[j] = true) := fun hgk j hj hjk => by
        by_cases e : j = k
        · subst e; exact hgk
        · exact HT.out j hj (by omega)
      have HH0 := Lib.hid (hd0_get hx0)
      clear hg hg2 z1
      have s1 := since_cells hs0w hbe
      rw [← s1] at c0 c1 z0
      clear s1
      generalize x.gs[k] = g at c0 c1 HG HGV HB0 HBAD HSTEP
      generalize x.gs[0] = g0 at z0 HG2 HB2 HH0
      have kk0 : (0 : Int) ≤ (k : Int) := by omega
      have kk1 : (k : Int) < (n : Int) := by omega
      have kk2 : (0 : Int) < (n : Int) := by omega
      obtain ⟨CB, hCB⟩ : ∃ CB, CB = wr.heap.size := ⟨_, rfl⟩
      obtain ⟨y5, hy5⟩ : ∃ y5, y5 = wr.alloc (.cells #[.slice vo g.vs.length vc, .slice eo g.es.length ec] 39) := ⟨_, rfl⟩
      have hs5 : Since wr y5 := by rw [hy5]; exact (Since.refl wr).alloc _
      have BC : Hid (Blk y5 CB 39 #[.slice vo g.vs.length vc, .slice eo g.es.length ec]) := by rw [hy5]; exact Blk.new hCB _ _
      have HZ0 := Lib.hid z0
      have HBE : Hid (be < wr.heap.size) := Nat.lt_of_lt_of_le hbe hs0w.size
      have HKC : Hid (∀ w', Since y5 w' → w'.cell? ⟨CB, 0, none⟩ = some (.slice vo g.vs.length vc) ∧ w'.cell? ⟨CB, 1, none⟩ = some (.slice eo g.es.length ec) ∧ w'.cell? ⟨w.heap.size, 1, none⟩ = some (.slice (some ⟨be, oe, none⟩) n bc) ∧ w'.cell? ⟨be, oe, none⟩ = some (.slice vo2 g0.vs.length vc2)) := by
        intro w' hs
        obtain ⟨x0, x1, _, _⟩ := (BC.out.since hs).two
        obtain ⟨_, y1, _, _⟩ := (BW.out.since ((hsw.trans hs5).trans hs)).two
        have s1 := since_cells (hs5.trans hs) HBE.out
        exact ⟨x0, x1, y1, (s1 _).trans HZ0.out⟩
      have hs0y := hs0w.trans hs5
      have hswy := hsw.trans hs5
      clear z0
      rcases Bool.eq_false_or_eq_true (validB g) with hv | hv
      rotate_left
      · have HV := Lib.hid hv
        have HR := Lib.hid (HBAD.out (by unfold goodG; rw [hv]; rfl))
        clear hv
        go_wp2_with fail
        rw [← hy5, ← hCB]
        clear hy5 hCB c0 c1
        refine wp_region_held_drew (S := (fun w' => w'.cell? ⟨CB, 0, none⟩ = some (.slice vo g.vs.length vc) ∧ w'.cell? ⟨CB, 1, none⟩ = some (.slice eo g.es.length ec) ∧ w'.cell? ⟨w.heap.size, 1, none⟩ = some (.slice (some ⟨be, oe, none⟩) n bc) ∧ w'.cell? ⟨be, oe, none⟩ = some (.slice vo2 g0.vs.length vc2))) (by kernel_rfl) (HKC.out _ (Since.refl _).drew) (fun hHeld => ?_)
        refine take_yes 0 (some 35) (v := ?_) rfl (by kernel_rfl) (by kernel_rfl) (by kernel_rfl) (by kernel_rfl) (fun _ _ _ h => h) (by rfl) (by assumption) ?_ ?_
        rotate_left
        · (intro w' hSw; (try dsimp only at hSw); go_simp; try with_reducible rfl)
        try simp only [Act.put, List.setIfInBounds_toArray, List.set_cons_zero, List.set_cons_succ]
        refine take_run 1 rfl (by kernel_rfl) (by rfl) (fun K hK => ?_)
        go_simp
        refine (implVG_any _ g _ (HG.out.since (hs0y.drew)) HB0.out.1 HB0.out.2).mono ?_
        rintro en w6 ⟨rfl, hs6⟩
        rw [HV.out]
        have hc6 := (Since.refl y5).drew.trans hs6
        refine hK.out _ _ (HKC.out _ hc6) (fun hHeld1 => ?_)
        clear hK K hHeld
        try simp only [Act.put, List.setIfInBounds_toArray, List.set_cons_zero, List.set_cons_succ]
        refine take_yes 2 (some 37) (v := ?_) rfl (by kernel_rfl) (by kernel_rfl) (by kernel_rfl) (by kernel_rfl) (fun _ _ _ h => h) (by rfl) (by assumption) ?_ ?_
        rotate_left
        · (intro w' hSw; (try dsimp only at hSw); go_simp; try with_reducible rfl)
        try simp only [Act.put, List.setIfInBounds_toArray, List.set_cons_zero, List.set_cons_succ]
        refine take_yes 3 (some 38) (v := ?_) rfl (by kernel_rfl) (by kernel_rfl) (by kernel_rfl) (by kernel_rfl) (fun _ _ _ h => h) (by rfl) (by assumption) ?_ ?_
        rotate_left
        · (intro w' hSw; (try dsimp only at hSw); go_simp; try with_reducible rfl)
        try simp only [Act.put, List.setIfInBounds_toArray, List.set_cons_zero, List.set_cons_succ]
        refine take_no 4 (some 39) rfl (by kernel_rfl) (by kernel_rfl) (by kernel_rfl) (by kernel_rfl) (fun _ _ _ h => h) (by rfl) (by assumption) ?_
        try simp only [Act.put, List.setIfInBounds_toArray, List.set_cons_zero, List.set_cons_succ]
        refine take_no 5 (some 40) rfl (by kernel_rfl) (by kernel_rfl) (by kernel_rfl) (by kernel_rfl) (fun _ _ _ h => h) (by rfl) (by assumption) ?_
        try simp only [Act.put, List.setIfInBounds_toArray, List.set_cons_zero, List.set_cons_succ]
        refine take_no 6 (some 41) rfl (by kernel_rfl) (by kernel_rfl) (by kernel_rfl) (by kernel_rfl) (fun _ _ _ h => h) (by rfl) (by assumption) ?_
        try simp only [Act.put, List.setIfInBounds_toArray, List.set_cons_zero, List.set_cons_succ]
        refine take_no 7 (some 42) rfl (by kernel_rfl) (by kernel_rfl) (by kernel_rfl) (by kernel_rfl) (fun _ _ _ h => h) (by rfl) (by assumption) ?_
        try simp only [Act.put, List.setIfInBounds_toArray, List.set_cons_zero, List.set_cons_succ]
        refine take_no 8 (some 43) rfl (by kernel_rfl) (by kernel_rfl) (by kernel_rfl) (by kernel_rfl) (fun _ _ _ h => h) (by rfl) (by assumption) ?_
        try simp only [Act.put, List.setIfInBounds_toArray, List.set_cons_zero, List.set_cons_succ]
        refine take_no 9 (some 44) rfl (by kernel_rfl) (by kernel_rfl) (by kernel_rfl) (by kernel_rfl) (fun _ _ _ h => h) (by rfl) (by assumption) ?_
        try simp only [Act.put, List.setIfInBounds_toArray, List.set_cons_zero, List.set_cons_succ]
        refine take_no 10 (some 45) rfl (by kernel_rfl) (by kernel_rfl) (by kernel_rfl) (by kernel_rfl) (fun _ _ _ h => h) (by rfl) (by assumption) ?_
        try simp only [Act.put, List.setIfInBounds_toArray, List.set_cons_zero, List.set_cons_succ]
        refine take_no 11 (some 46) rfl (by kernel_rfl) (by kernel_rfl) (by kernel_rfl) (by kernel_rfl) (fun _ _ _ h => h) (by rfl) (by assumption) ?_
        try simp only [Act.put, List.setIfInBounds_toArray, List.set_cons_zero, List.set_cons_succ]
        refine take_no 12 (some 47) rfl (by kernel_rfl) (by kernel_rfl) (by kernel_rfl) (by kernel_rfl) (fun _ _ _ h => h) (by rfl) (by assumption) ?_
        try simp only [Act.put, List.setIfInBounds_toArray, List.set_cons_zero, List.set_cons_succ]
        refine take_yes 13 (some 48) (v := ?_) rfl (by kernel_rfl) (by kernel_rfl) (by kernel_rfl) (by kernel_rfl) (fun _ _ _ h => h) (by rfl) (by assumption) ?_ ?_
        rotate_left
        · (intro w' hSw; (try dsimp only at hSw); go_simp; try with_reducible rfl)
        try simp only [Act.put, List.setIfInBounds_toArray, List.set_cons_zero, List.set_cons_succ]
        refine wpAnyH_done (by kernel_rfl) ?_ _
        clear hHeld1 HKC
        have hsf := hs0y.trans hc6
        go_wp2
        go_ret
        exact ⟨ret_bool HR.out.symm, hsf⟩
      · have HV := Lib.hid hv
        obtain ⟨z, hz⟩ : ∃ z, z = decide (g.vs = g0.vs) := ⟨_, rfl⟩
        have HZ := Lib.hid hz
        have HGD : Hid (goodG x.gs g = z) := by unfold Hid goodG; rw [hv, HH0.out, hz]; rfl
        clear hv hz
        cases z
        · have HR := Lib.hid (HBAD.out HGD.out)
          go_wp2_with fail
          rw [← hy5, ← hCB]
          clear hy5 hCB c0 c1
          refine wp_region_held_drew (S := (fun w' => w'.cell? ⟨CB, 0, none⟩ = some (.slice vo g.vs.length vc) ∧ w'.cell? ⟨CB, 1, none⟩ = some (.slice eo g.es.length ec) ∧ w'.cell? ⟨w.heap.size, 1, none⟩ = some (.slice (some ⟨be, oe, none⟩) n bc) ∧ w'.cell? ⟨be, oe, none⟩ = some (.slice vo2 g0.vs.length vc2))) (by kernel_rfl) (HKC.out _ (Since.refl _).drew) (fun hHeld => ?_)
          refine take_yes 0 (some 35) (v := ?_) rfl (by kernel_rfl) (by kernel_rfl) (by kernel_rfl) (by kernel_rfl) (fun _ _ _ h => h) (by rfl) (by assumption) ?_ ?_
          rotate_left
          · (intro w' hSw; (try dsimp only at hSw); go_simp; try with_reducible rfl)
          try simp only [Act.put, List.setIfInBounds_toArray, List.set_cons_zero, List.set_cons_succ]
          refine take_run 1 rfl (by kernel_rfl) (by rfl) (fun K hK => ?_)
          go_simp
          refine (implVG_any _ g _ (HG.out.since (hs0y.drew)) HB0.out.1 HB0.out.2).mono ?_
          rintro en w6 ⟨rfl, hs6⟩
          rw [HV.out]
          have hc6 := (Since.refl y5).drew.trans hs6
          refine hK.out _ _ (HKC.out _ hc6) (fun hHeld1 => ?_)
          clear hK K hHeld
          try simp only [Act.put, List.setIfInBounds_toArray, List.set_cons_zero, List.set_cons_succ]
          refine take_yes 2 (some 37) (v := ?_) rfl (by kernel_rfl) (by kernel_rfl) (by kernel_rfl) (by kernel_rfl) (fun _ _ _ h => h) (by rfl) (by assumption) ?_ ?_
          rotate_left
          · (intro w' hSw; (try dsimp only at hSw); go_simp; try with_reducible rfl)
          try simp only [Act.put, List.setIfInBounds_toArray, List.set_cons_zero, List.set_cons_succ]
          refine take_yes 3 (some 38) (v := ?_) rfl (by kernel_rfl) (by kernel_rfl) (by kernel_rfl) (by kernel_rfl) (fun _ _ _ h => h) (by rfl) (by assumption) ?_ ?_
          rotate_left
          · (intro w' hSw; (try dsimp only at hSw); go_simp; try with_reducible rfl)
          try simp only [Act.put, List.setIfInBounds_toArray, List.set_cons_zero, List.set_cons_succ]
          refine take_yes 4 (some 39) (v := ?_) rfl (by kernel_rfl) (by kernel_rfl) (by kernel_rfl) (by kernel_rfl) (fun _ _ _ h => h) (by rfl) (by assumption) ?_ ?_
          rotate_left
          · (intro w' hSw; (try dsimp only at hSw); go_simp; try with_reducible rfl)
          try simp only [Act.put, List.setIfInBounds_toArray, List.set_cons_zero, List.set_cons_succ]
          refine take_yes 5 (some 40) (v := ?_) rfl (by kernel_rfl) (by kernel_rfl) (by kernel_rfl) (by kernel_rfl) (fun _ _ _ h => h) (by rfl) (by assumption) ?_ ?_
          rotate_left
          · (intro w' hSw; (try dsimp only at hSw); go_simp; try with_reducible rfl)
          try simp only [Act.put, List.setIfInBounds_toArray, List.set_cons_zero, List.set_cons_succ]
          refine take_yes 6 (some 41) (v := ?_) rfl (by kernel_rfl) (by kernel_rfl) (by kernel_rfl) (by kernel_rfl) (fun _ _ _ h => h) (by rfl) (by assumption) ?_ ?_
          rotate_left
          · (intro w' hSw; (try dsimp only at hSw); go_simp; try with_reducible rfl)
          try simp only [Act.put, List.setIfInBounds_toArray, List.set_cons_zero, List.set_cons_succ]
          refine take_yes 7 (some 42) (v := ?_) rfl (by kernel_rfl) (by kernel_rfl) (by kernel_rfl) (by kernel_rfl) (fun _ _ _ h => h) (by rfl) (by assumption) ?_ ?_
          rotate_left
          · (intro w' hSw; (try dsimp only at hSw); go_simp; try with_reducible rfl)
          try simp only [Act.put, List.setIfInBounds_toArray, List.set_cons_zero, List.set_cons_succ]
          refine take_yes 8 (some 43) (v := ?_) rfl (by kernel_rfl) (by kernel_rfl) (by kernel_rfl) (by kernel_rfl) (fun _ _ _ h => h) (by rfl) (by assumption) ?_ ?_
          rotate_left
          · (intro w' hSw; (try dsimp only at hSw); go_simp; try with_reducible rfl)
          try simp only [Act.put, List.setIfInBounds_toArray, List.set_cons_zero, List.set_cons_succ]
          refine take_yes 9 (some 44) (v := ?_) rfl (by kernel_rfl) (by kernel_rfl) (by kernel_rfl) (by kernel_rfl) (fun _ _ _ h => h) (by rfl) (by assumption) ?_ ?_
          rotate_left
          · (intro w' hSw; (try dsimp only at hSw); go_simp; try with_reducible rfl)
          try simp only [Act.put, List.setIfInBounds_toArray, List.set_cons_zero, List.set_cons_succ]
          refine take_yes 10 (some 45) (v := ?_) rfl (by kernel_rfl) (by kernel_rfl) (by kernel_rfl) (by kernel_rfl) (fun _ _ _ h => h) (by rfl) (by assumption) ?_ ?_
          rotate_left
          · (intro w' hSw; (try dsimp only at hSw); go_simp; try with_reducible rfl)
          try simp only [Act.put, List.setIfInBounds_toArray, List.set_cons_zero, List.set_cons_succ]
          refine take_run 11 rfl (by kernel_rfl) (by rfl) (fun K hK => ?_)
          go_simp
          refine (slicesEqual_ints _ _ g.vs g0.vs _ (HGV.out.since (hs0y.trans hc6)) (HG2.out.since (hs0y.trans hc6)) (by have := HB0.out.1; omega) (by have := HB2.out.1; omega)).mono ?_
          rintro en w7 ⟨rfl, hs7⟩
          rw [← HZ.out]
          have hc7 := hc6.trans hs7
          refine hK.out _ _ (HKC.out _ hc7) (fun hHeld2 => ?_)
          clear hK K hHeld1
          try simp only [Act.put, List.setIfInBounds_toArray, List.set_cons_zero, List.set_cons_succ]
          refine take_yes 12 (some 47) (v := ?_) rfl (by kernel_rfl) (by kernel_rfl) (by kernel_rfl) (by kernel_rfl) (fun _ _ _ h => h) (by rfl) (by assumption) ?_ ?_
          rotate_left
          · (intro w' hSw; (try dsimp only at hSw); go_simp; try with_reducible rfl)
          try simp only [Act.put, List.setIfInBounds_toArray, List.set_cons_zero, List.set_cons_succ]
          refine take_yes 13 (some 48) (v := ?_) rfl (by kernel_rfl) (by kernel_rfl) (by kernel_rfl) (by kernel_rfl) (fun _ _ _ h => h) (by rfl) (by assumption) ?_ ?_
          rotate_left
          · (intro w' hSw; (try dsimp only at hSw); go_simp; try with_reducible rfl)
          try simp only [Act.put, List.setIfInBounds_toArray, List.set_cons_zero, List.set_cons_succ]
          refine wpAnyH_done (by kernel_rfl) ?_ _
          clear hHeld2 HKC
          have hsf := hs0y.trans hc7
          go_wp2
          go_ret
          exact ⟨ret_bool HR.out.symm, hsf⟩
        · have HR := Lib.hid (HSTEP.out HGD.out)
          go_wp2_with fail
          rw [← hy5, ← hCB]
          clear hy5 hCB c0 c1
          refine wp_region_held_drew (S := (fun w' => w'.cell? ⟨CB, 0, none⟩ = some (.slice vo g.vs.length vc) ∧ w'.cell? ⟨CB, 1, none⟩ = some (.slice eo g.es.length ec) ∧ w'.cell? ⟨w.heap.size, 1, none⟩ = some (.slice (some ⟨be, oe, none⟩) n bc) ∧ w'.cell? ⟨be, oe, none⟩ = some (.slice vo2 g0.vs.length vc2))) (by kernel_rfl) (HKC.out _ (Since.refl _).drew) (fun hHeld => ?_)
          refine take_yes 0 (some 35) (v := ?_) rfl (by kernel_rfl) (by kernel_rfl) (by kernel_rfl) (by kernel_rfl) (fun _ _ _ h => h) (by rfl) (by assumption) ?_ ?_
          rotate_left
          · (intro w' hSw; (try dsimp only at hSw); go_simp; try with_reducible rfl)
          try simp only [Act.put, List.setIfInBounds_toArray, List.set_cons_zero, List.set_cons_succ]
          refine take_run 1 rfl (by kernel_rfl) (by rfl) (fun K hK => ?_)
          go_simp
          refine (implVG_any _ g _ (HG.out.since (hs0y.drew)) HB0.out.1 HB0.out.2).mono ?_
          rintro en w6 ⟨rfl, hs6⟩
          rw [HV.out]
          have hc6 := (Since.refl y5).drew.trans hs6
          refine hK.out _ _ (HKC.out _ hc6) (fun hHeld1 => ?_)
          clear hK K hHeld
          try simp only [Act.put, List.setIfInBounds_toArray, List.set_cons_zero, List.set_cons_succ]
          refine take_yes 2 (some 37) (v := ?_) rfl (by kernel_rfl) (by kernel_rfl) (by kernel_rfl) (by kernel_rfl) (fun _ _ _ h => h) (by rfl) (by assumption) ?_ ?_
          rotate_left
          · (intro w' hSw; (try dsimp only at hSw); go_simp; try with_reducible rfl)
          try simp only [Act.put, List.setIfInBounds_toArray, List.set_cons_zero, List.set_cons_succ]
          refine take_yes 3 (some 38) (v := ?_) rfl (by kernel_rfl) (by kernel_rfl) (by kernel_rfl) (by kernel_rfl) (fun _ _ _ h => h) (by rfl) (by assumption) ?_ ?_
          rotate_left
          · (intro w' hSw; (try dsimp only at hSw); go_simp; try with_reducible rfl)
          try simp only [Act.put, List.setIfInBounds_toArray, List.set_cons_zero, List.set_cons_succ]
          refine take_yes 4 (some 39) (v := ?_) rfl (by kernel_rfl) (by kernel_rfl) (by kernel_rfl) (by kernel_rfl) (fun _ _ _ h => h) (by rfl) (by assumption) ?_ ?_
          rotate_left
          · (intro w' hSw; (try dsimp only at hSw); go_simp; try with_reducible rfl)
          try simp only [Act.put, List.setIfInBounds_toArray, List.set_cons_zero, List.set_cons_succ]
          refine take_yes 5 (some 40) (v := ?_) rfl (by kernel_rfl) (by kernel_rfl) (by kernel_rfl) (by kernel_rfl) (fun _ _ _ h => h) (by rfl) (by assumption) ?_ ?_
          rotate_left
          · (intro w' hSw; (try dsimp only at hSw); go_simp; try with_reducible rfl)
          try simp only [Act.put, List.setIfInBounds_toArray, List.set_cons_zero, List.set_cons_succ]
          refine take_yes 6 (some 41) (v := ?_) rfl (by kernel_rfl) (by kernel_rfl) (by kernel_rfl) (by kernel_rfl) (fun _ _ _ h => h) (by rfl) (by assumption) ?_ ?_
          rotate_left
          · (intro w' hSw; (try dsimp only at hSw); go_simp; try with_reducible rfl)
          try simp only [Act.put, List.setIfInBounds_toArray, List.set_cons_zero, List.set_cons_succ]
          refine take_yes 7 (some 42) (v := ?_) rfl (by kernel_rfl) (by kernel_rfl) (by kernel_rfl) (by kernel_rfl) (fun _ _ _ h => h) (by rfl) (by assumption) ?_ ?_
          rotate_left
          · (intro w' hSw; (try dsimp only at hSw); go_simp; try with_reducible rfl)
          try simp only [Act.put, List.setIfInBounds_toArray, List.set_cons_zero, List.set_cons_succ]
          refine take_yes 8 (some 43) (v := ?_) rfl (by kernel_rfl) (by kernel_rfl) (by kernel_rfl) (by kernel_rfl) (fun _ _ _ h => h) (by rfl) (by assumption) ?_ ?_
          rotate_left
          · (intro w' hSw; (try dsimp only at hSw); go_simp; try with_reducible rfl)
          try simp only [Act.put, List.setIfInBounds_toArray, List.set_cons_zero, List.set_cons_succ]
          refine take_yes 9 (some 44) (v := ?_) rfl (by kernel_rfl) (by kernel_rfl) (by kernel_rfl) (by kernel_rfl) (fun _ _ _ h => h) (by rfl) (by assumption) ?_ ?_
          rotate_left
          · (intro w' hSw; (try dsimp only at hSw); go_simp; try with_reducible rfl)
          try simp only [Act.put, List.setIfInBounds_toArray, List.set_cons_zero, List.set_cons_succ]
          refine take_yes 10 (some 45) (v := ?_) rfl (by kernel_rfl) (by kernel_rfl) (by kernel_rfl) (by kernel_rfl) (fun _ _ _ h => h) (by rfl) (by assumption) ?_ ?_
          rotate_left
          · (intro w' hSw; (try dsimp only at hSw); go_simp; try with_reducible rfl)
          try simp only [Act.put, List.setIfInBounds_toArray, List.set_cons_zero, List.set_cons_succ]
          refine take_run 11 rfl (by kernel_rfl) (by rfl) (fun K hK => ?_)
          go_simp
          refine (slicesEqual_ints _ _ g.vs g0.vs _ (HGV.out.since (hs0y.trans hc6)) (HG2.out.since (hs0y.trans hc6)) (by have := HB0.out.1; omega) (by have := HB2.out.1; omega)).mono ?_
          rintro en w7 ⟨rfl, hs7⟩
          rw [← HZ.out]
          have hc7 := hc6.trans hs7
          refine hK.out _ _ (HKC.out _ hc7) (fun hHeld2 => ?_)
          clear hK K hHeld1
          try simp only [Act.put, List.setIfInBounds_toArray, List.set_cons_zero, List.set_cons_succ]
          refine take_yes 12 (some 47) (v := ?_) rfl (by kernel_rfl) (by kernel_rfl) (by kernel_rfl) (by kernel_rfl) (fun _ _ _ h => h) (by rfl) (by assumption) ?_ ?_
          rotate_left
          · (intro w' hSw; (try dsimp only at hSw); go_simp; try with_reducible rfl)
          try simp only [Act.put, List.setIfInBounds_toArray, List.set_cons_zero, List.set_cons_succ]
          refine take_yes 13 (some 48) (v := ?_) rfl (by kernel_rfl) (by kernel_rfl) (by kernel_rfl) (by kernel_rfl) (fun _ _ _ h => h) (by rfl) (by assumption) ?_ ?_
          rotate_left
          · (intro w' hSw; (try dsimp only at hSw); go_simp; try with_reducible rfl)
          try simp only [Act.put, List.setIfInBounds_toArray, List.set_cons_zero, List.set_cons_succ]
          refine wpAnyH_done (by kernel_rfl) ?_ _
          clear hHeld2 HKC
          have hsf := hswy.trans hc7
          go_wp2
          go_roundw
          case rel => exact ⟨k + 1, by omega, by go_num, HR, hsf⟩
          case measure => simp [intOf]; omega
    · obtain rfl : k = n := by omega
      have HV : Hid (validH x = true) := by
        have := validH_all (h := x) (fun j hj => HT.out j hj (by have := HN.out; omega))
        rw [← HN.out, HRNG.out.1, HRNG.out.2] at this
        exact this
      go_wp2
      go_ret
      exact ⟨ret_bool HV.out.symm, hs0w⟩
end Go.Proofs.Ytgdeiecbkmhbeaa
