/- The building of positions, the program's: letters. -/
import Derived.Test.YtblmiocjhbpklaaDoorBpI
import Derived.Test.YtblmiocjhbpklaaDoorBpL
namespace Go.Proofs.YtblmiocjhbpklaaDoor
set_option maxRecDepth 100000
open Go.ChangeShapes Go.WideShapes Go.ChangeAt Go.RowKit
set_option linter.unusedVariables false
set_option linter.unusedSimpArgs false


set_option maxHeartbeats 8000000 in
set_option maxRecDepth 100000 in
theorem bldI_letter (lr lo hi : Int) (l r : Tr) (hl : BldI l) (hr : BldI r) : BldI (.node ⟨3, lr, lo, hi⟩ l r) := by
    intro G ls fo lv fv a0 b0 v w hbp hv hok hno hfl hfs hlt
    obtain ⟨htok, hcase⟩ := hok
    obtain ⟨htin, g, lv0, rv0, a, b, c0, d, rfl, hg, hB, _, _, _, _, hL, hR⟩ := hv
    have HTI := Lib.hid htin
    have HL := Lib.hid hL
    have HR := Lib.hid hR
    obtain ⟨pl, rfl⟩ := hL.isPtr
    obtain ⟨pr, rfl⟩ := hR.isPtr
    have BX := Lib.hid hB
    rw [opN_of] at hcase
    unfold ncells at BX
    dsimp only at BX
    have HBP := Lib.hid hbp
    have hGw := hbp.blk.lt
    clear hL hR hB hbp htin
    obtain ⟨y, hy⟩ : ∃ y, y = w.alloc (.cells #[.int .i64 0, .int .i64 0, .bool false] 87) := ⟨_, rfl⟩
    have hsy : Since w y := by rw [hy]; exact (Since.refl w).alloc _
    have BR : Hid (Blk y w.heap.size 87 #[.int .i64 0, .int .i64 0, .bool false]) := by rw [hy]; exact Blk.new rfl _ _
    have HY := Lib.hid hy
    have hgl : g < w.heap.size := BX.out.lt
    obtain ⟨⟨x0, x1, x2, x3, x4, x5⟩, _⟩ := (BX.out.since hsy).all6
    rw [hy] at x0 x1 x2 x3 x4 x5
    clear hy
    clear hcase hl hr
    obtain ⟨N, hN⟩ : ∃ N, N = ls.length := ⟨_, rfl⟩
    have hN9 : N < 20 := by
      have e : ltrN (Tr.node ⟨3, lr, lo, hi⟩ l r) = 1 + ltrN l + ltrN r := by simp [ltrN]
      rw [e] at hlt
      omega
    have hN0 : fo.length = N := by rw [hN]; exact hfl
    have HNN := Lib.hid hN
    obtain ⟨Q, hQ⟩ : ∃ Q, Q = 2 ^ N := ⟨_, rfl⟩
    have HSO : Hid (∀ W, Calls Tryd.prog 78 #[.int .i64 (N : Int)] W fun e w' => e = .returned (.int .i64 (Q : Int)) ∧ W = w') := fun W => by rw [hQ]; exact setOf_any N W (by omega)
    have HLI : Hid (InI lr) := HTI.out.2.1
    have HL0 : Hid (InI 0) := by unfold Hid InI; omega
    have HD : Hid (glu (Tr.node ⟨3, lr, lo, hi⟩ l r) ls fo = ((ls ++ [lr], fo ++ [0]), ⟨false, Q, Q⟩)) := by unfold Hid; rw [hQ, hN]; simp [glu]
    obtain ⟨lo1, lc1, rfl⟩ := HBP.out.own1.len
    obtain ⟨fo1, fc1, rfl⟩ := HBP.out.own2.len
    rw [natI_len, hN0, ← hN] at HBP
    clear hN hQ hfs hlt
    have B2 := Lib.hid (HBP.out.since hsy)
    have K2 : Hid (KI G w y) := KI.of_since hsy
    have N2 := Lib.hid (BX.out.since hsy)
    obtain ⟨⟨p0, p1, p2, p3, p4⟩, _⟩ := B2.out.blk.fiveP
    rw [HY.out] at p0 p1 p2 p3 p4
    go_enter Tryd.func62, Tryd.ntmps62
    go_wp2_with fail
    refine (HSO.out _).mono ?_
    rintro e wx ⟨rfl, rfl⟩
    go_upto_region 6 with fail
    rw [← HY.out]
    clear p0 p1 p2 p3 p4 x0 x1 x2 x3 x4 x5
    have B3 := B2.out.since (Since.refl y).drew
    have T3 := N2.out.since (Since.refl y).drew
    have R3 := BR.out.since (Since.refl y).drew
    have s3 : Since w y.drew := hsy.drew
    have z3 : w.heap.size < y.drew.heap.size := R3.lt
    refine wp_region_held_drew (S := (fun _ => True)) (by kernel_rfl) trivial (fun hHeld => ?_)
    generalize y.drew = yd at B3 T3 R3 s3 z3 ⊢
    refine take_yes 0 (some 27) (v := ?_) rfl (by kernel_rfl) (by kernel_rfl) (by kernel_rfl) (by kernel_rfl) (fun _ _ _ h => h) (by rfl) (by assumption) ?_ ?_
    rotate_left
    · (intro w' hSw; (try dsimp only at hSw); go_simp; try with_reducible rfl)
    try simp only [Act.put, List.setIfInBounds_toArray, List.set_cons_zero, List.set_cons_succ]
    refine take_yes 1 (some 28) (v := ?_) rfl (by kernel_rfl) (by kernel_rfl) (by kernel_rfl) (by kernel_rfl) (fun _ _ _ h => h) (by rfl) (by assumption) ?_ ?_
    rotate_left
    · (intro w' hSw; (try dsimp only at hSw); go_simp; try with_reducible rfl)
    try simp only [Act.put, List.setIfInBounds_toArray, List.set_cons_zero, List.set_cons_succ]
    refine take_yes 2 (some 29) (v := ?_) rfl (by kernel_rfl) (by kernel_rfl) (by kernel_rfl) (by kernel_rfl) (fun _ _ _ h => h) (by rfl) (by assumption) ?_ ?_
    rotate_left
    · (intro w' hSw; (try dsimp only at hSw); go_simp; try with_reducible rfl)
    try simp only [Act.put, List.setIfInBounds_toArray, List.set_cons_zero, List.set_cons_succ]
    refine take_yes 3 (some 30) (v := ?_) rfl (by kernel_rfl) (by kernel_rfl) (by kernel_rfl) (by kernel_rfl) (fun _ _ _ h => h) (by rfl) (by assumption) ?_ ?_
    rotate_left
    · (intro w' hSw; (try dsimp only at hSw); go_simp; try with_reducible rfl)
    try simp only [Act.put, List.setIfInBounds_toArray, List.set_cons_zero, List.set_cons_succ]
    refine take_yes 5 (some 32) (v := ?_) rfl (by kernel_rfl) (by kernel_rfl) (by kernel_rfl) (by kernel_rfl) (fun _ _ _ h => h) (by rfl) (by assumption) ?_ ?_
    rotate_left
    · (intro w' hSw; (try dsimp only at hSw); go_simp; try with_reducible rfl)
    try simp only [Act.put, List.setIfInBounds_toArray, List.set_cons_zero, List.set_cons_succ]
    refine take_yes 6 (some 33) (v := ?_) rfl (by kernel_rfl) (by kernel_rfl) (by kernel_rfl) (by kernel_rfl) (fun _ _ _ h => h) (by rfl) (by assumption) ?_ ?_
    rotate_left
    · (intro w' hSw; (try dsimp only at hSw); go_simp; try with_reducible rfl)
    try simp only [Act.put, List.setIfInBounds_toArray, List.set_cons_zero, List.set_cons_succ]
    refine take_yes 7 (some 34) (v := ?_) rfl (by kernel_rfl) (by kernel_rfl) (by kernel_rfl) (by kernel_rfl) (fun _ _ _ h => h) (by rfl) (by assumption) ?_ ?_
    rotate_left
    · (intro w' hSw; (try dsimp only at hSw); go_simp; try with_reducible rfl)
    try simp only [Act.put, List.setIfInBounds_toArray, List.set_cons_zero, List.set_cons_succ]
    refine take_yes 8 (some 35) (v := ?_) rfl (by kernel_rfl) (by kernel_rfl) (by kernel_rfl) (by kernel_rfl) (fun _ _ _ h => h) (by rfl) (by assumption) ?_ ?_
    rotate_left
    · (intro w' hSw; (try dsimp only at hSw); go_simp; try with_reducible rfl)
    try simp only [Act.put, List.setIfInBounds_toArray, List.set_cons_zero, List.set_cons_succ]
    refine take_two 4 9 rfl rfl (by kernel_rfl) (by rfl) (by rfl) (fun K hK => ?_) (fun K hK => ?_)
    · skip
      obtain ⟨⟨q0, q1, q2, q3, q4⟩, _⟩ := B3.blk.fiveP
      go_simp
      clear q0 q1 q2 q3 q4
      refine hK.out _ _ trivial (fun hHeld1x => ?_)
      clear hK K hHeld
      try simp only [Act.put, List.setIfInBounds_toArray, List.set_cons_zero, List.set_cons_succ]
      refine take_run 9 rfl (by kernel_rfl) (by rfl) (fun K hK => ?_)
      obtain ⟨⟨q0, q1, q2, q3, q4, q5⟩, _⟩ := T3.all6
      go_simp
      clear q0 q1 q2 q3 q4 q5
      refine hK.out _ _ trivial (fun hHeld2x => ?_)
      clear hK K hHeld1x
      try simp only [Act.put, List.setIfInBounds_toArray, List.set_cons_zero, List.set_cons_succ]
      refine take_run 10 rfl (by kernel_rfl) (by rfl) (fun K hK => ?_)
      go_simp
      have al3x : Since yd (yd.alloc (.cells #[.int .i64 lr] 3)) := (Since.refl _).alloc _
      have ib4x := lit_one yd lr HLI.out
      have B5x := B3.since al3x
      have T6x := T3.since al3x
      have R7x := R3.since al3x
      have c8x := Since.trans s3 al3x
      refine hK.out _ _ trivial (fun hHeld9x => ?_)
      clear hK K hHeld2x
      try simp only [Act.put, List.setIfInBounds_toArray, List.set_cons_zero, List.set_cons_succ]
      refine take_run 11 rfl (by kernel_rfl) (by rfl) (fun K hK => ?_)
      refine wp_append_ints (.tmp 31) (.tmp 37) rfl (G + 1) (.slice lo1 N lc1) ls rfl B5x.own1 _ _ _ rfl [lr] ib4x (by have := HNN.out; simp; omega) (by have := c8x.size; omega) ?_
      intro v' w4 ho4 hg4 hb4
      obtain ⟨o4, c4, hv4⟩ := ho4.len
      have e4 : (ls ++ [lr]).length = N + 1 := by have := HNN.out; simp; omega
      rw [e4] at hv4
      subst hv4
      clear e4
      have P4 := B5x.appL ho4 hg4 hb4
      have k4 := (KI.of_since (G := G) c8x).trans (KI.grown hg4 B5x.own1 (by omega))
      have R4 := (KI.grown (G := G) hg4 B5x.own1 (by omega)).typed _ _ _ R7x (by decide) (by decide)
      clear ho4 hg4 hb4 B5x T6x R7x ib4x
      refine hK.out _ _ trivial (fun hHeld10x => ?_)
      clear hK K hHeld9x
      try simp only [Act.put, List.setIfInBounds_toArray, List.set_cons_zero, List.set_cons_succ]
      refine take_yes 12 (some 39) (v := ?_) rfl (by kernel_rfl) (by kernel_rfl) (by kernel_rfl) (by kernel_rfl) (fun _ _ _ h => h) (by rfl) (by assumption) ?_ ?_
      rotate_left
      · (intro w' hSw; (try dsimp only at hSw); go_simp; try with_reducible rfl)
      try simp only [Act.put, List.setIfInBounds_toArray, List.set_cons_zero, List.set_cons_succ]
      refine take_yes 13 (some 40) (v := ?_) rfl (by kernel_rfl) (by kernel_rfl) (by kernel_rfl) (by kernel_rfl) (fun _ _ _ h => h) (by rfl) (by assumption) ?_ ?_
      rotate_left
      · (intro w' hSw; (try dsimp only at hSw); go_simp; try with_reducible rfl)
      try simp only [Act.put, List.setIfInBounds_toArray, List.set_cons_zero, List.set_cons_succ]
      refine take_run 14 rfl (by kernel_rfl) (by rfl) (fun K hK => ?_)
      obtain ⟨⟨p0, p1, p2, p3, p4⟩, q0, q1, q2, q3, q4⟩ := P4.blk.fiveP
      go_simp
      clear q0 q1 q2 q3 q4 p0 p1 p2 p3 p4
      have B5 := P4.set
      have K5 : KI G w (w4.setCell ⟨G, 0, none⟩ (.slice o4 (N + 1) c4)) := k4.trans (KI.set P4.blk (.inr rfl) (Nat.le_refl _) _)
      have R5 := (KI.set (G := G) (i := 0) P4.blk (.inr rfl) (Nat.le_refl _) (.slice o4 (N + 1) c4)).typed _ _ _ R4 (by decide) (by decide)
      refine hK.out _ _ trivial (fun hHeld11x => ?_)
      clear hK K hHeld10x
      try simp only [Act.put, List.setIfInBounds_toArray, List.set_cons_zero, List.set_cons_succ]
      refine wpAnyH_done (by kernel_rfl) ?_ _
      clear hHeld11x P4 k4 R4
      generalize w4.setCell ⟨G, 0, none⟩ (.slice o4 (N + 1) c4) = w5 at B5 K5 R5 ⊢
      have HB5 := Lib.hid B5
      have HK5 := Lib.hid K5
      have HR5 := Lib.hid R5
      clear B5 K5 R5
      have hal : Since w5 (w5.alloc (.cells #[.int .i64 0] 3)) := (Since.refl _).alloc _
      have HB6 := Lib.hid (HB5.out.since hal)
      have HR6 := Lib.hid (HR5.out.since hal)
      have HK6 := Lib.hid (HK5.out.trans (KI.of_since hal))
      have L6 := Lib.hid (lit_one w5 0 HL0.out)
      obtain ⟨⟨p0, p1, p2, p3, p4⟩, _⟩ := HB5.out.blk.fiveP
      have z6 := HB6.out.blk.lt
      go_upto_region 8 with (at_builtin; go_must (refine wpList_append_ints rfl (.tmp 45) (.tmp 46) rfl (G + 1) (.slice fo1 N fc1) (natI fo) rfl HB6.out.own2 _ _ _ rfl [0] L6.out (by rw [natI_len]; simp; omega) (by omega) ?_); intro u7 w7 ho7 hg7 hb7; have e7 : natI fo ++ [0] = natI (fo ++ [0]) := (by simp [natI]); rw [e7] at ho7; have P7 := HB6.out.appF ho7 hg7 hb7; have KG := KI.grown (G := G) hg7 HB6.out.own2 (by omega); have K7 := Lib.hid (HK6.out.trans KG); have R7 := Lib.hid (KG.typed _ _ _ HR6.out (by decide) (by decide)); obtain ⟨o7, c7, hv7⟩ := ho7.len; rw [natI_len] at hv7; have e8 : (fo ++ [0]).length = N + 1 := (by simp; omega); rw [e8] at hv7; subst hv7; obtain ⟨⟨q0, q1, q2, q3, q4⟩, f0, f1, f2, f3, f4⟩ := P7.blk.fiveP; clear p0 p1 p2 p3 p4 e7 e8 ho7 hg7 hb7 KG)
      have B8 := Lib.hid P7.set
      have KS := KI.set (G := G) (i := 3) P7.blk (.inr rfl) (Nat.le_refl _) (.slice o7 (N + 1) c7)
      have K8 := Lib.hid (K7.out.trans KS)
      have R8 := Lib.hid (KS.typed _ _ _ R7.out (by decide) (by decide))
      clear q0 q1 q2 q3 q4 f0 f1 f2 f3 f4 P7 KS K7 R7
      generalize w7.setCell ⟨G, 3, none⟩ (.slice o7 (N + 1) c7) = w8 at B8 K8 R8 ⊢
      obtain ⟨⟨e0, e1, e2⟩, r0, r1, r2⟩ := R8.out.threeP
      go_wp2_with fail
      refine bodyPost_ret (v := .agg #[.int .i64 (Q : Int), .int .i64 (Q : Int), .bool false]) (by simp [results, Tryd.results62, go_sem, *]) rfl ?_
      rw [HD.out]
      exact addOut_box (f := ⟨false, Q, Q⟩) B8.out K8.out R8.out (Nat.le_refl _) hGw (.int .i64 (Q : Int)) (.int .i64 (Q : Int)) (.bool false)
    · skip
      obtain ⟨⟨q0, q1, q2, q3, q4, q5⟩, _⟩ := T3.all6
      go_simp
      clear q0 q1 q2 q3 q4 q5
      refine hK.out _ _ trivial (fun hHeld12x => ?_)
      clear hK K hHeld
      try simp only [Act.put, List.setIfInBounds_toArray, List.set_cons_zero, List.set_cons_succ]
      refine take_two 4 10 rfl rfl (by kernel_rfl) (by rfl) (by rfl) (fun K hK => ?_) (fun K hK => ?_)
      · skip
        obtain ⟨⟨q0, q1, q2, q3, q4⟩, _⟩ := B3.blk.fiveP
        go_simp
        clear q0 q1 q2 q3 q4
        refine hK.out _ _ trivial (fun hHeld13x => ?_)
        clear hK K hHeld12x
        try simp only [Act.put, List.setIfInBounds_toArray, List.set_cons_zero, List.set_cons_succ]
        refine take_run 10 rfl (by kernel_rfl) (by rfl) (fun K hK => ?_)
        go_simp
        have al14x : Since yd (yd.alloc (.cells #[.int .i64 lr] 3)) := (Since.refl _).alloc _
        have ib15x := lit_one yd lr HLI.out
        have B16x := B3.since al14x
        have T17x := T3.since al14x
        have R18x := R3.since al14x
        have c19x := Since.trans s3 al14x
        refine hK.out _ _ trivial (fun hHeld20x => ?_)
        clear hK K hHeld13x
        try simp only [Act.put, List.setIfInBounds_toArray, List.set_cons_zero, List.set_cons_succ]
        refine take_run 11 rfl (by kernel_rfl) (by rfl) (fun K hK => ?_)
        refine wp_append_ints (.tmp 31) (.tmp 37) rfl (G + 1) (.slice lo1 N lc1) ls rfl B16x.own1 _ _ _ rfl [lr] ib15x (by have := HNN.out; simp; omega) (by have := c19x.size; omega) ?_
        intro v' w4 ho4 hg4 hb4
        obtain ⟨o4, c4, hv4⟩ := ho4.len
        have e4 : (ls ++ [lr]).length = N + 1 := by have := HNN.out; simp; omega
        rw [e4] at hv4
        subst hv4
        clear e4
        have P4 := B16x.appL ho4 hg4 hb4
        have k4 := (KI.of_since (G := G) c19x).trans (KI.grown hg4 B16x.own1 (by omega))
        have R4 := (KI.grown (G := G) hg4 B16x.own1 (by omega)).typed _ _ _ R18x (by decide) (by decide)
        clear ho4 hg4 hb4 B16x T17x R18x ib15x
        refine hK.out _ _ trivial (fun hHeld21x => ?_)
        clear hK K hHeld20x
        try simp only [Act.put, List.setIfInBounds_toArray, List.set_cons_zero, List.set_cons_succ]
        refine take_yes 12 (some 39) (v := ?_) rfl (by kernel_rfl) (by kernel_rfl) (by kernel_rfl) (by kernel_rfl) (fun _ _ _ h => h) (by rfl) (by assumption) ?_ ?_
        rotate_left
        · (intro w' hSw; (try dsimp only at hSw); go_simp; try with_reducible rfl)
        try simp only [Act.put, List.setIfInBounds_toArray, List.set_cons_zero, List.set_cons_succ]
        refine take_yes 13 (some 40) (v := ?_) rfl (by kernel_rfl) (by kernel_rfl) (by kernel_rfl) (by kernel_rfl) (fun _ _ _ h => h) (by rfl) (by assumption) ?_ ?_
        rotate_left
        · (intro w' hSw; (try dsimp only at hSw); go_simp; try with_reducible rfl)
        try simp only [Act.put, List.setIfInBounds_toArray, List.set_cons_zero, List.set_cons_succ]
        refine take_run 14 rfl (by kernel_rfl) (by rfl) (fun K hK => ?_)
        obtain ⟨⟨p0, p1, p2, p3, p4⟩, q0, q1, q2, q3, q4⟩ := P4.blk.fiveP
        go_simp
        clear q0 q1 q2 q3 q4 p0 p1 p2 p3 p4
        have B5 := P4.set
        have K5 : KI G w (w4.setCell ⟨G, 0, none⟩ (.slice o4 (N + 1) c4)) := k4.trans (KI.set P4.blk (.inr rfl) (Nat.le_refl _) _)
        have R5 := (KI.set (G := G) (i := 0) P4.blk (.inr rfl) (Nat.le_refl _) (.slice o4 (N + 1) c4)).typed _ _ _ R4 (by decide) (by decide)
        refine hK.out _ _ trivial (fun hHeld22x => ?_)
        clear hK K hHeld21x
        try simp only [Act.put, List.setIfInBounds_toArray, List.set_cons_zero, List.set_cons_succ]
        refine wpAnyH_done (by kernel_rfl) ?_ _
        clear hHeld22x P4 k4 R4
        generalize w4.setCell ⟨G, 0, none⟩ (.slice o4 (N + 1) c4) = w5 at B5 K5 R5 ⊢
        have HB5 := Lib.hid B5
        have HK5 := Lib.hid K5
        have HR5 := Lib.hid R5
        clear B5 K5 R5
        have hal : Since w5 (w5.alloc (.cells #[.int .i64 0] 3)) := (Since.refl _).alloc _
        have HB6 := Lib.hid (HB5.out.since hal)
        have HR6 := Lib.hid (HR5.out.since hal)
        have HK6 := Lib.hid (HK5.out.trans (KI.of_since hal))
        have L6 := Lib.hid (lit_one w5 0 HL0.out)
        obtain ⟨⟨p0, p1, p2, p3, p4⟩, _⟩ := HB5.out.blk.fiveP
        have z6 := HB6.out.blk.lt
        go_upto_region 8 with (at_builtin; go_must (refine wpList_append_ints rfl (.tmp 45) (.tmp 46) rfl (G + 1) (.slice fo1 N fc1) (natI fo) rfl HB6.out.own2 _ _ _ rfl [0] L6.out (by rw [natI_len]; simp; omega) (by omega) ?_); intro u7 w7 ho7 hg7 hb7; have e7 : natI fo ++ [0] = natI (fo ++ [0]) := (by simp [natI]); rw [e7] at ho7; have P7 := HB6.out.appF ho7 hg7 hb7; have KG := KI.grown (G := G) hg7 HB6.out.own2 (by omega); have K7 := Lib.hid (HK6.out.trans KG); have R7 := Lib.hid (KG.typed _ _ _ HR6.out (by decide) (by decide)); obtain ⟨o7, c7, hv7⟩ := ho7.len; rw [natI_len] at hv7; have e8 : (fo ++ [0]).length = N + 1 := (by simp; omega); rw [e8] at hv7; subst hv7; obtain ⟨⟨q0, q1, q2, q3, q4⟩, f0, f1, f2, f3, f4⟩ := P7.blk.fiveP; clear p0 p1 p2 p3 p4 e7 e8 ho7 hg7 hb7 KG)
        have B8 := Lib.hid P7.set
        have KS := KI.set (G := G) (i := 3) P7.blk (.inr rfl) (Nat.le_refl _) (.slice o7 (N + 1) c7)
        have K8 := Lib.hid (K7.out.trans KS)
        have R8 := Lib.hid (KS.typed _ _ _ R7.out (by decide) (by decide))
        clear q0 q1 q2 q3 q4 f0 f1 f2 f3 f4 P7 KS K7 R7
        generalize w7.setCell ⟨G, 3, none⟩ (.slice o7 (N + 1) c7) = w8 at B8 K8 R8 ⊢
        obtain ⟨⟨e0, e1, e2⟩, r0, r1, r2⟩ := R8.out.threeP
        go_wp2_with fail
        refine bodyPost_ret (v := .agg #[.int .i64 (Q : Int), .int .i64 (Q : Int), .bool false]) (by simp [results, Tryd.results62, go_sem, *]) rfl ?_
        rw [HD.out]
        exact addOut_box (f := ⟨false, Q, Q⟩) B8.out K8.out R8.out (Nat.le_refl _) hGw (.int .i64 (Q : Int)) (.int .i64 (Q : Int)) (.bool false)
      · skip
        go_simp
        have al23x : Since yd (yd.alloc (.cells #[.int .i64 lr] 3)) := (Since.refl _).alloc _
        have ib24x := lit_one yd lr HLI.out
        have B25x := B3.since al23x
        have T26x := T3.since al23x
        have R27x := R3.since al23x
        have c28x := Since.trans s3 al23x
        refine hK.out _ _ trivial (fun hHeld29x => ?_)
        clear hK K hHeld12x
        try simp only [Act.put, List.setIfInBounds_toArray, List.set_cons_zero, List.set_cons_succ]
        refine take_run 4 rfl (by kernel_rfl) (by rfl) (fun K hK => ?_)
        obtain ⟨⟨q0, q1, q2, q3, q4⟩, _⟩ := B25x.blk.fiveP
        go_simp
        clear q0 q1 q2 q3 q4
        refine hK.out _ _ trivial (fun hHeld30x => ?_)
        clear hK K hHeld29x
        try simp only [Act.put, List.setIfInBounds_toArray, List.set_cons_zero, List.set_cons_succ]
        refine take_run 11 rfl (by kernel_rfl) (by rfl) (fun K hK => ?_)
        refine wp_append_ints (.tmp 31) (.tmp 37) rfl (G + 1) (.slice lo1 N lc1) ls rfl B25x.own1 _ _ _ rfl [lr] ib24x (by have := HNN.out; simp; omega) (by have := c28x.size; omega) ?_
        intro v' w4 ho4 hg4 hb4
        obtain ⟨o4, c4, hv4⟩ := ho4.len
        have e4 : (ls ++ [lr]).length = N + 1 := by have := HNN.out; simp; omega
        rw [e4] at hv4
        subst hv4
        clear e4
        have P4 := B25x.appL ho4 hg4 hb4
        have k4 := (KI.of_since (G := G) c28x).trans (KI.grown hg4 B25x.own1 (by omega))
        have R4 := (KI.grown (G := G) hg4 B25x.own1 (by omega)).typed _ _ _ R27x (by decide) (by decide)
        clear ho4 hg4 hb4 B25x T26x R27x ib24x
        refine hK.out _ _ trivial (fun hHeld31x => ?_)
        clear hK K hHeld30x
        try simp only [Act.put, List.setIfInBounds_toArray, List.set_cons_zero, List.set_cons_succ]
        refine take_yes 12 (some 39) (v := ?_) rfl (by kernel_rfl) (by kernel_rfl) (by kernel_rfl) (by kernel_rfl) (fun _ _ _ h => h) (by rfl) (by assumption) ?_ ?_
        rotate_left
        · (intro w' hSw; (try dsimp only at hSw); go_simp; try with_reducible rfl)
        try simp only [Act.put, List.setIfInBounds_toArray, List.set_cons_zero, List.set_cons_succ]
        refine take_yes 13 (some 40) (v := ?_) rfl (by kernel_rfl) (by kernel_rfl) (by kernel_rfl) (by kernel_rfl) (fun _ _ _ h => h) (by rfl) (by assumption) ?_ ?_
        rotate_left
        · (intro w' hSw; (try dsimp only at hSw); go_simp; try with_reducible rfl)
        try simp only [Act.put, List.setIfInBounds_toArray, List.set_cons_zero, List.set_cons_succ]
        refine take_run 14 rfl (by kernel_rfl) (by rfl) (fun K hK => ?_)
        obtain ⟨⟨p0, p1, p2, p3, p4⟩, q0, q1, q2, q3, q4⟩ := P4.blk.fiveP
        go_simp
        clear q0 q1 q2 q3 q4 p0 p1 p2 p3 p4
        have B5 := P4.set
        have K5 : KI G w (w4.setCell ⟨G, 0, none⟩ (.slice o4 (N + 1) c4)) := k4.trans (KI.set P4.blk (.inr rfl) (Nat.le_refl _) _)
        have R5 := (KI.set (G := G) (i := 0) P4.blk (.inr rfl) (Nat.le_refl _) (.slice o4 (N + 1) c4)).typed _ _ _ R4 (by decide) (by decide)
        refine hK.out _ _ trivial (fun hHeld32x => ?_)
        clear hK K hHeld31x
        try simp only [Act.put, List.setIfInBounds_toArray, List.set_cons_zero, List.set_cons_succ]
        refine wpAnyH_done (by kernel_rfl) ?_ _
        clear hHeld32x P4 k4 R4
        generalize w4.setCell ⟨G, 0, none⟩ (.slice o4 (N + 1) c4) = w5 at B5 K5 R5 ⊢
        have HB5 := Lib.hid B5
        have HK5 := Lib.hid K5
        have HR5 := Lib.hid R5
        clear B5 K5 R5
        have hal : Since w5 (w5.alloc (.cells #[.int .i64 0] 3)) := (Since.refl _).alloc _
        have HB6 := Lib.hid (HB5.out.since hal)
        have HR6 := Lib.hid (HR5.out.since hal)
        have HK6 := Lib.hid (HK5.out.trans (KI.of_since hal))
        have L6 := Lib.hid (lit_one w5 0 HL0.out)
        obtain ⟨⟨p0, p1, p2, p3, p4⟩, _⟩ := HB5.out.blk.fiveP
        have z6 := HB6.out.blk.lt
        go_upto_region 8 with (at_builtin; go_must (refine wpList_append_ints rfl (.tmp 45) (.tmp 46) rfl (G + 1) (.slice fo1 N fc1) (natI fo) rfl HB6.out.own2 _ _ _ rfl [0] L6.out (by rw [natI_len]; simp; omega) (by omega) ?_); intro u7 w7 ho7 hg7 hb7; have e7 : natI fo ++ [0] = natI (fo ++ [0]) := (by simp [natI]); rw [e7] at ho7; have P7 := HB6.out.appF ho7 hg7 hb7; have KG := KI.grown (G := G) hg7 HB6.out.own2 (by omega); have K7 := Lib.hid (HK6.out.trans KG); have R7 := Lib.hid (KG.typed _ _ _ HR6.out (by decide) (by decide)); obtain ⟨o7, c7, hv7⟩ := ho7.len; rw [natI_len] at hv7; have e8 : (fo ++ [0]).length = N + 1 := (by simp; omega); rw [e8] at hv7; subst hv7; obtain ⟨⟨q0, q1, q2, q3, q4⟩, f0, f1, f2, f3, f4⟩ := P7.blk.fiveP; clear p0 p1 p2 p3 p4 e7 e8 ho7 hg7 hb7 KG)
        have B8 := Lib.hid P7.set
        have KS := KI.set (G := G) (i := 3) P7.blk (.inr rfl) (Nat.le_refl _) (.slice o7 (N + 1) c7)
        have K8 := Lib.hid (K7.out.trans KS)
        have R8 := Lib.hid (KS.typed _ _ _ R7.out (by decide) (by decide))
        clear q0 q1 q2 q3 q4 f0 f1 f2 f3 f4 P7 KS K7 R7
        generalize w7.setCell ⟨G, 3, none⟩ (.slice o7 (N + 1) c7) = w8 at B8 K8 R8 ⊢
        obtain ⟨⟨e0, e1, e2⟩, r0, r1, r2⟩ := R8.out.threeP
        go_wp2_with fail
        refine bodyPost_ret (v := .agg #[.int .i64 (Q : Int), .int .i64 (Q : Int), .bool false]) (by simp [results, Tryd.results62, go_sem, *]) rfl ?_
        rw [HD.out]
        exact addOut_box (f := ⟨false, Q, Q⟩) B8.out K8.out R8.out (Nat.le_refl _) hGw (.int .i64 (Q : Int)) (.int .i64 (Q : Int)) (.bool false)
theorem add_any (T : Tr) : BldI T := by
  induction T with
  | nil => intro G ls fo lv fv a0 b0 v w _ _ h; exact h.elim
  | node t l r hl hr =>
    intro G ls fo lv fv a0 b0 v w hb hv hok hno
    obtain ⟨kd, lr, lo, hi⟩ := t
    have hk := okT_kd hok.1
    have h7 : kd ≠ 7 := hno.1
    dsimp only at hk
    rcases (by omega : kd = 1 ∨ kd = 2 ∨ kd = 3 ∨ kd = 4 ∨ kd = 5 ∨ kd = 6) with rfl | rfl | rfl | rfl | rfl | rfl
    · exact bldI_none lr lo hi l r hl hr G ls fo lv fv a0 b0 v w hb hv hok hno
    · exact bldI_empty lr lo hi l r hl hr G ls fo lv fv a0 b0 v w hb hv hok hno
    · exact bldI_letter lr lo hi l r hl hr G ls fo lv fv a0 b0 v w hb hv hok hno
    · exact bldI_cat lr lo hi l r hl hr G ls fo lv fv a0 b0 v w hb hv hok hno
    · exact bldI_uni lr lo hi l r hl hr G ls fo lv fv a0 b0 v w hb hv hok hno
    · exact bldI_star lr lo hi l r hl hr G ls fo lv fv a0 b0 v w hb hv hok hno
end Go.Proofs.YtblmiocjhbpklaaDoor
