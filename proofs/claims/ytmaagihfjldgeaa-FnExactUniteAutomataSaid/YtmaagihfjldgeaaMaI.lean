/- The automaton of a machine, the program's. -/
import Derived.Test.YtmaagihfjldgeaaA3
import Derived.Test.YtmaagihfjldgeaaA1
import Derived.Test.YtmaagihfjldgeaaMrI
import Derived.BigQuiet
import Derived.Deep.OwnRows
import Derived.Deep.QuietTactic
import Derived.StillTailTactics
import Derived.Test.YtmaagihfjldgeaaK1
namespace Go.Proofs.Ytmaagihfjldgeaa
set_option maxRecDepth 100000
open Go.ChangeShapes Go.WideShapes Go.ChangeAt Go.RowKit Go.Maps
set_option linter.unusedVariables false
set_option linter.unusedSimpArgs false

/-- What a machine's automaton is, of the states found (none: too many). -/
def autR (step : Int → Nat → Option Int) (acc : Int → Bool) (R : Option (List Int)) : Aut := match R with
  | some fs => autN step acc fs
  | none => ⟨0, [], []⟩
set_option maxHeartbeats 40000000 in
set_option maxRecDepth 100000 in
theorem autI_any (BA BL : Nat) (step : Int → Nat → Option Int) (acc : Int → Bool) (Q : Int → Prop) (hQ : ∀ s x k, k < 9 → Q s → step s k = some x → Q x) (hQi : ∀ s, Q s → InI s) (s0 : Int) (h0 : Q s0) (lim : Nat) (hl : 1 ≤ lim) (hl2 : lim ≤ 1000) (w : World)
    (hF : ∀ fs, numN step lim s0 = some fs → (∀ x ∈ fs, Q x) ∧ (∀ s ∈ fs, ∀ k x, k < 9 → step s k = some x → x ∈ fs) ∧ fs.length ≤ 1000)
    (hN : ∀ s k W, Since w W → Q s → k < 9 → Calls Try.prog 163 #[.int .i64 s, .int .i64 (k : Nat), (.pointer (some ⟨BA, 0, none⟩)), (.pointer (some ⟨BL, 0, none⟩))] W (NxOutI step s k W))
    (hA : ∀ s W, Since w W → Q s → Calls Try.prog 162 #[.int .i64 s, (.pointer (some ⟨BA, 0, none⟩))] W fun e w' => e = .returned (.bool (acc s)) ∧ Since W w') :
    Calls Try.prog 184 #[.agg #[.int .i64 s0, .func (.func 162) #[] #[.pointer (some ⟨BA, 0, none⟩)], .func (.func 163) #[] #[.pointer (some ⟨BA, 0, none⟩), .pointer (some ⟨BL, 0, none⟩)]], .int .i64 lim] w (ABOut w (autR step acc (numN step lim s0)) (numN step lim s0).isSome) := by
  have HF := Lib.hid hF
  have HNX := Lib.hid hN
  have HAC := Lib.hid hA
  have HQ := Lib.hid hQ
  obtain ⟨R, hR⟩ : ∃ R, R = numN step lim s0 := ⟨_, rfl⟩
  have HNU : Hid (∀ W, Since w W → Calls Try.prog 166 #[.agg #[.int .i64 s0, .func (.func 162) #[] #[.pointer (some ⟨BA, 0, none⟩)], .func (.func 163) #[] #[.pointer (some ⟨BA, 0, none⟩), .pointer (some ⟨BL, 0, none⟩)]], .int .i64 lim] W (NumOutI W lim R)) := fun W hW => by
    rw [hR]; exact numbersI_any _ BA BL step Q hQ hQi s0 h0 lim hl hl2 W (fun s k W' h => hN s k W' (hW.trans h))
  rw [← hR] at HF ⊢
  clear hF hN hA hQ hQi hR h0
  obtain ⟨y, hy⟩ : ∃ y, y = (w.alloc (.cells #[.int .i64 s0, .func (.func 162) #[] #[.pointer (some ⟨BA, 0, none⟩)], .func (.func 163) #[] #[.pointer (some ⟨BA, 0, none⟩), .pointer (some ⟨BL, 0, none⟩)]] 114)).alloc (.cells #[.int .i64 0, .slice none 0 0, .slice none 0 0] 39) := ⟨_, rfl⟩
  have hs0 : Since w y := by rw [hy]; exact ((Since.refl w).alloc _).alloc _
  have hz : y.heap.size = w.heap.size + 1 + 1 := by rw [hy]; simp
  have B0 : Hid (Blk y w.heap.size 114 #[.int .i64 s0, .func (.func 162) #[] #[.pointer (some ⟨BA, 0, none⟩)], .func (.func 163) #[] #[.pointer (some ⟨BA, 0, none⟩), .pointer (some ⟨BL, 0, none⟩)]]) := by rw [hy]; exact (Blk.new rfl _ _).alloc _
  have B1 : Hid (Blk y (w.heap.size + 1) 39 #[.int .i64 0, .slice none 0 0, .slice none 0 0]) := by rw [hy]; exact Blk.new (by simp) _ _
  have HY := Lib.hid hy
  have HZ := Lib.hid hz
  clear hy hz
  go_enter Try.func184, Try.ntmps184
  go_upto_region 1 with fail
  rw [← HY.out]
  obtain ⟨⟨p0, p1, p2⟩, _⟩ := B0.out.threeA
  go_wp2_with fail
  refine (HNU.out _ hs0).mono ?_
  rintro e w1 ⟨hs1, hR1⟩
  have HS1 := Lib.hid (hs0.trans hs1)
  have C0 := Lib.hid (B0.out.since hs1)
  have C1 := Lib.hid (B1.out.since hs1)
  have hz1 : w.heap.size + 2 ≤ w1.heap.size := by have := hs1.size; have := HZ.out; omega
  clear p0 p1 p2 HNU B0 B1 hs1
  cases R with
  | none =>
    dsimp only at hR1
    subst hR1
    obtain ⟨⟨r0, r1, r2⟩, r3, r4, r5⟩ := C1.out.threeA
    go_wp2
    refine bodyPost_ret (v := .tuple #[.agg #[.int .i64 0, nilS, nilS], .bool false]) (by simp [results, Try.results184, go_sem, *]) rfl ?_
    refine ⟨_, rfl, ownA_zero _ _ _, ?_⟩
    repeat' (first | exact HS1.out | with_reducible refine Since.setCell ?_ (by simp <;> omega) _)
  | some fs =>
    dsimp only at hR1
    obtain ⟨b, n, D, rfl, hb, hm, hD, hnl⟩ := hR1
    obtain ⟨hFQ, hFC, hFL⟩ := HF.out fs rfl
    have HFQ := Lib.hid hFQ
    have HFC := Lib.hid hFC
    have HD := Lib.hid hD
    have HM := Lib.hid hm
    obtain ⟨N, hN⟩ : ∃ N, N = fs.length := ⟨_, rfl⟩
    have HN := Lib.hid hN
    have hN1 : N ≤ 1000 := by omega
    have HLEN : Hid (∀ w', Since w1 w' → ∀ ty, (Builtin.len_ #[159] ty #[.map (some b)]).run Try.prog w' = .ok (.int .i64 (N : Nat)) w') := fun w' hs ty => by
      have := (Since.keptMap hm hs).len Try.underlying159 ty
      rw [hD.size, ← hN] at this
      exact this
    clear hFQ hFC hFL hD hm hnl hN HF
    go_upto_region 4 with fail
    go_cut [8] (fun p wx => MadeA w1 wx p N)
    case first =>
      have hmkB := fun W => run_make_row' (P := Try.prog) 36 4 (.bool false) 1 Try.underlying36 info_boolB rfl .i64 .i64 N (by omega) (by omega) W
      have hmkI := fun W => run_make_row' (P := Try.prog) 37 24 nilS 24 Try.underlying37 info_ints rfl .i64 .i64 N (by omega) (by omega) W
      have hNm : N ≤ maxLen := by unfold maxLen; omega
      have HKC : Hid (∀ w', Since w1 w' → ∀ ty, (Builtin.len_ #[159] ty #[.map (some b)]).run Try.prog w' = .ok (.int .i64 (N : Nat)) w') := HLEN
      go_wp2_with fail
      refine wp_region_held_drew (S := (fun w' => ∀ ty, (Builtin.len_ #[159] ty #[.map (some b)]).run Try.prog w' = .ok (.int .i64 (N : Nat)) w')) (by kernel_rfl) (HKC.out _ (Since.refl _).drew) (fun hHeld => ?_)
      refine take_yes 0 (some 20) (v := ?_) rfl (by kernel_rfl) (by kernel_rfl) (by kernel_rfl) (by kernel_rfl) (fun _ _ _ h => h) (by rfl) (by assumption) ?_ ?_
      rotate_left
      · (intro w' hSw; (try dsimp only at hSw); go_simp; try with_reducible rfl)
      try simp only [Act.put, List.setIfInBounds_toArray, List.set_cons_zero, List.set_cons_succ]
      refine take_yes 1 (some 21) (v := ?_) rfl (by kernel_rfl) (by kernel_rfl) (by kernel_rfl) (by kernel_rfl) (fun _ _ _ h => h) (by rfl) (by assumption) ?_ ?_
      rotate_left
      · (intro w' hSw; (try dsimp only at hSw); go_simp; try with_reducible rfl)
      try simp only [Act.put, List.setIfInBounds_toArray, List.set_cons_zero, List.set_cons_succ]
      refine take_yes 3 (some 23) (v := ?_) rfl (by kernel_rfl) (by kernel_rfl) (by kernel_rfl) (by kernel_rfl) (fun _ _ _ h => h) (by rfl) (by assumption) ?_ ?_
      rotate_left
      · (intro w' hSw; (try dsimp only at hSw); go_simp; try with_reducible rfl)
      try simp only [Act.put, List.setIfInBounds_toArray, List.set_cons_zero, List.set_cons_succ]
      refine take_yes 4 (some 24) (v := ?_) rfl (by kernel_rfl) (by kernel_rfl) (by kernel_rfl) (by kernel_rfl) (fun _ _ _ h => h) (by rfl) (by assumption) ?_ ?_
      rotate_left
      · (intro w' hSw; (try dsimp only at hSw); go_simp; try with_reducible rfl)
      try simp only [Act.put, List.setIfInBounds_toArray, List.set_cons_zero, List.set_cons_succ]
      refine take_three 2 5 7 rfl rfl rfl (by kernel_rfl) (by rfl) (by rfl) (by rfl) (fun K hK => ?_) (fun K hK => ?_) (fun K hK => ?_)
      · skip
        go_simp
        have hc1 := Since.alloc (Since.refl w1).drew (.cells (madeCells #[.bool false] N) 4)
        refine hK.out _ _ (HKC.out _ hc1) (fun hHeld1 => ?_)
        clear hK K hHeld
        try simp only [Act.put, List.setIfInBounds_toArray, List.set_cons_zero, List.set_cons_succ]
        refine take_two 5 7 rfl rfl (by kernel_rfl) (by rfl) (by rfl) (fun K hK => ?_) (fun K hK => ?_)
        · skip
          go_simp
          have hc2 := Since.alloc hc1 (.cells (madeCells #[nilS] N) 24)
          refine hK.out _ _ (HKC.out _ hc2) (fun hHeld2 => ?_)
          clear hK K hHeld1
          try simp only [Act.put, List.setIfInBounds_toArray, List.set_cons_zero, List.set_cons_succ]
          refine take_yes 6 (some 26) (v := ?_) rfl (by kernel_rfl) (by kernel_rfl) (by kernel_rfl) (by kernel_rfl) (fun _ _ _ h => h) (by rfl) (by assumption) ?_ ?_
          rotate_left
          · (intro w' hSw; (try dsimp only at hSw); go_simp; try with_reducible rfl)
          try simp only [Act.put, List.setIfInBounds_toArray, List.set_cons_zero, List.set_cons_succ]
          refine take_run 7 rfl (by kernel_rfl) (by rfl) (fun K hK => ?_)
          go_simp
          have hc3 := Since.alloc hc2 (.cells #[.int .i64 0, .slice none 0 0, .slice none 0 0] 39)
          refine hK.out _ _ (HKC.out _ hc3) (fun hHeld3 => ?_)
          clear hK K hHeld2
          try simp only [Act.put, List.setIfInBounds_toArray, List.set_cons_zero, List.set_cons_succ]
          refine take_run 8 rfl (by kernel_rfl) (by rfl) (fun K hK => ?_)
          go_simp
          have hcf := (Since.alloc (Since.alloc (Since.alloc (Since.refl w1).drew (.cells (madeCells #[.bool false] N) 4)) (.cells (madeCells #[nilS] N) 24)) (.cells #[.int .i64 0, .slice (some ⟨w1.heap.size, 0, none⟩) N N, .slice (some ⟨w1.heap.size + 1, 0, none⟩) N N] 39))
          refine hK.out _ _ (HKC.out _ hcf) (fun hHeldz => ?_)
          clear hK K hHeld3
          try simp only [Act.put, List.setIfInBounds_toArray, List.set_cons_zero, List.set_cons_succ]
          refine wpAnyH_done (by kernel_rfl) ?_ _
          clear hHeldz
          have FGB : Hid (OwnBo w1.heap.size (((w1.drew.alloc (.cells (madeCells #[.bool false] N) 4)).alloc (.cells (madeCells #[nilS] N) 24)).alloc (.cells #[.int .i64 0, .slice (some ⟨w1.heap.size, 0, none⟩) N N, .slice (some ⟨w1.heap.size + 1, 0, none⟩) N N] 39)) (.slice (some ⟨w1.heap.size, 0, none⟩) N N) (List.replicate N false)) := by
            have hz : w1.drew.heap.size = w1.heap.size := by simp
            have h := mkB_own w1.heap.size w1.drew N (by rw [hz]; omega) hNm
            rw [hz] at h
            exact ((h.since ((Since.refl (w1.drew.alloc (.cells (madeCells #[.bool false] N) 4))).alloc (.cells (madeCells #[nilS] N) 24))).since ((Since.refl ((w1.drew.alloc (.cells (madeCells #[.bool false] N) 4)).alloc (.cells (madeCells #[nilS] N) 24))).alloc (.cells #[.int .i64 0, .slice (some ⟨w1.heap.size, 0, none⟩) N N, .slice (some ⟨w1.heap.size + 1, 0, none⟩) N N] 39)))
          have FGI : Hid (((((w1.drew.alloc (.cells (madeCells #[.bool false] N) 4)).alloc (.cells (madeCells #[nilS] N) 24)).alloc (.cells #[.int .i64 0, .slice (some ⟨w1.heap.size, 0, none⟩) N N, .slice (some ⟨w1.heap.size + 1, 0, none⟩) N N] 39))).ownsRow w1.heap.size 24 1 (.slice (some ⟨w1.heap.size + 1, 0, none⟩) N N) N (List.replicate N nilS)) := by
            have hz : (w1.drew.alloc (.cells (madeCells #[.bool false] N) 4)).heap.size = w1.heap.size + 1 := by simp
            have h := mkI_own w1.heap.size (w1.drew.alloc (.cells (madeCells #[.bool false] N) 4)) N (by rw [hz]; omega) hNm
            rw [hz] at h
            exact (row_since h ((Since.refl ((w1.drew.alloc (.cells (madeCells #[.bool false] N) 4)).alloc (.cells (madeCells #[nilS] N) 24))).alloc (.cells #[.int .i64 0, .slice (some ⟨w1.heap.size, 0, none⟩) N N, .slice (some ⟨w1.heap.size + 1, 0, none⟩) N N] 39)))
          have FBX : Hid (Blk (((w1.drew.alloc (.cells (madeCells #[.bool false] N) 4)).alloc (.cells (madeCells #[nilS] N) 24)).alloc (.cells #[.int .i64 0, .slice (some ⟨w1.heap.size, 0, none⟩) N N, .slice (some ⟨w1.heap.size + 1, 0, none⟩) N N] 39)) (w1.heap.size + 1 + 1) 39 #[.int .i64 0, .slice (some ⟨w1.heap.size, 0, none⟩) N N, .slice (some ⟨w1.heap.size + 1, 0, none⟩) N N]) := by
            have hz : ((w1.drew.alloc (.cells (madeCells #[.bool false] N) 4)).alloc (.cells (madeCells #[nilS] N) 24)).heap.size = w1.heap.size + 1 + 1 := by simp
            have h := Blk.new (w := ((w1.drew.alloc (.cells (madeCells #[.bool false] N) 4)).alloc (.cells (madeCells #[nilS] N) 24))) hz.symm 39 #[.int .i64 0, .slice (some ⟨w1.heap.size, 0, none⟩) N N, .slice (some ⟨w1.heap.size + 1, 0, none⟩) N N]
            exact h
          have FM : Hid (MadeA w1 (((w1.drew.alloc (.cells (madeCells #[.bool false] N) 4)).alloc (.cells (madeCells #[nilS] N) 24)).alloc (.cells #[.int .i64 0, .slice (some ⟨w1.heap.size, 0, none⟩) N N, .slice (some ⟨w1.heap.size + 1, 0, none⟩) N N] 39)) (.pointer (some ⟨w1.heap.size + 1 + 1, 0, none⟩)) N) := ⟨_, _, _, rfl, ⟨by omega, by omega, by omega⟩, ⟨by omega, by omega, by omega⟩, FGB.out, FGI.out, FBX.out, hcf⟩
          clear FGB FGI FBX
          go_wp2_with fail
          go_meet
          exact FM.out
        · skip
          go_simp
          have hc2 := Since.alloc hc1 (.cells #[.int .i64 0, .slice none 0 0, .slice none 0 0] 39)
          refine hK.out _ _ (HKC.out _ hc2) (fun hHeld2 => ?_)
          clear hK K hHeld1
          try simp only [Act.put, List.setIfInBounds_toArray, List.set_cons_zero, List.set_cons_succ]
          refine take_run 5 rfl (by kernel_rfl) (by rfl) (fun K hK => ?_)
          go_simp
          have hc3 := Since.alloc hc2 (.cells (madeCells #[nilS] N) 24)
          refine hK.out _ _ (HKC.out _ hc3) (fun hHeld3 => ?_)
          clear hK K hHeld2
          try simp only [Act.put, List.setIfInBounds_toArray, List.set_cons_zero, List.set_cons_succ]
          refine take_yes 6 (some 26) (v := ?_) rfl (by kernel_rfl) (by kernel_rfl) (by kernel_rfl) (by kernel_rfl) (fun _ _ _ h => h) (by rfl) (by assumption) ?_ ?_
          rotate_left
          · (intro w' hSw; (try dsimp only at hSw); go_simp; try with_reducible rfl)
          try simp only [Act.put, List.setIfInBounds_toArray, List.set_cons_zero, List.set_cons_succ]
          refine take_run 8 rfl (by kernel_rfl) (by rfl) (fun K hK => ?_)
          go_simp
          have hcf := (Since.alloc (Since.alloc (Since.alloc (Since.refl w1).drew (.cells (madeCells #[.bool false] N) 4)) (.cells #[.int .i64 0, .slice (some ⟨w1.heap.size, 0, none⟩) N N, .slice (some ⟨w1.heap.size + 1 + 1, 0, none⟩) N N] 39)) (.cells (madeCells #[nilS] N) 24))
          refine hK.out _ _ (HKC.out _ hcf) (fun hHeldz => ?_)
          clear hK K hHeld3
          try simp only [Act.put, List.setIfInBounds_toArray, List.set_cons_zero, List.set_cons_succ]
          refine wpAnyH_done (by kernel_rfl) ?_ _
          clear hHeldz
          have FGB : Hid (OwnBo w1.heap.size (((w1.drew.alloc (.cells (madeCells #[.bool false] N) 4)).alloc (.cells #[.int .i64 0, .slice (some ⟨w1.heap.size, 0, none⟩) N N, .slice (some ⟨w1.heap.size + 1 + 1, 0, none⟩) N N] 39)).alloc (.cells (madeCells #[nilS] N) 24)) (.slice (some ⟨w1.heap.size, 0, none⟩) N N) (List.replicate N false)) := by
            have hz : w1.drew.heap.size = w1.heap.size := by simp
            have h := mkB_own w1.heap.size w1.drew N (by rw [hz]; omega) hNm
            rw [hz] at h
            exact ((h.since ((Since.refl (w1.drew.alloc (.cells (madeCells #[.bool false] N) 4))).alloc (.cells #[.int .i64 0, .slice (some ⟨w1.heap.size, 0, none⟩) N N, .slice (some ⟨w1.heap.size + 1 + 1, 0, none⟩) N N] 39))).since ((Since.refl ((w1.drew.alloc (.cells (madeCells #[.bool false] N) 4)).alloc (.cells #[.int .i64 0, .slice (some ⟨w1.heap.size, 0, none⟩) N N, .slice (some ⟨w1.heap.size + 1 + 1, 0, none⟩) N N] 39))).alloc (.cells (madeCells #[nilS] N) 24)))
          have FGI : Hid (((((w1.drew.alloc (.cells (madeCells #[.bool false] N) 4)).alloc (.cells #[.int .i64 0, .slice (some ⟨w1.heap.size, 0, none⟩) N N, .slice (some ⟨w1.heap.size + 1 + 1, 0, none⟩) N N] 39)).alloc (.cells (madeCells #[nilS] N) 24))).ownsRow w1.heap.size 24 1 (.slice (some ⟨w1.heap.size + 1 + 1, 0, none⟩) N N) N (List.replicate N nilS)) := by
            have hz : ((w1.drew.alloc (.cells (madeCells #[.bool false] N) 4)).alloc (.cells #[.int .i64 0, .slice (some ⟨w1.heap.size, 0, none⟩) N N, .slice (some ⟨w1.heap.size + 1 + 1, 0, none⟩) N N] 39)).heap.size = w1.heap.size + 1 + 1 := by simp
            have h := mkI_own w1.heap.size ((w1.drew.alloc (.cells (madeCells #[.bool false] N) 4)).alloc (.cells #[.int .i64 0, .slice (some ⟨w1.heap.size, 0, none⟩) N N, .slice (some ⟨w1.heap.size + 1 + 1, 0, none⟩) N N] 39)) N (by rw [hz]; omega) hNm
            rw [hz] at h
            exact h
          have FBX : Hid (Blk (((w1.drew.alloc (.cells (madeCells #[.bool false] N) 4)).alloc (.cells #[.int .i64 0, .slice (some ⟨w1.heap.size, 0, none⟩) N N, .slice (some ⟨w1.heap.size + 1 + 1, 0, none⟩) N N] 39)).alloc (.cells (madeCells #[nilS] N) 24)) (w1.heap.size + 1) 39 #[.int .i64 0, .slice (some ⟨w1.heap.size, 0, none⟩) N N, .slice (some ⟨w1.heap.size + 1 + 1, 0, none⟩) N N]) := by
            have hz : (w1.drew.alloc (.cells (madeCells #[.bool false] N) 4)).heap.size = w1.heap.size + 1 := by simp
            have h := Blk.new (w := (w1.drew.alloc (.cells (madeCells #[.bool false] N) 4))) hz.symm 39 #[.int .i64 0, .slice (some ⟨w1.heap.size, 0, none⟩) N N, .slice (some ⟨w1.heap.size + 1 + 1, 0, none⟩) N N]
            exact (h.since ((Since.refl ((w1.drew.alloc (.cells (madeCells #[.bool false] N) 4)).alloc (.cells #[.int .i64 0, .slice (some ⟨w1.heap.size, 0, none⟩) N N, .slice (some ⟨w1.heap.size + 1 + 1, 0, none⟩) N N] 39))).alloc (.cells (madeCells #[nilS] N) 24)))
          have FM : Hid (MadeA w1 (((w1.drew.alloc (.cells (madeCells #[.bool false] N) 4)).alloc (.cells #[.int .i64 0, .slice (some ⟨w1.heap.size, 0, none⟩) N N, .slice (some ⟨w1.heap.size + 1 + 1, 0, none⟩) N N] 39)).alloc (.cells (madeCells #[nilS] N) 24)) (.pointer (some ⟨w1.heap.size + 1, 0, none⟩)) N) := ⟨_, _, _, rfl, ⟨by omega, by omega, by omega⟩, ⟨by omega, by omega, by omega⟩, FGB.out, FGI.out, FBX.out, hcf⟩
          clear FGB FGI FBX
          go_wp2_with fail
          go_meet
          exact FM.out
      · skip
        go_simp
        have hc1 := Since.alloc (Since.refl w1).drew (.cells (madeCells #[nilS] N) 24)
        refine hK.out _ _ (HKC.out _ hc1) (fun hHeld1 => ?_)
        clear hK K hHeld
        try simp only [Act.put, List.setIfInBounds_toArray, List.set_cons_zero, List.set_cons_succ]
        refine take_two 2 7 rfl rfl (by kernel_rfl) (by rfl) (by rfl) (fun K hK => ?_) (fun K hK => ?_)
        · skip
          go_simp
          have hc2 := Since.alloc hc1 (.cells (madeCells #[.bool false] N) 4)
          refine hK.out _ _ (HKC.out _ hc2) (fun hHeld2 => ?_)
          clear hK K hHeld1
          try simp only [Act.put, List.setIfInBounds_toArray, List.set_cons_zero, List.set_cons_succ]
          refine take_yes 6 (some 26) (v := ?_) rfl (by kernel_rfl) (by kernel_rfl) (by kernel_rfl) (by kernel_rfl) (fun _ _ _ h => h) (by rfl) (by assumption) ?_ ?_
          rotate_left
          · (intro w' hSw; (try dsimp only at hSw); go_simp; try with_reducible rfl)
          try simp only [Act.put, List.setIfInBounds_toArray, List.set_cons_zero, List.set_cons_succ]
          refine take_run 7 rfl (by kernel_rfl) (by rfl) (fun K hK => ?_)
          go_simp
          have hc3 := Since.alloc hc2 (.cells #[.int .i64 0, .slice none 0 0, .slice none 0 0] 39)
          refine hK.out _ _ (HKC.out _ hc3) (fun hHeld3 => ?_)
          clear hK K hHeld2
          try simp only [Act.put, List.setIfInBounds_toArray, List.set_cons_zero, List.set_cons_succ]
          refine take_run 8 rfl (by kernel_rfl) (by rfl) (fun K hK => ?_)
          go_simp
          have hcf := (Since.alloc (Since.alloc (Since.alloc (Since.refl w1).drew (.cells (madeCells #[nilS] N) 24)) (.cells (madeCells #[.bool false] N) 4)) (.cells #[.int .i64 0, .slice (some ⟨w1.heap.size + 1, 0, none⟩) N N, .slice (some ⟨w1.heap.size, 0, none⟩) N N] 39))
          refine hK.out _ _ (HKC.out _ hcf) (fun hHeldz => ?_)
          clear hK K hHeld3
          try simp only [Act.put, List.setIfInBounds_toArray, List.set_cons_zero, List.set_cons_succ]
          refine wpAnyH_done (by kernel_rfl) ?_ _
          clear hHeldz
          have FGB : Hid (OwnBo w1.heap.size (((w1.drew.alloc (.cells (madeCells #[nilS] N) 24)).alloc (.cells (madeCells #[.bool false] N) 4)).alloc (.cells #[.int .i64 0, .slice (some ⟨w1.heap.size + 1, 0, none⟩) N N, .slice (some ⟨w1.heap.size, 0, none⟩) N N] 39)) (.slice (some ⟨w1.heap.size + 1, 0, none⟩) N N) (List.replicate N false)) := by
            have hz : (w1.drew.alloc (.cells (madeCells #[nilS] N) 24)).heap.size = w1.heap.size + 1 := by simp
            have h := mkB_own w1.heap.size (w1.drew.alloc (.cells (madeCells #[nilS] N) 24)) N (by rw [hz]; omega) hNm
            rw [hz] at h
            exact (h.since ((Since.refl ((w1.drew.alloc (.cells (madeCells #[nilS] N) 24)).alloc (.cells (madeCells #[.bool false] N) 4))).alloc (.cells #[.int .i64 0, .slice (some ⟨w1.heap.size + 1, 0, none⟩) N N, .slice (some ⟨w1.heap.size, 0, none⟩) N N] 39)))
          have FGI : Hid (((((w1.drew.alloc (.cells (madeCells #[nilS] N) 24)).alloc (.cells (madeCells #[.bool false] N) 4)).alloc (.cells #[.int .i64 0, .slice (some ⟨w1.heap.size + 1, 0, none⟩) N N, .slice (some ⟨w1.heap.size, 0, none⟩) N N] 39))).ownsRow w1.heap.size 24 1 (.slice (some ⟨w1.heap.size, 0, none⟩) N N) N (List.replicate N nilS)) := by
            have hz : w1.drew.heap.size = w1.heap.size := by simp
            have h := mkI_own w1.heap.size w1.drew N (by rw [hz]; omega) hNm
            rw [hz] at h
            exact (row_since (row_since h ((Since.refl (w1.drew.alloc (.cells (madeCells #[nilS] N) 24))).alloc (.cells (madeCells #[.bool false] N) 4))) ((Since.refl ((w1.drew.alloc (.cells (madeCells #[nilS] N) 24)).alloc (.cells (madeCells #[.bool false] N) 4))).alloc (.cells #[.int .i64 0, .slice (some ⟨w1.heap.size + 1, 0, none⟩) N N, .slice (some ⟨w1.heap.size, 0, none⟩) N N] 39)))
          have FBX : Hid (Blk (((w1.drew.alloc (.cells (madeCells #[nilS] N) 24)).alloc (.cells (madeCells #[.bool false] N) 4)).alloc (.cells #[.int .i64 0, .slice (some ⟨w1.heap.size + 1, 0, none⟩) N N, .slice (some ⟨w1.heap.size, 0, none⟩) N N] 39)) (w1.heap.size + 1 + 1) 39 #[.int .i64 0, .slice (some ⟨w1.heap.size + 1, 0, none⟩) N N, .slice (some ⟨w1.heap.size, 0, none⟩) N N]) := by
            have hz : ((w1.drew.alloc (.cells (madeCells #[nilS] N) 24)).alloc (.cells (madeCells #[.bool false] N) 4)).heap.size = w1.heap.size + 1 + 1 := by simp
            have h := Blk.new (w := ((w1.drew.alloc (.cells (madeCells #[nilS] N) 24)).alloc (.cells (madeCells #[.bool false] N) 4))) hz.symm 39 #[.int .i64 0, .slice (some ⟨w1.heap.size + 1, 0, none⟩) N N, .slice (some ⟨w1.heap.size, 0, none⟩) N N]
            exact h
          have FM : Hid (MadeA w1 (((w1.drew.alloc (.cells (madeCells #[nilS] N) 24)).alloc (.cells (madeCells #[.bool false] N) 4)).alloc (.cells #[.int .i64 0, .slice (some ⟨w1.heap.size + 1, 0, none⟩) N N, .slice (some ⟨w1.heap.size, 0, none⟩) N N] 39)) (.pointer (some ⟨w1.heap.size + 1 + 1, 0, none⟩)) N) := ⟨_, _, _, rfl, ⟨by omega, by omega, by omega⟩, ⟨by omega, by omega, by omega⟩, FGB.out, FGI.out, FBX.out, hcf⟩
          clear FGB FGI FBX
          go_wp2_with fail
          go_meet
          exact FM.out
        · skip
          go_simp
          have hc2 := Since.alloc hc1 (.cells #[.int .i64 0, .slice none 0 0, .slice none 0 0] 39)
          refine hK.out _ _ (HKC.out _ hc2) (fun hHeld2 => ?_)
          clear hK K hHeld1
          try simp only [Act.put, List.setIfInBounds_toArray, List.set_cons_zero, List.set_cons_succ]
          refine take_run 2 rfl (by kernel_rfl) (by rfl) (fun K hK => ?_)
          go_simp
          have hc3 := Since.alloc hc2 (.cells (madeCells #[.bool false] N) 4)
          refine hK.out _ _ (HKC.out _ hc3) (fun hHeld3 => ?_)
          clear hK K hHeld2
          try simp only [Act.put, List.setIfInBounds_toArray, List.set_cons_zero, List.set_cons_succ]
          refine take_yes 6 (some 26) (v := ?_) rfl (by kernel_rfl) (by kernel_rfl) (by kernel_rfl) (by kernel_rfl) (fun _ _ _ h => h) (by rfl) (by assumption) ?_ ?_
          rotate_left
          · (intro w' hSw; (try dsimp only at hSw); go_simp; try with_reducible rfl)
          try simp only [Act.put, List.setIfInBounds_toArray, List.set_cons_zero, List.set_cons_succ]
          refine take_run 8 rfl (by kernel_rfl) (by rfl) (fun K hK => ?_)
          go_simp
          have hcf := (Since.alloc (Since.alloc (Since.alloc (Since.refl w1).drew (.cells (madeCells #[nilS] N) 24)) (.cells #[.int .i64 0, .slice (some ⟨w1.heap.size + 1 + 1, 0, none⟩) N N, .slice (some ⟨w1.heap.size, 0, none⟩) N N] 39)) (.cells (madeCells #[.bool false] N) 4))
          refine hK.out _ _ (HKC.out _ hcf) (fun hHeldz => ?_)
          clear hK K hHeld3
          try simp only [Act.put, List.setIfInBounds_toArray, List.set_cons_zero, List.set_cons_succ]
          refine wpAnyH_done (by kernel_rfl) ?_ _
          clear hHeldz
          have FGB : Hid (OwnBo w1.heap.size (((w1.drew.alloc (.cells (madeCells #[nilS] N) 24)).alloc (.cells #[.int .i64 0, .slice (some ⟨w1.heap.size + 1 + 1, 0, none⟩) N N, .slice (some ⟨w1.heap.size, 0, none⟩) N N] 39)).alloc (.cells (madeCells #[.bool false] N) 4)) (.slice (some ⟨w1.heap.size + 1 + 1, 0, none⟩) N N) (List.replicate N false)) := by
            have hz : ((w1.drew.alloc (.cells (madeCells #[nilS] N) 24)).alloc (.cells #[.int .i64 0, .slice (some ⟨w1.heap.size + 1 + 1, 0, none⟩) N N, .slice (some ⟨w1.heap.size, 0, none⟩) N N] 39)).heap.size = w1.heap.size + 1 + 1 := by simp
            have h := mkB_own w1.heap.size ((w1.drew.alloc (.cells (madeCells #[nilS] N) 24)).alloc (.cells #[.int .i64 0, .slice (some ⟨w1.heap.size + 1 + 1, 0, none⟩) N N, .slice (some ⟨w1.heap.size, 0, none⟩) N N] 39)) N (by rw [hz]; omega) hNm
            rw [hz] at h
            exact h
          have FGI : Hid (((((w1.drew.alloc (.cells (madeCells #[nilS] N) 24)).alloc (.cells #[.int .i64 0, .slice (some ⟨w1.heap.size + 1 + 1, 0, none⟩) N N, .slice (some ⟨w1.heap.size, 0, none⟩) N N] 39)).alloc (.cells (madeCells #[.bool false] N) 4))).ownsRow w1.heap.size 24 1 (.slice (some ⟨w1.heap.size, 0, none⟩) N N) N (List.replicate N nilS)) := by
            have hz : w1.drew.heap.size = w1.heap.size := by simp
            have h := mkI_own w1.heap.size w1.drew N (by rw [hz]; omega) hNm
            rw [hz] at h
            exact (row_since (row_since h ((Since.refl (w1.drew.alloc (.cells (madeCells #[nilS] N) 24))).alloc (.cells #[.int .i64 0, .slice (some ⟨w1.heap.size + 1 + 1, 0, none⟩) N N, .slice (some ⟨w1.heap.size, 0, none⟩) N N] 39))) ((Since.refl ((w1.drew.alloc (.cells (madeCells #[nilS] N) 24)).alloc (.cells #[.int .i64 0, .slice (some ⟨w1.heap.size + 1 + 1, 0, none⟩) N N, .slice (some ⟨w1.heap.size, 0, none⟩) N N] 39))).alloc (.cells (madeCells #[.bool false] N) 4)))
          have FBX : Hid (Blk (((w1.drew.alloc (.cells (madeCells #[nilS] N) 24)).alloc (.cells #[.int .i64 0, .slice (some ⟨w1.heap.size + 1 + 1, 0, none⟩) N N, .slice (some ⟨w1.heap.size, 0, none⟩) N N] 39)).alloc (.cells (madeCells #[.bool false] N) 4)) (w1.heap.size + 1) 39 #[.int .i64 0, .slice (some ⟨w1.heap.size + 1 + 1, 0, none⟩) N N, .slice (some ⟨w1.heap.size, 0, none⟩) N N]) := by
            have hz : (w1.drew.alloc (.cells (madeCells #[nilS] N) 24)).heap.size = w1.heap.size + 1 := by simp
            have h := Blk.new (w := (w1.drew.alloc (.cells (madeCells #[nilS] N) 24))) hz.symm 39 #[.int .i64 0, .slice (some ⟨w1.heap.size + 1 + 1, 0, none⟩) N N, .slice (some ⟨w1.heap.size, 0, none⟩) N N]
            exact (h.since ((Since.refl ((w1.drew.alloc (.cells (madeCells #[nilS] N) 24)).alloc (.cells #[.int .i64 0, .slice (some ⟨w1.heap.size + 1 + 1, 0, none⟩) N N, .slice (some ⟨w1.heap.size, 0, none⟩) N N] 39))).alloc (.cells (madeCells #[.bool false] N) 4)))
          have FM : Hid (MadeA w1 (((w1.drew.alloc (.cells (madeCells #[nilS] N) 24)).alloc (.cells #[.int .i64 0, .slice (some ⟨w1.heap.size + 1 + 1, 0, none⟩) N N, .slice (some ⟨w1.heap.size, 0, none⟩) N N] 39)).alloc (.cells (madeCells #[.bool false] N) 4)) (.pointer (some ⟨w1.heap.size + 1, 0, none⟩)) N) := ⟨_, _, _, rfl, ⟨by omega, by omega, by omega⟩, ⟨by omega, by omega, by omega⟩, FGB.out, FGI.out, FBX.out, hcf⟩
          clear FGB FGI FBX
          go_wp2_with fail
          go_meet
          exact FM.out
      · skip
        go_simp
        have hc1 := Since.alloc (Since.refl w1).drew (.cells #[.int .i64 0, .slice none 0 0, .slice none 0 0] 39)
        refine hK.out _ _ (HKC.out _ hc1) (fun hHeld1 => ?_)
        clear hK K hHeld
        try simp only [Act.put, List.setIfInBounds_toArray, List.set_cons_zero, List.set_cons_succ]
        refine take_two 2 5 rfl rfl (by kernel_rfl) (by rfl) (by rfl) (fun K hK => ?_) (fun K hK => ?_)
        · skip
          go_simp
          have hc2 := Since.alloc hc1 (.cells (madeCells #[.bool false] N) 4)
          refine hK.out _ _ (HKC.out _ hc2) (fun hHeld2 => ?_)
          clear hK K hHeld1
          try simp only [Act.put, List.setIfInBounds_toArray, List.set_cons_zero, List.set_cons_succ]
          refine take_run 5 rfl (by kernel_rfl) (by rfl) (fun K hK => ?_)
          go_simp
          have hc3 := Since.alloc hc2 (.cells (madeCells #[nilS] N) 24)
          refine hK.out _ _ (HKC.out _ hc3) (fun hHeld3 => ?_)
          clear hK K hHeld2
          try simp only [Act.put, List.setIfInBounds_toArray, List.set_cons_zero, List.set_cons_succ]
          refine take_yes 6 (some 26) (v := ?_) rfl (by kernel_rfl) (by kernel_rfl) (by kernel_rfl) (by kernel_rfl) (fun _ _ _ h => h) (by rfl) (by assumption) ?_ ?_
          rotate_left
          · (intro w' hSw; (try dsimp only at hSw); go_simp; try with_reducible rfl)
          try simp only [Act.put, List.setIfInBounds_toArray, List.set_cons_zero, List.set_cons_succ]
          refine take_run 8 rfl (by kernel_rfl) (by rfl) (fun K hK => ?_)
          go_simp
          have hcf := (Since.alloc (Since.alloc (Since.alloc (Since.refl w1).drew (.cells #[.int .i64 0, .slice (some ⟨w1.heap.size + 1, 0, none⟩) N N, .slice (some ⟨w1.heap.size + 1 + 1, 0, none⟩) N N] 39)) (.cells (madeCells #[.bool false] N) 4)) (.cells (madeCells #[nilS] N) 24))
          refine hK.out _ _ (HKC.out _ hcf) (fun hHeldz => ?_)
          clear hK K hHeld3
          try simp only [Act.put, List.setIfInBounds_toArray, List.set_cons_zero, List.set_cons_succ]
          refine wpAnyH_done (by kernel_rfl) ?_ _
          clear hHeldz
          have FGB : Hid (OwnBo w1.heap.size (((w1.drew.alloc (.cells #[.int .i64 0, .slice (some ⟨w1.heap.size + 1, 0, none⟩) N N, .slice (some ⟨w1.heap.size + 1 + 1, 0, none⟩) N N] 39)).alloc (.cells (madeCells #[.bool false] N) 4)).alloc (.cells (madeCells #[nilS] N) 24)) (.slice (some ⟨w1.heap.size + 1, 0, none⟩) N N) (List.replicate N false)) := by
            have hz : (w1.drew.alloc (.cells #[.int .i64 0, .slice (some ⟨w1.heap.size + 1, 0, none⟩) N N, .slice (some ⟨w1.heap.size + 1 + 1, 0, none⟩) N N] 39)).heap.size = w1.heap.size + 1 := by simp
            have h := mkB_own w1.heap.size (w1.drew.alloc (.cells #[.int .i64 0, .slice (some ⟨w1.heap.size + 1, 0, none⟩) N N, .slice (some ⟨w1.heap.size + 1 + 1, 0, none⟩) N N] 39)) N (by rw [hz]; omega) hNm
            rw [hz] at h
            exact (h.since ((Since.refl ((w1.drew.alloc (.cells #[.int .i64 0, .slice (some ⟨w1.heap.size + 1, 0, none⟩) N N, .slice (some ⟨w1.heap.size + 1 + 1, 0, none⟩) N N] 39)).alloc (.cells (madeCells #[.bool false] N) 4))).alloc (.cells (madeCells #[nilS] N) 24)))
          have FGI : Hid (((((w1.drew.alloc (.cells #[.int .i64 0, .slice (some ⟨w1.heap.size + 1, 0, none⟩) N N, .slice (some ⟨w1.heap.size + 1 + 1, 0, none⟩) N N] 39)).alloc (.cells (madeCells #[.bool false] N) 4)).alloc (.cells (madeCells #[nilS] N) 24))).ownsRow w1.heap.size 24 1 (.slice (some ⟨w1.heap.size + 1 + 1, 0, none⟩) N N) N (List.replicate N nilS)) := by
            have hz : ((w1.drew.alloc (.cells #[.int .i64 0, .slice (some ⟨w1.heap.size + 1, 0, none⟩) N N, .slice (some ⟨w1.heap.size + 1 + 1, 0, none⟩) N N] 39)).alloc (.cells (madeCells #[.bool false] N) 4)).heap.size = w1.heap.size + 1 + 1 := by simp
            have h := mkI_own w1.heap.size ((w1.drew.alloc (.cells #[.int .i64 0, .slice (some ⟨w1.heap.size + 1, 0, none⟩) N N, .slice (some ⟨w1.heap.size + 1 + 1, 0, none⟩) N N] 39)).alloc (.cells (madeCells #[.bool false] N) 4)) N (by rw [hz]; omega) hNm
            rw [hz] at h
            exact h
          have FBX : Hid (Blk (((w1.drew.alloc (.cells #[.int .i64 0, .slice (some ⟨w1.heap.size + 1, 0, none⟩) N N, .slice (some ⟨w1.heap.size + 1 + 1, 0, none⟩) N N] 39)).alloc (.cells (madeCells #[.bool false] N) 4)).alloc (.cells (madeCells #[nilS] N) 24)) (w1.heap.size) 39 #[.int .i64 0, .slice (some ⟨w1.heap.size + 1, 0, none⟩) N N, .slice (some ⟨w1.heap.size + 1 + 1, 0, none⟩) N N]) := by
            have hz : w1.drew.heap.size = w1.heap.size := by simp
            have h := Blk.new (w := w1.drew) hz.symm 39 #[.int .i64 0, .slice (some ⟨w1.heap.size + 1, 0, none⟩) N N, .slice (some ⟨w1.heap.size + 1 + 1, 0, none⟩) N N]
            exact ((h.since ((Since.refl (w1.drew.alloc (.cells #[.int .i64 0, .slice (some ⟨w1.heap.size + 1, 0, none⟩) N N, .slice (some ⟨w1.heap.size + 1 + 1, 0, none⟩) N N] 39))).alloc (.cells (madeCells #[.bool false] N) 4))).since ((Since.refl ((w1.drew.alloc (.cells #[.int .i64 0, .slice (some ⟨w1.heap.size + 1, 0, none⟩) N N, .slice (some ⟨w1.heap.size + 1 + 1, 0, none⟩) N N] 39)).alloc (.cells (madeCells #[.bool false] N) 4))).alloc (.cells (madeCells #[nilS] N) 24)))
          have FM : Hid (MadeA w1 (((w1.drew.alloc (.cells #[.int .i64 0, .slice (some ⟨w1.heap.size + 1, 0, none⟩) N N, .slice (some ⟨w1.heap.size + 1 + 1, 0, none⟩) N N] 39)).alloc (.cells (madeCells #[.bool false] N) 4)).alloc (.cells (madeCells #[nilS] N) 24)) (.pointer (some ⟨w1.heap.size, 0, none⟩)) N) := ⟨_, _, _, rfl, ⟨by omega, by omega, by omega⟩, ⟨by omega, by omega, by omega⟩, FGB.out, FGI.out, FBX.out, hcf⟩
          clear FGB FGI FBX
          go_wp2_with fail
          go_meet
          exact FM.out
        · skip
          go_simp
          have hc2 := Since.alloc hc1 (.cells (madeCells #[nilS] N) 24)
          refine hK.out _ _ (HKC.out _ hc2) (fun hHeld2 => ?_)
          clear hK K hHeld1
          try simp only [Act.put, List.setIfInBounds_toArray, List.set_cons_zero, List.set_cons_succ]
          refine take_run 2 rfl (by kernel_rfl) (by rfl) (fun K hK => ?_)
          go_simp
          have hc3 := Since.alloc hc2 (.cells (madeCells #[.bool false] N) 4)
          refine hK.out _ _ (HKC.out _ hc3) (fun hHeld3 => ?_)
          clear hK K hHeld2
          try simp only [Act.put, List.setIfInBounds_toArray, List.set_cons_zero, List.set_cons_succ]
          refine take_yes 6 (some 26) (v := ?_) rfl (by kernel_rfl) (by kernel_rfl) (by kernel_rfl) (by kernel_rfl) (fun _ _ _ h => h) (by rfl) (by assumption) ?_ ?_
          rotate_left
          · (intro w' hSw; (try dsimp only at hSw); go_simp; try with_reducible rfl)
          try simp only [Act.put, List.setIfInBounds_toArray, List.set_cons_zero, List.set_cons_succ]
          refine take_run 8 rfl (by kernel_rfl) (by rfl) (fun K hK => ?_)
          go_simp
          have hcf := (Since.alloc (Since.alloc (Since.alloc (Since.refl w1).drew (.cells #[.int .i64 0, .slice (some ⟨w1.heap.size + 1 + 1, 0, none⟩) N N, .slice (some ⟨w1.heap.size + 1, 0, none⟩) N N] 39)) (.cells (madeCells #[nilS] N) 24)) (.cells (madeCells #[.bool false] N) 4))
          refine hK.out _ _ (HKC.out _ hcf) (fun hHeldz => ?_)
          clear hK K hHeld3
          try simp only [Act.put, List.setIfInBounds_toArray, List.set_cons_zero, List.set_cons_succ]
          refine wpAnyH_done (by kernel_rfl) ?_ _
          clear hHeldz
          have FGB : Hid (OwnBo w1.heap.size (((w1.drew.alloc (.cells #[.int .i64 0, .slice (some ⟨w1.heap.size + 1 + 1, 0, none⟩) N N, .slice (some ⟨w1.heap.size + 1, 0, none⟩) N N] 39)).alloc (.cells (madeCells #[nilS] N) 24)).alloc (.cells (madeCells #[.bool false] N) 4)) (.slice (some ⟨w1.heap.size + 1 + 1, 0, none⟩) N N) (List.replicate N false)) := by
            have hz : ((w1.drew.alloc (.cells #[.int .i64 0, .slice (some ⟨w1.heap.size + 1 + 1, 0, none⟩) N N, .slice (some ⟨w1.heap.size + 1, 0, none⟩) N N] 39)).alloc (.cells (madeCells #[nilS] N) 24)).heap.size = w1.heap.size + 1 + 1 := by simp
            have h := mkB_own w1.heap.size ((w1.drew.alloc (.cells #[.int .i64 0, .slice (some ⟨w1.heap.size + 1 + 1, 0, none⟩) N N, .slice (some ⟨w1.heap.size + 1, 0, none⟩) N N] 39)).alloc (.cells (madeCells #[nilS] N) 24)) N (by rw [hz]; omega) hNm
            rw [hz] at h
            exact h
          have FGI : Hid (((((w1.drew.alloc (.cells #[.int .i64 0, .slice (some ⟨w1.heap.size + 1 + 1, 0, none⟩) N N, .slice (some ⟨w1.heap.size + 1, 0, none⟩) N N] 39)).alloc (.cells (madeCells #[nilS] N) 24)).alloc (.cells (madeCells #[.bool false] N) 4))).ownsRow w1.heap.size 24 1 (.slice (some ⟨w1.heap.size + 1, 0, none⟩) N N) N (List.replicate N nilS)) := by
            have hz : (w1.drew.alloc (.cells #[.int .i64 0, .slice (some ⟨w1.heap.size + 1 + 1, 0, none⟩) N N, .slice (some ⟨w1.heap.size + 1, 0, none⟩) N N] 39)).heap.size = w1.heap.size + 1 := by simp
            have h := mkI_own w1.heap.size (w1.drew.alloc (.cells #[.int .i64 0, .slice (some ⟨w1.heap.size + 1 + 1, 0, none⟩) N N, .slice (some ⟨w1.heap.size + 1, 0, none⟩) N N] 39)) N (by rw [hz]; omega) hNm
            rw [hz] at h
            exact (row_since h ((Since.refl ((w1.drew.alloc (.cells #[.int .i64 0, .slice (some ⟨w1.heap.size + 1 + 1, 0, none⟩) N N, .slice (some ⟨w1.heap.size + 1, 0, none⟩) N N] 39)).alloc (.cells (madeCells #[nilS] N) 24))).alloc (.cells (madeCells #[.bool false] N) 4)))
          have FBX : Hid (Blk (((w1.drew.alloc (.cells #[.int .i64 0, .slice (some ⟨w1.heap.size + 1 + 1, 0, none⟩) N N, .slice (some ⟨w1.heap.size + 1, 0, none⟩) N N] 39)).alloc (.cells (madeCells #[nilS] N) 24)).alloc (.cells (madeCells #[.bool false] N) 4)) (w1.heap.size) 39 #[.int .i64 0, .slice (some ⟨w1.heap.size + 1 + 1, 0, none⟩) N N, .slice (some ⟨w1.heap.size + 1, 0, none⟩) N N]) := by
            have hz : w1.drew.heap.size = w1.heap.size := by simp
            have h := Blk.new (w := w1.drew) hz.symm 39 #[.int .i64 0, .slice (some ⟨w1.heap.size + 1 + 1, 0, none⟩) N N, .slice (some ⟨w1.heap.size + 1, 0, none⟩) N N]
            exact ((h.since ((Since.refl (w1.drew.alloc (.cells #[.int .i64 0, .slice (some ⟨w1.heap.size + 1 + 1, 0, none⟩) N N, .slice (some ⟨w1.heap.size + 1, 0, none⟩) N N] 39))).alloc (.cells (madeCells #[nilS] N) 24))).since ((Since.refl ((w1.drew.alloc (.cells #[.int .i64 0, .slice (some ⟨w1.heap.size + 1 + 1, 0, none⟩) N N, .slice (some ⟨w1.heap.size + 1, 0, none⟩) N N] 39)).alloc (.cells (madeCells #[nilS] N) 24))).alloc (.cells (madeCells #[.bool false] N) 4)))
          have FM : Hid (MadeA w1 (((w1.drew.alloc (.cells #[.int .i64 0, .slice (some ⟨w1.heap.size + 1 + 1, 0, none⟩) N N, .slice (some ⟨w1.heap.size + 1, 0, none⟩) N N] 39)).alloc (.cells (madeCells #[nilS] N) 24)).alloc (.cells (madeCells #[.bool false] N) 4)) (.pointer (some ⟨w1.heap.size, 0, none⟩)) N) := ⟨_, _, _, rfl, ⟨by omega, by omega, by omega⟩, ⟨by omega, by omega, by omega⟩, FGB.out, FGI.out, FBX.out, hcf⟩
          clear FGB FGI FBX
          go_wp2_with fail
          go_meet
          exact FM.out
    case rest =>
      obtain ⟨wx, hwx⟩ : ∃ W, W = wc := ⟨_, rfl⟩
      subst hwx
      obtain ⟨gb, gi, ga, hpp, ⟨k0, k1, k2⟩, hne, hOB, hOR, hBX, hsx⟩ := hcut
      subst hpp
      have HM2 := Since.keptMap HM.out hsx
      go_wp2_with (at_range; refine wpList_range_own _ rfl _ 159 rfl 3 3 lawI Try.underlying159 _ b n D rfl HM2 ?_; intro w0 hrg0 hg0 hz0)
      have hsr : Since wx w0 := (Since.refl wx).grown hg0 (fun _ h => by simp at h)
      have HRF := Lib.hid (Nat.lt_of_lt_of_le (Nat.lt_succ_self _) (Nat.le_of_eq hz0.symm))
      obtain ⟨r, hr⟩ : ∃ r, r = wx.heap.size := ⟨_, rfl⟩
      rw [← hr] at hrg0 ⊢
      have HRX := Lib.hid hr
      have hkr : w1.heap.size ≤ r := by rw [hr]; exact hsx.size
      have HMK : Hid (MkA w1.heap.size N gb gi ga acc (fs.map (rowOf step fs)) fs (Maps.has D) w0) :=
        (MkA.start HN.out hne hOB hOR hBX (fun i hi => by rw [HD.out.has]; simp)).since hsr
      have HS0 : Hid (Since w1 w0) := hsx.trans hsr
      clear HM2 hg0 hz0 hsr hr hOB hOR hBX hsx hne
      go_frame
      go_loopw [9] (fun _ wr => ∃ (left : Lit → Bool) (cnt : Nat), Hid (wr.ranges Try.prog 3 (plainElem Try.prog 3) b r n D left cnt) ∧ Hid (MkA w1.heap.size N gb gi ga acc (fs.map (rowOf step fs)) fs left wr) ∧ Hid (Since w1 wr)) (fun _ wr => wr.rangeLeft b r)
      case atStart => exact ⟨_, _, hrg0, HMK.out, HS0.out⟩
      case round =>
        obtain ⟨left, cnt, HRG, HK, HS⟩ := hrel
        have hrg := HRG.out
        go_wp2_with (at_next; refine wpList_next_ranges_ii _ rfl _ rfl 3 3 .i64 .i64 lawI Try.underlying3 Try.underlying3 b r n _ _ _ rfl hrg ?_ ?_)
        · intro hc0 hl0
          have hdone := HK.out.done HN.out (by simp [HN.out]) k1 hl0
          have HDN := Lib.hid hdone
          obtain ⟨⟨p0, p1, p2⟩, _⟩ := HK.out.bx.threeA
          obtain ⟨⟨r0, r1, r2⟩, r3, r4, r5⟩ := (C1.out.since HS.out).threeA
          clear hdone hrg
          go_wp2
          refine bodyPost_ret (v := .tuple #[.agg #[.int .i64 0, .slice (some ⟨gb, 0, none⟩) N N, .slice (some ⟨gi, 0, none⟩) N N], .bool true]) (by simp [results, Try.results184, go_sem, *]) rfl ?_
          refine ⟨_, rfl, ?_, ?_⟩
          · refine OwnA.wider (lo := w1.heap.size) (hi := wr.heap.size) ?_ (by omega) (by simp)
            iterate 3 (with_reducible refine OwnA.far1 ?_ (.inl (by omega)) _ _)
            exact HDN.out
          · iterate 3 (with_reducible refine Since.setCell ?_ (by simp <;> omega) _)
            exact HS1.out.trans HS.out
        · intro x c wn cnt1 hwx hwc hlx hat hrg1 hlt hg1 hsz1 hen
          have hx : x ∈ fs := HD.out.mem_of hat
          obtain ⟨i, hi, hxi, rfl⟩ := HD.out.look hx (hat _)
          have hMK1 := HK.out.iter hg1 (ranges_nocells hrg)
          have HSn : Hid (Since w1 wn) := HS.out.grown hg1 (fun j hj => by injection hj with hj; omega)
          have HR1 := Lib.hid hrg1
          have HM1 := Lib.hid hMK1
          have hMs : Hid (cnt1 < cnt) := hlt
          have HLE : Hid (wr.rangeLeft b r = cnt) := hrg.left_eq
          have hi2 : i < N := by rw [HN.out]; exact hi
          have hii : (i : Int) < (N : Int) := by omega
          have hi0 : (0 : Int) ≤ (i : Int) := by omega
          have HX := Lib.hid hx
          have HXI := Lib.hid hxi
          clear hat hrg hlt hg1 hsz1 hMK1 hrg1 hx hxi hlx hwc HRG HK
          go_upto_region 8 with fail
          obtain ⟨⟨u1, c1⟩, f1, hgbl, hbt⟩ := HM1.out.cellB hi2
          have HKC : Hid (∀ w', Since wn w' → (w'.cell? ⟨ga, 1, none⟩ = some (.slice (some ⟨gb, 0, none⟩) N N) ∧ w'.cell? ⟨w.heap.size, 1, none⟩ = some (.func (.func 162) #[] #[.pointer (some ⟨BA, 0, none⟩)])) ∧ w'.cell? ⟨gb, i, none⟩ = some u1 ∧ w'.frozen? ⟨gb, i, none⟩ = false) := by
            intro w' hs
            obtain ⟨⟨r0, r1, r2⟩, _⟩ := (HM1.out.bx.since hs).threeA
            obtain ⟨⟨q0, q1, q2⟩, _⟩ := (C0.out.since (HSn.out.trans hs)).threeA
            exact ⟨⟨r1, q1⟩, (Below.cell hs (p := ⟨gb, i, none⟩) hgbl).trans c1, (Below.frozen hs (p := ⟨gb, i, none⟩) hgbl).trans f1⟩
          clear c1 f1
          go_wp2_with fail
          refine wp_region_held_drew (S := (fun w' => w'.cell? ⟨ga, 1, none⟩ = some (.slice (some ⟨gb, 0, none⟩) N N) ∧ w'.cell? ⟨w.heap.size, 1, none⟩ = some (.func (.func 162) #[] #[.pointer (some ⟨BA, 0, none⟩)]))) (by kernel_rfl) (HKC.out _ (Since.refl _).drew).1 (fun hHeld => ?_)
          refine take_yes 0 (some 34) (v := ?_) rfl (by kernel_rfl) (by kernel_rfl) (by kernel_rfl) (by kernel_rfl) (fun _ _ _ h => h) (by rfl) (by assumption) ?_ ?_
          rotate_left
          · (intro w' hSw; (try dsimp only at hSw); go_simp; try with_reducible rfl)
          try simp only [Act.put, List.setIfInBounds_toArray, List.set_cons_zero, List.set_cons_succ]
          refine take_yes 1 (some 35) (v := ?_) rfl (by kernel_rfl) (by kernel_rfl) (by kernel_rfl) (by kernel_rfl) (fun _ _ _ h => h) (by rfl) (by assumption) ?_ ?_
          rotate_left
          · (intro w' hSw; (try dsimp only at hSw); go_simp; try with_reducible rfl)
          try simp only [Act.put, List.setIfInBounds_toArray, List.set_cons_zero, List.set_cons_succ]
          refine take_yes 2 (some 36) (v := ?_) rfl (by kernel_rfl) (by kernel_rfl) (by kernel_rfl) (by kernel_rfl) (fun _ _ _ h => h) (by rfl) (by assumption) ?_ ?_
          rotate_left
          · (intro w' hSw; (try dsimp only at hSw); go_simp; try with_reducible rfl)
          try simp only [Act.put, List.setIfInBounds_toArray, List.set_cons_zero, List.set_cons_succ]
          refine take_yes 3 (some 37) (v := ?_) rfl (by kernel_rfl) (by kernel_rfl) (by kernel_rfl) (by kernel_rfl) (fun _ _ _ h => h) (by rfl) (by assumption) ?_ ?_
          rotate_left
          · (intro w' hSw; (try dsimp only at hSw); go_simp; try with_reducible rfl)
          try simp only [Act.put, List.setIfInBounds_toArray, List.set_cons_zero, List.set_cons_succ]
          refine take_yes 4 (some 38) (v := ?_) rfl (by kernel_rfl) (by kernel_rfl) (by kernel_rfl) (by kernel_rfl) (fun _ _ _ h => h) (by rfl) (by assumption) ?_ ?_
          rotate_left
          · (intro w' hSw; (try dsimp only at hSw); go_simp; try with_reducible rfl)
          try simp only [Act.put, List.setIfInBounds_toArray, List.set_cons_zero, List.set_cons_succ]
          refine take_yes 5 (some 39) (v := ?_) rfl (by kernel_rfl) (by kernel_rfl) (by kernel_rfl) (by kernel_rfl) (fun _ _ _ h => h) (by rfl) (by assumption) ?_ ?_
          rotate_left
          · (intro w' hSw; (try dsimp only at hSw); go_simp; try with_reducible rfl)
          try simp only [Act.put, List.setIfInBounds_toArray, List.set_cons_zero, List.set_cons_succ]
          refine take_run 6 rfl (by kernel_rfl) (by rfl) (fun K hK => ?_)
          go_simp
          refine (HAC.out x _ (HS1.out.trans (HSn.out.trans (Since.refl _).drew)) (HFQ.out x HX.out)).mono ?_
          rintro e w2 ⟨rfl, hs2⟩
          have hc2 := Since.of_drew hs2
          refine hK.out _ _ (HKC.out _ hc2).1 (fun hHeld2 => ?_)
          clear hK K hHeld
          try simp only [Act.put, List.setIfInBounds_toArray, List.set_cons_zero, List.set_cons_succ]
          refine take_yes 7 (some 41) (v := ?_) rfl (by kernel_rfl) (by kernel_rfl) (by kernel_rfl) (by kernel_rfl) (fun _ _ _ h => h) (by rfl) (by assumption) ?_ ?_
          rotate_left
          · (intro w' hSw; (try dsimp only at hSw); go_simp; try with_reducible rfl)
          try simp only [Act.put, List.setIfInBounds_toArray, List.set_cons_zero, List.set_cons_succ]
          refine take_run 8 rfl (by kernel_rfl) (by rfl) (fun K hK => ?_)
          obtain ⟨_, c2, f2⟩ := HKC.out _ hc2
          go_simp
          have hmb := HM1.out.bool HD.out.nodup HN.out hi hc2
          rw [HXI.out] at hmb
          obtain ⟨hmb1, hmb2, hmb3⟩ := hmb
          obtain ⟨w3, hw3⟩ : ∃ w3, w3 = w2.setCell ⟨gb, i, none⟩ (.bool (acc x)) := ⟨_, rfl⟩
          have hs3 : Since w1 w3 := by rw [hw3]; exact (HSn.out.trans hc2).setCell k0 _
          have hr3 : w3.ranges Try.prog 3 (plainElem Try.prog 3) b r n D (fun z => left z && !z.sameKey (KY x)) cnt1 := by
            rw [hw3]
            obtain ⟨csb, fzb, hqb⟩ := (HM1.out.since hc2).cellB hi2 |>.2.2.2
            exact ranges_set (ranges_since HR1.out hc2) hqb i _
          rw [← hw3] at hmb1 hmb2 hmb3 ⊢
          have HB1 := Lib.hid hmb1
          have HB2 := Lib.hid hmb2
          have HB3 := Lib.hid hmb3
          have HR3 := Lib.hid hr3
          have HS3 := Lib.hid hs3
          have HNE := Lib.hid HM1.out.ne
          have hSt : w3.cell? ⟨ga, 1, none⟩ = some (.slice (some ⟨gb, 0, none⟩) N N) ∧ w3.cell? ⟨w.heap.size, 1, none⟩ = some (.func (.func 162) #[] #[.pointer (some ⟨BA, 0, none⟩)]) := by
            obtain ⟨⟨r0, r1, r2⟩, _⟩ := hmb3.threeA
            obtain ⟨⟨q0, q1, q2⟩, _⟩ := (C0.out.since hs3).threeA
            exact ⟨r1, q1⟩
          refine hK.out _ _ hSt (fun hHeldz => ?_)
          clear hK K hHeld2 hSt c2 f2 hmb1 hmb2 hmb3 hr3 hs3 hw3 HKC hc2 hs2
          try simp only [Act.put, List.setIfInBounds_toArray, List.set_cons_zero, List.set_cons_succ]
          refine wpAnyH_done (by kernel_rfl) ?_ _
          clear hHeldz
          go_upto_region 9 with fail
          have hcR : (∃ u, w3.cell? ⟨gi, i, none⟩ = some u) ∧ w3.frozen? ⟨gi, i, none⟩ = false ∧ gi < w3.heap.size ∧ ∃ cs fz, w3.heap[gi]? = some (.cells cs 24 fz) := by
            obtain ⟨a, b⟩ := HB2.out.cells hi2
            obtain ⟨ps, _, h2, _, _⟩ := HB2.out
            obtain ⟨cs, fz, hq⟩ := own_block_of h2 gi rfl
            exact ⟨a, b, heap_lt hq, cs, fz, hq⟩
          obtain ⟨⟨u2, c3⟩, f3, hgil, hgt⟩ := hcR
          have HKD : Hid (∀ w', Since w3 w' → (w'.cell? ⟨ga, 2, none⟩ = some (.slice (some ⟨gi, 0, none⟩) N N) ∧ w'.cell? ⟨w.heap.size, 0, none⟩ = some (.int .i64 s0) ∧ w'.cell? ⟨w.heap.size, 1, none⟩ = some (.func (.func 162) #[] #[.pointer (some ⟨BA, 0, none⟩)]) ∧ w'.cell? ⟨w.heap.size, 2, none⟩ = some (.func (.func 163) #[] #[.pointer (some ⟨BA, 0, none⟩), .pointer (some ⟨BL, 0, none⟩)])) ∧ w'.cell? ⟨gi, i, none⟩ = some u2 ∧ w'.frozen? ⟨gi, i, none⟩ = false) := by
            intro w' hs
            obtain ⟨⟨r0, r1, r2⟩, _⟩ := (HB3.out.since hs).threeA
            obtain ⟨⟨q0, q1, q2⟩, _⟩ := (C0.out.since (HS3.out.trans hs)).threeA
            exact ⟨⟨r2, q0, q1, q2⟩, (Below.cell hs (p := ⟨gi, i, none⟩) hgil).trans c3, (Below.frozen hs (p := ⟨gi, i, none⟩) hgil).trans f3⟩
          clear c3 f3
          go_wp2_with fail
          refine wp_region_held_drew (S := (fun w' => w'.cell? ⟨ga, 2, none⟩ = some (.slice (some ⟨gi, 0, none⟩) N N) ∧ w'.cell? ⟨w.heap.size, 0, none⟩ = some (.int .i64 s0) ∧ w'.cell? ⟨w.heap.size, 1, none⟩ = some (.func (.func 162) #[] #[.pointer (some ⟨BA, 0, none⟩)]) ∧ w'.cell? ⟨w.heap.size, 2, none⟩ = some (.func (.func 163) #[] #[.pointer (some ⟨BA, 0, none⟩), .pointer (some ⟨BL, 0, none⟩)]))) (by kernel_rfl) (HKD.out _ (Since.refl _).drew).1 (fun hHeld => ?_)
          refine take_yes 0 (some 42) (v := ?_) rfl (by kernel_rfl) (by kernel_rfl) (by kernel_rfl) (by kernel_rfl) (fun _ _ _ h => h) (by rfl) (by assumption) ?_ ?_
          rotate_left
          · (intro w' hSw; (try dsimp only at hSw); go_simp; try with_reducible rfl)
          try simp only [Act.put, List.setIfInBounds_toArray, List.set_cons_zero, List.set_cons_succ]
          refine take_yes 1 (some 43) (v := ?_) rfl (by kernel_rfl) (by kernel_rfl) (by kernel_rfl) (by kernel_rfl) (fun _ _ _ h => h) (by rfl) (by assumption) ?_ ?_
          rotate_left
          · (intro w' hSw; (try dsimp only at hSw); go_simp; try with_reducible rfl)
          try simp only [Act.put, List.setIfInBounds_toArray, List.set_cons_zero, List.set_cons_succ]
          refine take_yes 2 (some 44) (v := ?_) rfl (by kernel_rfl) (by kernel_rfl) (by kernel_rfl) (by kernel_rfl) (fun _ _ _ h => h) (by rfl) (by assumption) ?_ ?_
          rotate_left
          · (intro w' hSw; (try dsimp only at hSw); go_simp; try with_reducible rfl)
          try simp only [Act.put, List.setIfInBounds_toArray, List.set_cons_zero, List.set_cons_succ]
          refine take_yes 3 (some 45) (v := ?_) rfl (by kernel_rfl) (by kernel_rfl) (by kernel_rfl) (by kernel_rfl) (fun _ _ _ h => h) (by rfl) (by assumption) ?_ ?_
          rotate_left
          · (intro w' hSw; (try dsimp only at hSw); go_simp; try with_reducible rfl)
          try simp only [Act.put, List.setIfInBounds_toArray, List.set_cons_zero, List.set_cons_succ]
          refine take_yes 4 (some 46) (v := ?_) rfl (by kernel_rfl) (by kernel_rfl) (by kernel_rfl) (by kernel_rfl) (fun _ _ _ h => h) (by rfl) (by assumption) ?_ ?_
          rotate_left
          · (intro w' hSw; (try dsimp only at hSw); go_simp; try with_reducible rfl)
          try simp only [Act.put, List.setIfInBounds_toArray, List.set_cons_zero, List.set_cons_succ]
          refine take_yes 5 (some 47) (v := ?_) rfl (by kernel_rfl) (by kernel_rfl) (by kernel_rfl) (by kernel_rfl) (fun _ _ _ h => h) (by rfl) (by assumption) ?_ ?_
          rotate_left
          · (intro w' hSw; (try dsimp only at hSw); go_simp; try with_reducible rfl)
          try simp only [Act.put, List.setIfInBounds_toArray, List.set_cons_zero, List.set_cons_succ]
          refine take_run 6 rfl (by kernel_rfl) (by rfl) (fun K hK => ?_)
          go_simp
          refine (rowI_any _ BA BL step fs s0 x b n D _ (by have := HN.out; omega) (Since.keptMap HR3.out.owns (Since.refl _).drew) HD.out (HFC.out x HX.out) (fun k W hW hk => HNX.out x k W (HS1.out.trans (HS3.out.trans ((Since.refl _).drew.trans hW))) (HFQ.out x HX.out) hk)).mono ?_
          rintro e w4 ⟨v4, rfl, ho4, hs4⟩
          have hc4 := Since.of_drew hs4
          obtain ⟨vo, vc, rfl⟩ := ho4.len
          rw [rowOf_length] at ho4 ⊢
          have HO4 := Lib.hid ho4
          clear ho4
          refine hK.out _ _ (HKD.out _ hc4).1 (fun hHeld2 => ?_)
          clear hK K hHeld
          try simp only [Act.put, List.setIfInBounds_toArray, List.set_cons_zero, List.set_cons_succ]
          refine take_yes 7 (some 49) (v := ?_) rfl (by kernel_rfl) (by kernel_rfl) (by kernel_rfl) (by kernel_rfl) (fun _ _ _ h => h) (by rfl) (by assumption) ?_ ?_
          rotate_left
          · (intro w' hSw; (try dsimp only at hSw); go_simp; try with_reducible rfl)
          try simp only [Act.put, List.setIfInBounds_toArray, List.set_cons_zero, List.set_cons_succ]
          refine take_run 8 rfl (by kernel_rfl) (by rfl) (fun K hK => ?_)
          obtain ⟨_, c4, f4⟩ := HKD.out _ hc4
          go_simp
          have hmk := MkA.row HNE.out HD.out.nodup hi HN.out (by simp [HN.out]) (by rw [HXI.out]; exact HB1.out) HB2.out HB3.out hc4 hgil (p := .slice vo 9 vc) (by simp only [List.getElem_map]; rw [HXI.out]; exact HO4.out)
          rw [HXI.out] at hmk
          obtain ⟨w5, hw5⟩ : ∃ w5, w5 = w4.setCell ⟨gi, i, none⟩ (.slice vo 9 vc) := ⟨_, rfl⟩
          have hs5 : Since w1 w5 := by rw [hw5]; exact (HS3.out.trans hc4).setCell k1 _
          have hr5 : w5.ranges Try.prog 3 (plainElem Try.prog 3) b r n D (fun z => left z && !z.sameKey (KY x)) cnt1 := by
            rw [hw5]
            obtain ⟨ps, _, h2, _, _⟩ := HB2.out.since hc4
            obtain ⟨cs, fz, hq⟩ := own_block_of h2 gi rfl
            exact ranges_set (ranges_since HR3.out hc4) hq i _
          rw [← hw5] at hmk ⊢
          have HK5 := Lib.hid hmk
          have HR5 := Lib.hid hr5
          have HS5 := Lib.hid hs5
          have hSt : w5.cell? ⟨ga, 2, none⟩ = some (.slice (some ⟨gi, 0, none⟩) N N) ∧ w5.cell? ⟨w.heap.size, 0, none⟩ = some (.int .i64 s0) ∧ w5.cell? ⟨w.heap.size, 1, none⟩ = some (.func (.func 162) #[] #[.pointer (some ⟨BA, 0, none⟩)]) ∧ w5.cell? ⟨w.heap.size, 2, none⟩ = some (.func (.func 163) #[] #[.pointer (some ⟨BA, 0, none⟩), .pointer (some ⟨BL, 0, none⟩)]) := by
            obtain ⟨⟨r0, r1, r2⟩, _⟩ := hmk.bx.threeA
            obtain ⟨⟨q0, q1, q2⟩, _⟩ := (C0.out.since hs5).threeA
            exact ⟨r2, q0, q1, q2⟩
          refine hK.out _ _ hSt (fun hHeldz => ?_)
          clear hK K hHeld2 hSt c4 f4 hmk hr5 hs5 hw5 HKD hc4 hs4
          try simp only [Act.put, List.setIfInBounds_toArray, List.set_cons_zero, List.set_cons_succ]
          refine wpAnyH_done (by kernel_rfl) ?_ _
          clear hHeldz
          go_wp2
          go_roundw
          case rel => exact ⟨_, cnt1, HR5.out, HK5.out, HS5.out⟩
          case measure => rw [HR5.out.left_eq, HLE.out]; exact hMs.out
end Go.Proofs.Ytmaagihfjldgeaa
