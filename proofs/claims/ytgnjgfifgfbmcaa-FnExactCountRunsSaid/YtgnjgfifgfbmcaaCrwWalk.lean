/- The law of CountRuns, walked. -/
import Derived.Test.YtgnjgfifgfbmcaaPsE
import Derived.Test.YtgnjgfifgfbmcaaCnS
import Derived.Test.YtgnjgfifgfbmcaaCnI
import Derived.Test.YtgnjgfifgfbmcaaK1
namespace Go.Proofs.Ytgnjgfifgfbmcaa
set_option maxRecDepth 100000
open Go.ChangeShapes Go.WideShapes Go.ChangeAt Go.RowKit
set_option linter.unusedVariables false
set_option linter.unusedSimpArgs false

set_option maxHeartbeats 4000000 in
set_option maxRecDepth 100000 in
theorem fnExactCountRuns_walk (v0 : Value) (v1 : Value) (p : Psn) (z : List Int) (w : World) (h0 : PsAt w v0 p) (h1 : IntsAt w v1 z) (hl0 : p.ls.length ≤ maxLen ∧ p.fo.length ≤ maxLen) (hl1 : z.length ≤ maxLen) :
    Calls Try.prog 8 #[v0, v1] w fun e w' => e = .returned (.bool true) ∧ Since w w' := by
  have H0 := Lib.hid h0
  obtain ⟨a0, b0, rfl, ha0, hb0, hi1, hi2⟩ := h0
  obtain ⟨ao, ac, rfl, _⟩ := ha0.row
  obtain ⟨bo, bc, rfl, _⟩ := hb0.row
  clear ha0 hb0
  obtain ⟨n, hn⟩ : ∃ n, n = p.ls.length := ⟨_, rfl⟩
  obtain ⟨m, hm⟩ : ∃ m, m = p.fo.length := ⟨_, rfl⟩
  rw [← hn, ← hm] at H0 ⊢
  have HN := Lib.hid hn
  have HM := Lib.hid hm
  clear hn hm
  obtain ⟨y0, hy0⟩ : ∃ y, y = (w.alloc (.cells #[.slice ao n ac, .int .i64 p.fi, .int .i64 p.la, .slice bo m bc, .bool p.nu] 36)) := ⟨_, rfl⟩
  have hs0 : Since w y0 := by rw [hy0]; exact (Since.refl w).alloc _
  have hz0 : w.heap.size + 1 = y0.heap.size := by rw [hy0]; simp
  have bx0 : Hid (Blk y0 (w.heap.size) 36 #[.slice ao n ac, .int .i64 p.fi, .int .i64 p.la, .slice bo m bc, .bool p.nu]) := by rw [hy0]; exact Blk.new (by simp) _ _
  have HY := Lib.hid hy0
  clear hy0
  obtain ⟨hl9, hl8⟩ := hl0
  obtain ⟨⟨c0, c1, c2, c3, c4⟩, _⟩ := bx0.out.fiveP
  rw [HY.out] at c0 c1 c2 c3 c4
  have HZ := Lib.hid h1
  obtain ⟨zo, zc, rfl, _⟩ := h1.row
  clear h1
  obtain ⟨zn, hzn⟩ : ∃ zn, zn = z.length := ⟨_, rfl⟩
  rw [← hzn] at HZ hl1 ⊢
  have HZN := Lib.hid hzn
  clear hzn
  unfold maxLen at hl1
  by_cases hbig : 1048576 < zn
  · have hbi : (1048576 : Int) < (zn : Int) := by omega
    clear hbig
    go_enter Try.func8, Try.ntmps8
    go_wp2
    go_ret
    exact ⟨rfl, by rw [← HY.out]; exact hs0⟩
  have hbi : ¬ ((1048576 : Int) < (zn : Int)) := by omega
  have gz : z.length ≤ 1048577 := by have := HZN.out; omega
  clear hbig
  obtain ⟨x0, hx0⟩ : ∃ zz, zz = szP p 1048576 := ⟨_, rfl⟩
  have HSZ : Hid (∀ W, Since w W → Calls Try.prog 21 #[.agg #[.slice ao n ac, .int .i64 p.fi, .int .i64 p.la, .slice bo m bc, .bool p.nu], .int .i64 1048576] W fun e w' => e = .returned (.int .i64 x0) ∧ Since W w') := fun W hW => by rw [hx0]; exact szPositions_any _ p 1048576 W (H0.out.since hW) hl9 hl8 (by decide) (by decide)
  have hsm : ¬ (x0 < 0) → p.ls.length ≤ 1048576 ∧ p.fo.length ≤ 1048576 := by
    intro h
    rw [hx0] at h
    unfold szP at h
    split at h
    · omega
    · unfold szLeft at h
      split at h <;> omega
  clear hx0
  by_cases hz : x0 < 0
  · clear hsm
    go_enter Try.func8, Try.ntmps8
    go_wp2_with fail
    rw [← HY.out]
    refine (HSZ.out _ hs0).mono ?_
    rintro e wz ⟨rfl, hsz⟩
    go_wp2
    go_ret
    exact ⟨rfl, hs0.trans hsz⟩
  obtain ⟨gl1, gl2⟩ := hsm hz
  have HS : Hid (∀ V U W, PsAt W V p → IntsAt W U z → Calls Try.prog 33 #[V, U] W (fun e w' => e = .returned (.int .i64 ((crN p z : Int))) ∧ Since W w')) := fun V U W ka kb => specCR_any _ _ p z W ka kb (by unfold maxLen; omega) (by unfold maxLen; omega) gz
  have HI : Hid (∀ V U W, PsAt W V p → IntsAt W U z → Calls Try.prog 19 #[V, U] W (fun e w' => e = .returned (.int .i64 ((crN p z : Int))) ∧ Since W w')) := fun V U W ka kb => implCR_any _ _ p z W ka kb (by unfold maxLen; omega) (by unfold maxLen; omega) gz
  generalize (crN p z : Int) = R at HS HI
  have hv : (R != R) = false := by simp
  have HTP : Hid (∀ W, Since w W → Calls Try.prog 22 #[.agg #[.slice ao n ac, .int .i64 p.fi, .int .i64 p.la, .slice bo m bc, .bool p.nu]] W (PsOut W p)) := fun W hW => toPositions_any _ p W (H0.out.since hW) (by omega) (by omega)
  have HEQ : Hid (∀ V V' W, PsAt W V p → PsAt W V' p → Calls Try.prog 24 #[V, V'] W fun e w' => e = .returned (.bool true) ∧ Since W w') := fun V V' W ka kb => by
    have := eqPositions_any V V' p p W ka kb (by omega) (by omega) (by omega) (by omega)
    rw [decide_eq_true rfl] at this
    exact this
  have HEZ : Hid (∀ V V' W, IntsAt W V z → IntsAt W V' z → Calls Try.prog 32 #[V, V'] W fun e w' => e = .returned (.bool true) ∧ Since W w') := fun V V' W ka kb => by
    have := eqIntS_any V V' z z W ka kb (by omega) (by omega)
    rw [decide_eq_true rfl] at this
    exact this
  have HTZ : Hid (∀ W, Since w W → Calls Try.prog 30 #[.slice zo zn zc] W (OwnOut W z)) := fun W hW => toIntS_any _ z W (HZ.out.since hW) gz
  clear gl1 gl2 hl9 hl8
  go_enter Try.func8, Try.ntmps8
  go_wp2_with fail
  rw [← HY.out]
  refine (HSZ.out _ hs0).mono ?_
  rintro e wz ⟨rfl, hsz⟩
  have s1 := hs0.trans hsz
  have bx1 := Lib.hid (bx0.out.since hsz)
  clear bx0 hsz hs0 c0 c1 c2 c3 c4
  obtain ⟨⟨c0, c1, c2, c3, c4⟩, _⟩ := bx1.out.fiveP
  go_wp2_with fail
  refine (HTP.out _ s1).mono ?_
  rintro e w2 ⟨va, rfl, hoa, hs2⟩
  obtain ⟨pa, pb, rfl, ph, pk, pi⟩ := hoa
  have Op : Hid (OwnP _ _ (.agg #[pa, .int .i64 p.fi, .int .i64 p.la, pb, .bool p.nu]) p) := ⟨pa, pb, rfl, ph, pk, pi⟩
  obtain ⟨pao, pac, rfl⟩ := ph.len
  obtain ⟨pbo, pbc, rfl⟩ := pk.len
  clear ph pk pi
  rw [← HN.out, ← HM.out] at Op
  rw [← HN.out, ← HM.out]
  have s2 := s1.trans hs2
  have bx2 := Lib.hid (bx1.out.since hs2)
  clear bx1 c0 c1 c2 c3 c4
  go_wp2_with fail
  refine (HTZ.out _ s2).mono ?_
  rintro e w2z ⟨vz, rfl, hoz, hs2z⟩
  obtain ⟨uo, uc, rfl⟩ := hoz.len
  have OZ := Lib.hid hoz
  clear hoz
  rw [← HZN.out] at OZ ⊢
  have Op2 := Lib.hid (Op.out.since hs2z)
  have s2z := s2.trans hs2z
  have bx2z := Lib.hid (bx2.out.since hs2z)
  clear Op bx2
  go_wp2_with fail
  refine (HS.out _ _ _ Op2.out.at OZ.out.at).mono ?_
  rintro e w3 ⟨rfl, hs3⟩
  have s3 := s2z.trans hs3
  have bx3 := Lib.hid (bx2z.out.since hs3)
  clear Op2 OZ bx2z
  obtain ⟨⟨c0, c1, c2, c3, c4⟩, _⟩ := bx3.out.fiveP
  go_wp2_with fail
  refine (HTP.out _ s3).mono ?_
  rintro e w4 ⟨vb, rfl, hob, hs4⟩
  obtain ⟨qa, qb, rfl, qh, qk, qi⟩ := hob
  have Oq : Hid (OwnP _ _ (.agg #[qa, .int .i64 p.fi, .int .i64 p.la, qb, .bool p.nu]) p) := ⟨qa, qb, rfl, qh, qk, qi⟩
  obtain ⟨qao, qac, rfl⟩ := qh.len
  obtain ⟨qbo, qbc, rfl⟩ := qk.len
  clear qh qk qi
  rw [← HN.out, ← HM.out] at Oq
  rw [← HN.out, ← HM.out]
  have s4 := s3.trans hs4
  have bx4 := Lib.hid (bx3.out.since hs4)
  have k4 := s4.size
  clear bx3 c0 c1 c2 c3 c4
  obtain ⟨w5, hw5⟩ : ∃ w5, w5 = w4.alloc (.cells #[.slice qao n qac, .int .i64 p.fi, .int .i64 p.la, .slice qbo m qbc, .bool p.nu] 26) := ⟨_, rfl⟩
  have hs5 : Since w4 w5 := by rw [hw5]; exact (Since.refl w4).alloc _
  have bq : Hid (Blk w5 w4.heap.size 26 #[.slice qao n qac, .int .i64 p.fi, .int .i64 p.la, .slice qbo m qbc, .bool p.nu]) := by rw [hw5]; exact Blk.new rfl _ _
  have HW5 := Lib.hid hw5
  clear hw5
  have s5 := s4.trans hs5
  have bx5 := Lib.hid (bx4.out.since hs5)
  have Oq5 := Lib.hid (Oq.out.since hs5)
  clear bx4 Oq
  go_wp2_with fail
  rw [← HW5.out]
  refine (HTZ.out _ s5).mono ?_
  rintro e w6 ⟨vy, rfl, hoy, hs6⟩
  obtain ⟨tz, tc, rfl⟩ := hoy.len
  have OY := Lib.hid hoy
  clear hoy
  rw [← HZN.out] at OY ⊢
  have s6 := s5.trans hs6
  have bx6 := Lib.hid (bx5.out.since hs6)
  have bq6 := Lib.hid (bq.out.since hs6)
  have Oq6 := Lib.hid (Oq5.out.since hs6)
  clear bx5 bq Oq5
  obtain ⟨⟨d0, d1, d2, d3, d4⟩, _⟩ := bq6.out.fiveP
  go_wp2_with fail
  refine (HI.out _ _ _ Oq6.out.at OY.out.at).mono ?_
  rintro e w7 ⟨rfl, hs7⟩
  have OY7 := Lib.hid (OY.out.since hs7)
  clear OY
  have s7 := s6.trans hs7
  have bx7 := Lib.hid (bx6.out.since hs7)
  have bq7 := Lib.hid (bq6.out.since hs7)
  have Oq7 := Lib.hid (Oq6.out.since hs7)
  clear bx6 bq6 Oq6 d0 d1 d2 d3 d4
  have HKC : Hid (∀ w', Since w7 w' → w'.cell? ⟨w4.heap.size, 0, none⟩ = some (.slice qao n qac) ∧ w'.cell? ⟨w4.heap.size, 1, none⟩ = some (.int .i64 p.fi) ∧ w'.cell? ⟨w4.heap.size, 2, none⟩ = some (.int .i64 p.la) ∧ w'.cell? ⟨w4.heap.size, 3, none⟩ = some (.slice qbo m qbc) ∧ w'.cell? ⟨w4.heap.size, 4, none⟩ = some (.bool p.nu) ∧ w'.cell? ⟨w.heap.size, 0, none⟩ = some (.slice ao n ac) ∧ w'.cell? ⟨w.heap.size, 1, none⟩ = some (.int .i64 p.fi) ∧ w'.cell? ⟨w.heap.size, 2, none⟩ = some (.int .i64 p.la) ∧ w'.cell? ⟨w.heap.size, 3, none⟩ = some (.slice bo m bc) ∧ w'.cell? ⟨w.heap.size, 4, none⟩ = some (.bool p.nu)) := by
    intro w' hs
    obtain ⟨⟨r0, r1, r2, r3, r4⟩, _⟩ := (bq7.out.since hs).fiveP
    obtain ⟨⟨r5, r6, r7, r8, r9⟩, _⟩ := (bx7.out.since hs).fiveP
    exact ⟨r0, r1, r2, r3, r4, r5, r6, r7, r8, r9⟩
  go_wp2_with fail
  refine wp_region_held_drew (S := (fun w' => w'.cell? ⟨w4.heap.size, 0, none⟩ = some (.slice qao n qac) ∧ w'.cell? ⟨w4.heap.size, 1, none⟩ = some (.int .i64 p.fi) ∧ w'.cell? ⟨w4.heap.size, 2, none⟩ = some (.int .i64 p.la) ∧ w'.cell? ⟨w4.heap.size, 3, none⟩ = some (.slice qbo m qbc) ∧ w'.cell? ⟨w4.heap.size, 4, none⟩ = some (.bool p.nu) ∧ w'.cell? ⟨w.heap.size, 0, none⟩ = some (.slice ao n ac) ∧ w'.cell? ⟨w.heap.size, 1, none⟩ = some (.int .i64 p.fi) ∧ w'.cell? ⟨w.heap.size, 2, none⟩ = some (.int .i64 p.la) ∧ w'.cell? ⟨w.heap.size, 3, none⟩ = some (.slice bo m bc) ∧ w'.cell? ⟨w.heap.size, 4, none⟩ = some (.bool p.nu))) (by kernel_rfl) (HKC.out _ (Since.refl _).drew) (fun hHeld => ?_)
  refine take_yes 0 (some 33) (v := ?_) rfl (by kernel_rfl) (by kernel_rfl) (by kernel_rfl) (by kernel_rfl) (fun _ _ _ h => h) (by rfl) (by assumption) ?_ ?_
  rotate_left
  · (intro w' hSw; (try dsimp only at hSw); go_simp; try with_reducible rfl)
  try simp only [Act.put, List.setIfInBounds_toArray, List.set_cons_zero, List.set_cons_succ]
  refine take_yes 1 (some 34) (v := ?_) rfl (by kernel_rfl) (by kernel_rfl) (by kernel_rfl) (by kernel_rfl) (fun _ _ _ h => h) (by rfl) (by assumption) ?_ ?_
  rotate_left
  · (intro w' hSw; (try dsimp only at hSw); go_simp; try with_reducible rfl)
  try simp only [Act.put, List.setIfInBounds_toArray, List.set_cons_zero, List.set_cons_succ]
  refine take_run 2 rfl (by kernel_rfl) (by rfl) (fun K hK => ?_)
  go_simp
  refine (HTP.out _ (s7.drew)).mono ?_
  rintro e w8 ⟨vc, rfl, hoc, hs8⟩
  have hc8 := Since.of_drew hs8
  refine hK.out _ _ (HKC.out _ hc8) (fun hHeld2 => ?_)
  clear hK K hHeld
  try simp only [Act.put, List.setIfInBounds_toArray, List.set_cons_zero, List.set_cons_succ]
  refine take_run 3 rfl (by kernel_rfl) (by rfl) (fun K hK => ?_)
  go_simp
  refine (HEQ.out _ _ _ (Oq7.out.since hc8).at hoc.at).mono ?_
  rintro e w9 ⟨rfl, hs9⟩
  have hc9 := hc8.trans hs9
  refine hK.out _ _ (HKC.out _ hc9) (fun hHeld3 => ?_)
  clear hK K hHeld2
  try simp only [Act.put, List.setIfInBounds_toArray, List.set_cons_zero, List.set_cons_succ]
  refine take_yes 4 (some 37) (v := ?_) rfl (by kernel_rfl) (by kernel_rfl) (by kernel_rfl) (by kernel_rfl) (fun _ _ _ h => h) (by rfl) (by assumption) ?_ ?_
  rotate_left
  · (intro w' hSw; (try dsimp only at hSw); go_simp; try with_reducible rfl)
  try simp only [Act.put, List.setIfInBounds_toArray, List.set_cons_zero, List.set_cons_succ]
  refine wpAnyH_done (by kernel_rfl) ?_ _
  clear hHeld3
  have s9 := s7.trans hc9
  have OY9 := Lib.hid (OY7.out.since hc9)
  go_wp2_with fail
  refine (HTZ.out _ s9).mono ?_
  rintro e w10 ⟨vx, rfl, hox, hs10⟩
  obtain ⟨tz2, tc2, rfl⟩ := hox.len
  rw [← HZN.out] at hox ⊢
  have OX := Lib.hid hox
  clear hox
  have s10 := s9.trans hs10
  go_wp2_with fail
  refine (HEZ.out _ _ _ (OY9.out.since hs10).at OX.out.at).mono ?_
  rintro e w11 ⟨rfl, hs11⟩
  have s11 := s10.trans hs11
  go_wp2
  go_ret
  exact ⟨rfl, s11⟩
end Go.Proofs.Ytgnjgfifgfbmcaa
