/- The law of IsMinimal, walked. -/
import Derived.Test.YtcokggjekleabaaA1
import Derived.Test.YtcokggjekleabaaMnI
import Derived.Test.YtcokggjekleabaaOpenI
import Derived.Test.YtcokggjekleabaaK1
namespace Go.Proofs.Ytcokggjekleabaa
set_option maxRecDepth 100000
open Go.ChangeShapes Go.WideShapes Go.ChangeAt Go.RowKit
set_option linter.unusedVariables false
set_option linter.unusedSimpArgs false

set_option maxHeartbeats 4000000 in
set_option maxRecDepth 100000 in
theorem fnExactIsMinimal_walk (v0 : Value) (p : Aut) (w : World) (h0 : AutAt w v0 p) (hl0 : MxA p) :
    Calls Try.prog 11 #[v0] w fun e w' => e = .returned (.bool true) ∧ Since w w' := by
  have H0 := Lib.hid h0
  obtain ⟨a0, b0, rfl, hi1, ha0, hb0⟩ := h0
  obtain ⟨ao, ac, rfl⟩ := ha0.len
  obtain ⟨bo, bc, rfl⟩ := hb0.len
  clear ha0 hb0
  obtain ⟨n, hn⟩ : ∃ n, n = p.ac.length := ⟨_, rfl⟩
  obtain ⟨m, hm⟩ : ∃ m, m = p.nx.length := ⟨_, rfl⟩
  rw [← hn, ← hm] at H0 ⊢
  have HN := Lib.hid hn
  have HM := Lib.hid hm
  clear hn hm
  obtain ⟨y0, hy0⟩ : ∃ y, y = (w.alloc (.cells #[.int .i64 p.st, .slice ao n ac, .slice bo m bc] 52)) := ⟨_, rfl⟩
  have hs0 : Since w y0 := by rw [hy0]; exact (Since.refl w).alloc _
  have hz0 : w.heap.size + 1 = y0.heap.size := by rw [hy0]; simp
  have bx0 : Hid (Blk y0 (w.heap.size) 52 #[.int .i64 p.st, .slice ao n ac, .slice bo m bc]) := by rw [hy0]; exact Blk.new (by simp) _ _
  have HY := Lib.hid hy0
  clear hy0
  have hl9 := hl0
  obtain ⟨⟨c0, c1, c2⟩, _⟩ := bx0.out.threeA
  rw [HY.out] at c0 c1 c2
  obtain ⟨x0, hx0⟩ : ∃ zz, zz = szA p 1048576 := ⟨_, rfl⟩
  have HSZ : Hid (∀ W, Since w W → Calls Try.prog 38 #[.agg #[.int .i64 p.st, .slice ao n ac, .slice bo m bc], .int .i64 1048576] W fun e w' => e = .returned (.int .i64 x0) ∧ Since W w') := fun W hW => by rw [hx0]; exact szAutomaton_any _ p 1048576 W (H0.out.since hW) hl9 (by decide) (by decide)
  have hsm : ¬ (x0 < 0) → SmA p := by
    intro h
    rw [hx0] at h
    exact szA_small h
  clear hx0
  by_cases hz : x0 < 0
  · clear hsm
    go_enter Try.func11, Try.ntmps11
    go_wp2_with fail
    rw [← HY.out]
    refine (HSZ.out _ hs0).mono ?_
    rintro e wz ⟨rfl, hsz⟩
    go_wp2
    go_ret
    exact ⟨rfl, hs0.trans hsz⟩
  have gl1 := hsm hz
  obtain ⟨f, hf⟩ := pred_bool (LiveP p)
  have HS : Hid (∀ V W, AutAt W V p → Calls Try.prog 46 #[V] W (fun e w' => e = .returned (.bool (mnB p f)) ∧ Since W w')) := fun V W ka => specMN_any V p f W ka gl1.bg.mx gl1.bg hf
  have HI : Hid (∀ V W, AutAt W V p → Calls Try.prog 47 #[V] W (fun e w' => e = .returned (.bool (mnB p f)) ∧ Since W w')) := fun V W ka => implMN_any V p f W ka gl1.bg.mx gl1.bg hf
  generalize mnB p f = R at HS HI
  have hv : (R == R) = true := by simp
  have HTP : Hid (∀ W, Since w W → Calls Try.prog 40 #[.agg #[.int .i64 p.st, .slice ao n ac, .slice bo m bc]] W (AOut W p)) := fun W hW => toAutomaton_any _ p W (H0.out.since hW) gl1
  have HEQ : Hid (∀ V V' W, AutAt W V p → AutAt W V' p → Calls Try.prog 35 #[V, V'] W fun e w' => e = .returned (.bool true) ∧ Since W w') := fun V V' W ka kb => by
    have := eqAutomaton_any V V' p p W ka kb gl1.bg gl1.bg
    rw [decide_eq_true rfl] at this
    exact this
  clear gl1 hl9
  go_enter Try.func11, Try.ntmps11
  go_wp2_with fail
  rw [← HY.out]
  refine (HSZ.out _ hs0).mono ?_
  rintro e wz ⟨rfl, hsz⟩
  have s1 := hs0.trans hsz
  have bx1 := Lib.hid (bx0.out.since hsz)
  clear bx0 hsz hs0 c0 c1 c2
  obtain ⟨⟨c0, c1, c2⟩, _⟩ := bx1.out.threeA
  go_wp2_with fail
  refine (HTP.out _ s1).mono ?_
  rintro e w2 ⟨va, rfl, hoa, hs2⟩
  obtain ⟨pa, pb, rfl, pi, ph, pr, pk⟩ := hoa
  have Op : Hid (OwnA _ _ _ (.agg #[.int .i64 p.st, pa, pb]) p) := ⟨pa, pb, rfl, pi, ph, pr, pk⟩
  obtain ⟨pao, pac, rfl⟩ := ph.len
  obtain ⟨pbo, pbc, rfl⟩ := pk.len
  clear ph pk pi pr
  rw [← HN.out, ← HM.out] at Op
  rw [← HN.out, ← HM.out]
  have s2 := s1.trans hs2
  have bx2 := Lib.hid (bx1.out.since hs2)
  clear bx1 c0 c1 c2
  go_wp2_with fail
  refine (HS.out _ _ Op.out.at).mono ?_
  rintro e w3 ⟨rfl, hs3⟩
  have s3 := s2.trans hs3
  have bx3 := Lib.hid (bx2.out.since hs3)
  clear Op bx2
  obtain ⟨⟨c0, c1, c2⟩, _⟩ := bx3.out.threeA
  go_wp2_with fail
  refine (HTP.out _ s3).mono ?_
  rintro e w4 ⟨vb, rfl, hob, hs4⟩
  obtain ⟨qa, qb, rfl, qi, qh, qr, qk⟩ := hob
  have Oq : Hid (OwnA _ _ _ (.agg #[.int .i64 p.st, qa, qb]) p) := ⟨qa, qb, rfl, qi, qh, qr, qk⟩
  obtain ⟨qao, qac, rfl⟩ := qh.len
  obtain ⟨qbo, qbc, rfl⟩ := qk.len
  clear qh qk qi qr
  rw [← HN.out, ← HM.out] at Oq
  rw [← HN.out, ← HM.out]
  have s4 := s3.trans hs4
  have bx4 := Lib.hid (bx3.out.since hs4)
  have k4 := s4.size
  clear bx3 c0 c1 c2
  obtain ⟨w5, hw5⟩ : ∃ w5, w5 = w4.alloc (.cells #[.int .i64 p.st, .slice qao n qac, .slice qbo m qbc] 27) := ⟨_, rfl⟩
  have hs5 : Since w4 w5 := by rw [hw5]; exact (Since.refl w4).alloc _
  have bq : Hid (Blk w5 w4.heap.size 27 #[.int .i64 p.st, .slice qao n qac, .slice qbo m qbc]) := by rw [hw5]; exact Blk.new rfl _ _
  have HW5 := Lib.hid hw5
  clear hw5
  have s5 := s4.trans hs5
  have bx5 := Lib.hid (bx4.out.since hs5)
  have Oq5 := Lib.hid (Oq.out.since hs5)
  clear bx4 Oq
  obtain ⟨⟨d0, d1, d2⟩, _⟩ := bq.out.threeA
  rw [HW5.out] at d0 d1 d2
  go_wp2_with fail
  rw [← HW5.out]
  refine (HI.out _ _ Oq5.out.at).mono ?_
  rintro e w7 ⟨rfl, hs7⟩
  have s6 := s5
  have bx6 := bx5
  have bq6 := bq
  have Oq6 := Oq5
  clear bx5 bq Oq5
  have s7 := s6.trans hs7
  have bx7 := Lib.hid (bx6.out.since hs7)
  have bq7 := Lib.hid (bq6.out.since hs7)
  have Oq7 := Lib.hid (Oq6.out.since hs7)
  clear bx6 bq6 Oq6 d0 d1 d2
  have HKC : Hid (∀ w', Since w7 w' → w'.cell? ⟨w4.heap.size, 0, none⟩ = some (.int .i64 p.st) ∧ w'.cell? ⟨w4.heap.size, 1, none⟩ = some (.slice qao n qac) ∧ w'.cell? ⟨w4.heap.size, 2, none⟩ = some (.slice qbo m qbc) ∧ w'.cell? ⟨w.heap.size, 0, none⟩ = some (.int .i64 p.st) ∧ w'.cell? ⟨w.heap.size, 1, none⟩ = some (.slice ao n ac) ∧ w'.cell? ⟨w.heap.size, 2, none⟩ = some (.slice bo m bc)) := by
    intro w' hs
    obtain ⟨⟨r0, r1, r2⟩, _⟩ := (bq7.out.since hs).threeA
    obtain ⟨⟨r5, r6, r7⟩, _⟩ := (bx7.out.since hs).threeA
    exact ⟨r0, r1, r2, r5, r6, r7⟩
  go_wp2_with fail
  refine wp_region_held_drew (S := (fun w' => w'.cell? ⟨w4.heap.size, 0, none⟩ = some (.int .i64 p.st) ∧ w'.cell? ⟨w4.heap.size, 1, none⟩ = some (.slice qao n qac) ∧ w'.cell? ⟨w4.heap.size, 2, none⟩ = some (.slice qbo m qbc) ∧ w'.cell? ⟨w.heap.size, 0, none⟩ = some (.int .i64 p.st) ∧ w'.cell? ⟨w.heap.size, 1, none⟩ = some (.slice ao n ac) ∧ w'.cell? ⟨w.heap.size, 2, none⟩ = some (.slice bo m bc))) (by kernel_rfl) (HKC.out _ (Since.refl _).drew) (fun hHeld => ?_)
  refine take_yes 0 (some 22) (v := ?_) rfl (by kernel_rfl) (by kernel_rfl) (by kernel_rfl) (by kernel_rfl) (fun _ _ _ h => h) (by rfl) (by assumption) ?_ ?_
  rotate_left
  · (intro w' hSw; (try dsimp only at hSw); go_simp; try with_reducible rfl)
  try simp only [Act.put, List.setIfInBounds_toArray, List.set_cons_zero, List.set_cons_succ]
  refine take_yes 1 (some 23) (v := ?_) rfl (by kernel_rfl) (by kernel_rfl) (by kernel_rfl) (by kernel_rfl) (fun _ _ _ h => h) (by rfl) (by assumption) ?_ ?_
  rotate_left
  · (intro w' hSw; (try dsimp only at hSw); go_simp; try with_reducible rfl)
  try simp only [Act.put, List.setIfInBounds_toArray, List.set_cons_zero, List.set_cons_succ]
  refine take_run 2 rfl (by kernel_rfl) (by rfl) (fun K hK => ?_)
  go_simp
  refine (HTP.out _ (s7.drew)).mono ?_
  rintro e w8 ⟨vc, rfl, hoc, hs8⟩
  have hc8 := Since.of_drew hs8
  refine hK.out _ _ (HKC.out _ hc8) (fun hHeld2 => ?_)
  clear hK K hHeld
  try simp only [Act.put, List.setIfInBounds_toArray, List.set_cons_zero, List.set_cons_succ]
  refine take_run 3 rfl (by kernel_rfl) (by rfl) (fun K hK => ?_)
  go_simp
  refine (HEQ.out _ _ _ (Oq7.out.since hc8).at hoc.at).mono ?_
  rintro e w9 ⟨rfl, hs9⟩
  have hc9 := hc8.trans hs9
  refine hK.out _ _ (HKC.out _ hc9) (fun hHeld3 => ?_)
  clear hK K hHeld2
  try simp only [Act.put, List.setIfInBounds_toArray, List.set_cons_zero, List.set_cons_succ]
  refine take_yes 4 (some 26) (v := ?_) rfl (by kernel_rfl) (by kernel_rfl) (by kernel_rfl) (by kernel_rfl) (fun _ _ _ h => h) (by rfl) (by assumption) ?_ ?_
  rotate_left
  · (intro w' hSw; (try dsimp only at hSw); go_simp; try with_reducible rfl)
  try simp only [Act.put, List.setIfInBounds_toArray, List.set_cons_zero, List.set_cons_succ]
  refine wpAnyH_done (by kernel_rfl) ?_ _
  clear hHeld3
  have s9 := s7.trans hc9
  go_wp2
  go_ret
  exact ⟨rfl, s9⟩
end Go.Proofs.Ytcokggjekleabaa
