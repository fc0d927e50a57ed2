/- The law of FormatGraph, walked. -/
import Derived.Test.YtpmkpeclfhmhlaaDoorFgI
import Derived.Test.YtpmkpeclfhmhlaaDoorK1
namespace Go.Proofs.YtpmkpeclfhmhlaaDoor
set_option maxRecDepth 100000
open Go.ChangeShapes Go.WideShapes Go.ChangeAt Go.RowKit
set_option linter.unusedVariables false
set_option linter.unusedSimpArgs false

set_option maxRecDepth 100000 in
theorem fnExactFormatGraph_walk (v : Value) (g : Grf) (w : World) (ht : Tab w) (hf : Fmts w) (h : GrfAt w v g) (hl : g.vs.length ≤ maxLen ∧ g.es.length ≤ maxLen) :
    Calls Tryd.prog 5 #[v] w fun e w' => e = .returned (.bool true) ∧ Since w w' := by
  have HT := Lib.hid ht
  have HF := Lib.hid hf
  clear ht hf
  have HG := Lib.hid h
  obtain ⟨a, b, rfl, ha, hb⟩ := h
  obtain ⟨ao, ac, rfl, _⟩ := ha.row
  obtain ⟨bo, bc, rfl⟩ := hb.len
  clear ha hb
  obtain ⟨n, hn⟩ : ∃ n, n = g.vs.length := ⟨_, rfl⟩
  obtain ⟨m, hm⟩ : ∃ m, m = g.es.length := ⟨_, rfl⟩
  rw [← hn, ← hm] at HG ⊢
  have HL := Lib.hid hl
  clear hn hm hl
  have hs0 : Since w (w.alloc (.cells #[.slice ao n ac, .slice bo m bc] 35)) := (Since.refl w).alloc _
  have B0 : Hid (Blk (w.alloc (.cells #[.slice ao n ac, .slice bo m bc] 35)) w.heap.size 35 #[.slice ao n ac, .slice bo m bc]) := Blk.new rfl _ _
  by_cases hz : szG g 1048576 < 0
  · obtain ⟨x, hx⟩ : ∃ x, x = szG g 1048576 := ⟨_, rfl⟩
    rw [← hx] at hz
    have HX := Lib.hid hx
    clear hx
    go_enter Tryd.func5, Tryd.ntmps5
    go_wp2_with fail
    refine (szG_is _ g 1048576 x _ (HG.out.since hs0) HL.out (by decide) (by decide) HX.out.symm).mono ?_
    rintro e w1 ⟨rfl, hs1⟩
    have hs := hs0.trans hs1
    go_wp2
    go_ret
    exact ⟨rfl, hs⟩
  · obtain ⟨g1, g2, g3, _⟩ := szG_small hz
    have g4 : g.vs.length ≤ 1152921504606846976 := by omega
    have g5 : g.es.length ≤ 1152921504606846976 := by omega
    obtain ⟨x, hx⟩ : ∃ x, x = szG g 1048576 := ⟨_, rfl⟩
    rw [← hx] at hz
    have HX := Lib.hid hx
    clear hx
    go_enter Tryd.func5, Tryd.ntmps5
    go_wp2_with fail
    refine (szG_is _ g 1048576 x _ (HG.out.since hs0) HL.out (by decide) (by decide) HX.out.symm).mono ?_
    rintro e w1 ⟨rfl, hs1⟩
    have hs01 := hs0.trans hs1
    have b1 := Lib.hid (B0.out.since hs1)
    obtain ⟨p0, p1, _, _⟩ := b1.out.two
    go_wp2_with fail
    clear p0 p1
    refine (toGraph_any _ g _ (HG.out.since hs01) g1 g2).mono ?_
    rintro e w2 ⟨v2, rfl, ho2, hs2⟩
    have hs02 := hs01.trans hs2
    have b2 := Lib.hid (b1.out.since hs2)
    clear B0 b1
    go_wp2_with fail
    refine (specFG_any _ g _ ho2.at g1 g2).mono ?_
    rintro e w3 ⟨rfl, hs3⟩
    have hs03 := hs02.trans hs3
    have b3 := Lib.hid (b2.out.since hs3)
    clear b2 ho2
    obtain ⟨p0, p1, _, _⟩ := b3.out.two
    go_wp2_with fail
    clear p0 p1
    refine (toGraph_any _ g _ (HG.out.since hs03) g1 g2).mono ?_
    rintro e w4 ⟨v4, rfl, ho4, hs4⟩
    have HO4 := Lib.hid ho4
    obtain ⟨xa, xb, rfl, ka, _, kb, _⟩ := ho4
    obtain ⟨xo, xc, rfl⟩ := ka.len
    obtain ⟨yo, yc, rfl⟩ := kb.len
    clear ka kb
    have hs04 := hs03.trans hs4
    have b4 := Lib.hid ((b3.out.since hs4).alloc (.cells #[.slice xo g.vs.length xc, .slice yo g.es.length yc] 40))
    have c4 : Hid (Blk (w4.alloc (.cells #[.slice xo g.vs.length xc, .slice yo g.es.length yc] 40)) w4.heap.size 40 #[.slice xo g.vs.length xc, .slice yo g.es.length yc]) := Blk.new rfl _ _
    clear b3
    go_wp2_with fail
    refine (implFG_any _ g _ (HO4.out.at.since ((Since.refl w4).alloc _)) g1 g2 (HT.out.since (hs04.alloc _)) (HF.out.since (hs04.alloc _))).mono ?_
    rintro e w5 ⟨rfl, hs5⟩
    have b5 := Lib.hid (b4.out.since hs5)
    have c5 := Lib.hid (c4.out.since hs5)
    have HO5 := Lib.hid ((HO4.out.since ((Since.refl w4).alloc _)).since hs5)
    have hs05 := (hs04.alloc _).trans hs5
    clear b4 c4 HO4
    obtain ⟨p0, p1, _, _⟩ := b5.out.two
    obtain ⟨q0, q1, _, _⟩ := c5.out.two
    go_wp2_with fail
    have HKC : Hid (∀ w', Since w5 w' → w'.cell? ⟨w.heap.size, 0, none⟩ = some (.slice ao n ac) ∧ w'.cell? ⟨w.heap.size, 1, none⟩ = some (.slice bo m bc) ∧
        w'.cell? ⟨w4.heap.size, 0, none⟩ = some (.slice xo g.vs.length xc) ∧ w'.cell? ⟨w4.heap.size, 1, none⟩ = some (.slice yo g.es.length yc)) := by
      intro w' hs
      obtain ⟨r0, r1, _, _⟩ := (b5.out.since hs).two
      obtain ⟨s0, s1, _, _⟩ := (c5.out.since hs).two
      exact ⟨r0, r1, s0, s1⟩
    refine wp_region_held_drew (S := (fun w' => w'.cell? ⟨w.heap.size, 0, none⟩ = some (.slice ao n ac) ∧ w'.cell? ⟨w.heap.size, 1, none⟩ = some (.slice bo m bc) ∧
        w'.cell? ⟨w4.heap.size, 0, none⟩ = some (.slice xo g.vs.length xc) ∧ w'.cell? ⟨w4.heap.size, 1, none⟩ = some (.slice yo g.es.length yc))) (by kernel_rfl) (HKC.out _ (Since.refl _).drew) (fun hHeld => ?_)
    refine take_yes 0 (some 22) (v := ?_) rfl (by kernel_rfl) (by kernel_rfl) (by kernel_rfl) (by kernel_rfl) (fun _ _ _ h => h) (by rfl) (by assumption) ?_ ?_
    rotate_left
    · (intro w' hSw; (try dsimp only at hSw); go_simp; try with_reducible rfl)
    try simp only [Act.put, List.setIfInBounds_toArray, List.set_cons_zero, List.set_cons_succ]
    refine take_yes 1 (some 23) (v := ?_) rfl (by kernel_rfl) (by kernel_rfl) (by kernel_rfl) (by kernel_rfl) (fun _ _ _ h => h) (by rfl) (by assumption) ?_ ?_
    rotate_left
    · (intro w' hSw; (try dsimp only at hSw); go_simp; try with_reducible rfl)
    try simp only [Act.put, List.setIfInBounds_toArray, List.set_cons_zero, List.set_cons_succ]
    refine take_run 2 rfl (by kernel_rfl) (by rfl) (fun K hK => ?_)
    go_simp
    refine (toGraph_any _ g _ (HG.out.since hs05.drew) g1 g2).mono ?_
    rintro e w6 ⟨v6, rfl, ho6, hs6⟩
    refine hK.out _ _ (HKC.out _ (Since.of_drew hs6)) (fun hHeld2 => ?_)
    clear hK K hHeld
    have hs06 := hs05.trans (Since.of_drew hs6)
    try simp only [Act.put, List.setIfInBounds_toArray, List.set_cons_zero, List.set_cons_succ]
    refine take_run 3 rfl (by kernel_rfl) (by rfl) (fun K hK => ?_)
    go_simp
    refine (eqGraph_any _ _ g g _ (HO5.out.at.since (Since.of_drew hs6)) ho6.at g4 g5 g4 g5).mono ?_
    rintro e w7 ⟨rfl, hs7⟩
    refine hK.out _ _ (HKC.out _ ((Since.of_drew hs6).trans hs7)) (fun hHeld3 => ?_)
    clear hK K hHeld2
    try simp only [Act.put, List.setIfInBounds_toArray, List.set_cons_zero, List.set_cons_succ]
    have hd : decide (g = g) = true := by simp
    have hs07 := hs06.trans hs7
    refine take_yes 4 (some 26) (v := ?_) rfl (by kernel_rfl) (by kernel_rfl) (by kernel_rfl) (by kernel_rfl) (fun _ _ _ h => h) (by rfl) (by assumption) ?_ ?_
    rotate_left
    · (intro w' hSw; (try dsimp only at hSw); go_simp; try with_reducible rfl)
    try simp only [Act.put, List.setIfInBounds_toArray, List.set_cons_zero, List.set_cons_succ]
    refine wpAnyH_done (by kernel_rfl) ?_ _
    clear hHeld3
    go_wp2
    go_ret
    exact ⟨rfl, hs07⟩
end Go.Proofs.YtpmkpeclfhmhlaaDoor

