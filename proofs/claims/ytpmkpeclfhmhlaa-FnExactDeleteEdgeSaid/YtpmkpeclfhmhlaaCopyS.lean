/- Copies of a graph: the model's l3Copy. -/
import Derived.Test.YtpmkpeclfhmhlaaK1
namespace Go.Proofs.Ytpmkpeclfhmhlaa
set_option maxRecDepth 100000
open Go.ChangeShapes Go.WideShapes Go.ChangeAt Go.RowKit
set_option linter.unusedVariables false
set_option linter.unusedSimpArgs false

set_option maxHeartbeats 1000000 in
set_option maxRecDepth 100000 in
theorem l3Copy_any (v : Value) (g : Grf) (w : World) (h : GrfAt w v g) (h1 : g.vs.length ≤ 1048577) (h2 : g.es.length ≤ 1048577) :
    Calls Try.prog 59 #[v] w (GrfOut w g) := by
  obtain ⟨a, b, rfl, ha, hb⟩ := h
  have HA := Lib.hid ha
  have HB := Lib.hid hb
  obtain ⟨ao, ac, rfl, _⟩ := ha.row
  obtain ⟨bo, bc, rfl⟩ := hb.len
  clear ha hb
  obtain ⟨n, hn⟩ : ∃ n, n = g.vs.length := ⟨_, rfl⟩
  obtain ⟨m, hm⟩ : ∃ m, m = g.es.length := ⟨_, rfl⟩
  rw [← hn] at HA
  rw [← hm] at HB
  rw [← hn, ← hm]
  clear hn hm
  have hs0 : Since w ((w.alloc (.cells #[.slice ao n ac, .slice bo m bc] 30)).alloc (.cells #[.slice none 0 0, .slice none 0 0] 30)) := ((Since.refl w).alloc _).alloc _
  have b0 : Hid (Blk ((w.alloc (.cells #[.slice ao n ac, .slice bo m bc] 30)).alloc (.cells #[.slice none 0 0, .slice none 0 0] 30)) w.heap.size 30 #[.slice ao n ac, .slice bo m bc]) := (Blk.new rfl _ _).alloc _
  have r0 : Hid (Blk ((w.alloc (.cells #[.slice ao n ac, .slice bo m bc] 30)).alloc (.cells #[.slice none 0 0, .slice none 0 0] 30)) (w.heap.size + 1) 30 #[.slice none 0 0, .slice none 0 0]) := Blk.new (by simp) _ _
  have hz : Hid (((w.alloc (.cells #[.slice ao n ac, .slice bo m bc] 30)).alloc (.cells #[.slice none 0 0, .slice none 0 0] 30)).heap.size = w.heap.size + 2) := by unfold Hid; simp
  go_enter Try.func59, Try.ntmps59
  go_wp2_with fail
  generalize ((w.alloc (.cells #[.slice ao n ac, .slice bo m bc] 30)).alloc (.cells #[.slice none 0 0, .slice none 0 0] 30)) = WR at hs0 b0 r0 hz ⊢
  have HKC : Hid (∀ w', Since WR w' → w'.cell? ⟨w.heap.size, 0, none⟩ = some (.slice ao n ac) ∧ w'.cell? ⟨w.heap.size, 1, none⟩ = some (.slice bo m bc)) := by
    intro w' hs
    obtain ⟨x0, x1, _, _⟩ := (b0.out.since hs).two
    exact ⟨x0, x1⟩
  refine wp_region_held_drew (S := (fun w' => w'.cell? ⟨w.heap.size, 0, none⟩ = some (.slice ao n ac) ∧ w'.cell? ⟨w.heap.size, 1, none⟩ = some (.slice bo m bc))) (by kernel_rfl) (HKC.out _ (Since.refl _).drew) (fun hHeld => ?_)
  refine take_yes 1 (some 4) (v := ?_) rfl (by kernel_rfl) (by kernel_rfl) (by kernel_rfl) (by kernel_rfl) (fun _ _ _ h => h) (by rfl) (by assumption) ?_ ?_
  rotate_left
  · (intro w' hSw; (try dsimp only at hSw); go_simp; try with_reducible rfl)
  try simp only [Act.put, List.setIfInBounds_toArray, List.set_cons_zero, List.set_cons_succ]
  refine take_yes 2 (some 5) (v := ?_) rfl (by kernel_rfl) (by kernel_rfl) (by kernel_rfl) (by kernel_rfl) (fun _ _ _ h => h) (by rfl) (by assumption) ?_ ?_
  rotate_left
  · (intro w' hSw; (try dsimp only at hSw); go_simp; try with_reducible rfl)
  try simp only [Act.put, List.setIfInBounds_toArray, List.set_cons_zero, List.set_cons_succ]
  refine take_yes 5 (some 8) (v := ?_) rfl (by kernel_rfl) (by kernel_rfl) (by kernel_rfl) (by kernel_rfl) (fun _ _ _ h => h) (by rfl) (by assumption) ?_ ?_
  rotate_left
  · (intro w' hSw; (try dsimp only at hSw); go_simp; try with_reducible rfl)
  try simp only [Act.put, List.setIfInBounds_toArray, List.set_cons_zero, List.set_cons_succ]
  refine take_yes 6 (some 9) (v := ?_) rfl (by kernel_rfl) (by kernel_rfl) (by kernel_rfl) (by kernel_rfl) (fun _ _ _ h => h) (by rfl) (by assumption) ?_ ?_
  rotate_left
  · (intro w' hSw; (try dsimp only at hSw); go_simp; try with_reducible rfl)
  try simp only [Act.put, List.setIfInBounds_toArray, List.set_cons_zero, List.set_cons_succ]
  refine take_two 0 4 rfl rfl (by kernel_rfl) (by rfl) (by rfl) (fun K hK => ?_) (fun K hK => ?_)
  · skip
    go_simp
    have FI1 := own_lit WR _ (Since.refl WR).drew (WR.heap.size) (by simp)
    have hc1 := ((Since.refl WR).drew).alloc (.cells #[] 3)
    refine hK.out _ _ (HKC.out _ hc1) (fun hHeld1 => ?_)
    clear hK K hHeld
    try simp only [Act.put, List.setIfInBounds_toArray, List.set_cons_zero, List.set_cons_succ]
    refine take_two 3 4 rfl rfl (by kernel_rfl) (by rfl) (by rfl) (fun K hK => ?_) (fun K hK => ?_)
    · skip
      refine wp_append_ints (.tmp 3) (.tmp 5) rfl WR.heap.size (.slice (some ⟨WR.heap.size, 0, none⟩) 0 0) [] rfl FI1 ao n ac rfl g.vs (HA.out.since (hs0.trans hc1)) (by simp; omega) hc1.size ?_
      intro v2 w2 ho2 hg2 hb2
      rw [List.nil_append] at ho2
      obtain ⟨o2, c2, rfl⟩ := ho2.len
      have hc2 := Since.grown hc1 hg2 (fun j hj => (FI1.2.lt j hj).1)
      refine hK.out _ _ (HKC.out _ hc2) (fun hHeld2 => ?_)
      clear hK K hHeld1
      try simp only [Act.put, List.setIfInBounds_toArray, List.set_cons_zero, List.set_cons_succ]
      refine take_run 4 rfl (by kernel_rfl) (by rfl) (fun K hK => ?_)
      go_simp
      have FE3 := ownE_lit WR _ hc2 (w2.heap.size) (by simp)
      have FI3 := ho2.since ((Since.refl _).alloc (.cells #[] 38))
      have hc3 := (hc2).alloc (.cells #[] 38)
      refine hK.out _ _ (HKC.out _ hc3) (fun hHeld3 => ?_)
      clear hK K hHeld2
      try simp only [Act.put, List.setIfInBounds_toArray, List.set_cons_zero, List.set_cons_succ]
      refine take_run 7 rfl (by kernel_rfl) (by rfl) (fun K hK => ?_)
      refine wp_append_edges (.tmp 7) (.tmp 9) rfl WR.heap.size (.slice (some ⟨w2.heap.size, 0, none⟩) 0 0) [] rfl FE3 bo m bc rfl g.es (HB.out.since (hs0.trans hc3)) (by simp; omega) hc3.size ?_
      intro v4 w4 ho4 hg4 hb4
      rw [List.nil_append] at ho4
      obtain ⟨o4, c4, rfl⟩ := ho4.len
      have hc4 := Since.grown hc3 hg4 (fun j hj => (FE3.2.lt j hj).1)
      have FI4 := FI3.grownX hg4 (own_apart FI3 FE3)
      refine hK.out _ _ (HKC.out _ hc4) (fun hHeld4 => ?_)
      clear hK K hHeld3
      try simp only [Act.put, List.setIfInBounds_toArray, List.set_cons_zero, List.set_cons_succ]
      refine take_yes 8 (some 11) (v := ?_) rfl (by kernel_rfl) (by kernel_rfl) (by kernel_rfl) (by kernel_rfl) (fun _ _ _ h => h) (by rfl) (by assumption) ?_ ?_
      rotate_left
      · (intro w' hSw; (try dsimp only at hSw); go_simp; try with_reducible rfl)
      try simp only [Act.put, List.setIfInBounds_toArray, List.set_cons_zero, List.set_cons_succ]
      refine take_run 9 rfl (by kernel_rfl) (by rfl) (fun K hK => ?_)
      obtain ⟨z0, z1, z2, z3⟩ := (r0.out.since hc4).two
      go_simp
      clear z0 z1 z2 z3
      refine hK.out _ _ ?_ (fun hHeldz => ?_)
      · exact ⟨((((b0.out.since hc4).far (p := ⟨w.heap.size + 1, 0, none⟩) (by simp) _).far (p := ⟨w.heap.size + 1, 1, none⟩) (by simp) _).two).1, ((((b0.out.since hc4).far (p := ⟨w.heap.size + 1, 0, none⟩) (by simp) _).far (p := ⟨w.heap.size + 1, 1, none⟩) (by simp) _).two).2.1⟩
      clear hK K hHeld4
      try simp only [Act.put, List.setIfInBounds_toArray, List.set_cons_zero, List.set_cons_succ]
      refine wpAnyH_done (by kernel_rfl) ?_ _
      clear hHeldz
      obtain ⟨y0, y1, _, _⟩ := (((r0.out.since hc4).set 0 (.slice o2 g.vs.length c2)).set 1 (.slice o4 g.es.length c4)).two
      go_wp2_with fail
      refine bodyPost_ret (v := .agg #[.slice o2 g.vs.length c2, .slice o4 g.es.length c4]) (by simp [results, Try.results59, go_sem, *]) rfl ?_
      exact grfOut_mk (((FI4.far (by have := hz.out; simp; omega) _).far (by have := hz.out; simp; omega) _).mono hs0.size) (((ho4.far (by have := hz.out; simp; omega) _).far (by have := hz.out; simp; omega) _).mono hs0.size) (((hs0.trans hc4).setCell (by simp) _).setCell (by simp) _)
    · skip
      go_simp
      have FE2 := ownE_lit WR _ hc1 (WR.heap.size + 1) (by simp)
      have FI2 := FI1.since ((Since.refl _).alloc (.cells #[] 38))
      have hc2 := (hc1).alloc (.cells #[] 38)
      refine hK.out _ _ (HKC.out _ hc2) (fun hHeld2 => ?_)
      clear hK K hHeld1
      try simp only [Act.put, List.setIfInBounds_toArray, List.set_cons_zero, List.set_cons_succ]
      refine take_run 3 rfl (by kernel_rfl) (by rfl) (fun K hK => ?_)
      refine wp_append_ints (.tmp 3) (.tmp 5) rfl WR.heap.size (.slice (some ⟨WR.heap.size, 0, none⟩) 0 0) [] rfl FI2 ao n ac rfl g.vs (HA.out.since (hs0.trans hc2)) (by simp; omega) hc2.size ?_
      intro v3 w3 ho3 hg3 hb3
      rw [List.nil_append] at ho3
      obtain ⟨o3, c3, rfl⟩ := ho3.len
      have hc3 := Since.grown hc2 hg3 (fun j hj => (FI2.2.lt j hj).1)
      have FE3 := FE2.grownX hg3 (own_apart' FI2 FE2)
      refine hK.out _ _ (HKC.out _ hc3) (fun hHeld3 => ?_)
      clear hK K hHeld2
      try simp only [Act.put, List.setIfInBounds_toArray, List.set_cons_zero, List.set_cons_succ]
      refine take_run 7 rfl (by kernel_rfl) (by rfl) (fun K hK => ?_)
      refine wp_append_edges (.tmp 7) (.tmp 9) rfl WR.heap.size (.slice (some ⟨WR.heap.size + 1, 0, none⟩) 0 0) [] rfl FE3 bo m bc rfl g.es (HB.out.since (hs0.trans hc3)) (by simp; omega) hc3.size ?_
      intro v4 w4 ho4 hg4 hb4
      rw [List.nil_append] at ho4
      obtain ⟨o4, c4, rfl⟩ := ho4.len
      have hc4 := Since.grown hc3 hg4 (fun j hj => (FE3.2.lt j hj).1)
      have FI4 := ho3.grownX hg4 (own_apart ho3 FE3)
      refine hK.out _ _ (HKC.out _ hc4) (fun hHeld4 => ?_)
      clear hK K hHeld3
      try simp only [Act.put, List.setIfInBounds_toArray, List.set_cons_zero, List.set_cons_succ]
      refine take_yes 8 (some 11) (v := ?_) rfl (by kernel_rfl) (by kernel_rfl) (by kernel_rfl) (by kernel_rfl) (fun _ _ _ h => h) (by rfl) (by assumption) ?_ ?_
      rotate_left
      · (intro w' hSw; (try dsimp only at hSw); go_simp; try with_reducible rfl)
      try simp only [Act.put, List.setIfInBounds_toArray, List.set_cons_zero, List.set_cons_succ]
      refine take_run 9 rfl (by kernel_rfl) (by rfl) (fun K hK => ?_)
      obtain ⟨z0, z1, z2, z3⟩ := (r0.out.since hc4).two
      go_simp
      clear z0 z1 z2 z3
      refine hK.out _ _ ?_ (fun hHeldz => ?_)
      · exact ⟨((((b0.out.since hc4).far (p := ⟨w.heap.size + 1, 0, none⟩) (by simp) _).far (p := ⟨w.heap.size + 1, 1, none⟩) (by simp) _).two).1, ((((b0.out.since hc4).far (p := ⟨w.heap.size + 1, 0, none⟩) (by simp) _).far (p := ⟨w.heap.size + 1, 1, none⟩) (by simp) _).two).2.1⟩
      clear hK K hHeld4
      try simp only [Act.put, List.setIfInBounds_toArray, List.set_cons_zero, List.set_cons_succ]
      refine wpAnyH_done (by kernel_rfl) ?_ _
      clear hHeldz
      obtain ⟨y0, y1, _, _⟩ := (((r0.out.since hc4).set 0 (.slice o3 g.vs.length c3)).set 1 (.slice o4 g.es.length c4)).two
      go_wp2_with fail
      refine bodyPost_ret (v := .agg #[.slice o3 g.vs.length c3, .slice o4 g.es.length c4]) (by simp [results, Try.results59, go_sem, *]) rfl ?_
      exact grfOut_mk (((FI4.far (by have := hz.out; simp; omega) _).far (by have := hz.out; simp; omega) _).mono hs0.size) (((ho4.far (by have := hz.out; simp; omega) _).far (by have := hz.out; simp; omega) _).mono hs0.size) (((hs0.trans hc4).setCell (by simp) _).setCell (by simp) _)
  · skip
    go_simp
    have FE1 := ownE_lit WR _ (Since.refl WR).drew (WR.heap.size) (by simp)
    have hc1 := ((Since.refl WR).drew).alloc (.cells #[] 38)
    refine hK.out _ _ (HKC.out _ hc1) (fun hHeld1 => ?_)
    clear hK K hHeld
    try simp only [Act.put, List.setIfInBounds_toArray, List.set_cons_zero, List.set_cons_succ]
    refine take_run 0 rfl (by kernel_rfl) (by rfl) (fun K hK => ?_)
    go_simp
    have FI2 := own_lit WR _ hc1 (WR.heap.size + 1) (by simp)
    have FE2 := FE1.since ((Since.refl _).alloc (.cells #[] 3))
    have hc2 := (hc1).alloc (.cells #[] 3)
    refine hK.out _ _ (HKC.out _ hc2) (fun hHeld2 => ?_)
    clear hK K hHeld1
    try simp only [Act.put, List.setIfInBounds_toArray, List.set_cons_zero, List.set_cons_succ]
    refine take_run 3 rfl (by kernel_rfl) (by rfl) (fun K hK => ?_)
    refine wp_append_ints (.tmp 3) (.tmp 5) rfl WR.heap.size (.slice (some ⟨WR.heap.size + 1, 0, none⟩) 0 0) [] rfl FI2 ao n ac rfl g.vs (HA.out.since (hs0.trans hc2)) (by simp; omega) hc2.size ?_
    intro v3 w3 ho3 hg3 hb3
    rw [List.nil_append] at ho3
    obtain ⟨o3, c3, rfl⟩ := ho3.len
    have hc3 := Since.grown hc2 hg3 (fun j hj => (FI2.2.lt j hj).1)
    have FE3 := FE2.grownX hg3 (own_apart' FI2 FE2)
    refine hK.out _ _ (HKC.out _ hc3) (fun hHeld3 => ?_)
    clear hK K hHeld2
    try simp only [Act.put, List.setIfInBounds_toArray, List.set_cons_zero, List.set_cons_succ]
    refine take_run 7 rfl (by kernel_rfl) (by rfl) (fun K hK => ?_)
    refine wp_append_edges (.tmp 7) (.tmp 9) rfl WR.heap.size (.slice (some ⟨WR.heap.size, 0, none⟩) 0 0) [] rfl FE3 bo m bc rfl g.es (HB.out.since (hs0.trans hc3)) (by simp; omega) hc3.size ?_
    intro v4 w4 ho4 hg4 hb4
    rw [List.nil_append] at ho4
    obtain ⟨o4, c4, rfl⟩ := ho4.len
    have hc4 := Since.grown hc3 hg4 (fun j hj => (FE3.2.lt j hj).1)
    have FI4 := ho3.grownX hg4 (own_apart ho3 FE3)
    refine hK.out _ _ (HKC.out _ hc4) (fun hHeld4 => ?_)
    clear hK K hHeld3
    try simp only [Act.put, List.setIfInBounds_toArray, List.set_cons_zero, List.set_cons_succ]
    refine take_yes 8 (some 11) (v := ?_) rfl (by kernel_rfl) (by kernel_rfl) (by kernel_rfl) (by kernel_rfl) (fun _ _ _ h => h) (by rfl) (by assumption) ?_ ?_
    rotate_left
    · (intro w' hSw; (try dsimp only at hSw); go_simp; try with_reducible rfl)
    try simp only [Act.put, List.setIfInBounds_toArray, List.set_cons_zero, List.set_cons_succ]
    refine take_run 9 rfl (by kernel_rfl) (by rfl) (fun K hK => ?_)
    obtain ⟨z0, z1, z2, z3⟩ := (r0.out.since hc4).two
    go_simp
    clear z0 z1 z2 z3
    refine hK.out _ _ ?_ (fun hHeldz => ?_)
    · exact ⟨((((b0.out.since hc4).far (p := ⟨w.heap.size + 1, 0, none⟩) (by simp) _).far (p := ⟨w.heap.size + 1, 1, none⟩) (by simp) _).two).1, ((((b0.out.since hc4).far (p := ⟨w.heap.size + 1, 0, none⟩) (by simp) _).far (p := ⟨w.heap.size + 1, 1, none⟩) (by simp) _).two).2.1⟩
    clear hK K hHeld4
    try simp only [Act.put, List.setIfInBounds_toArray, List.set_cons_zero, List.set_cons_succ]
    refine wpAnyH_done (by kernel_rfl) ?_ _
    clear hHeldz
    obtain ⟨y0, y1, _, _⟩ := (((r0.out.since hc4).set 0 (.slice o3 g.vs.length c3)).set 1 (.slice o4 g.es.length c4)).two
    go_wp2_with fail
    refine bodyPost_ret (v := .agg #[.slice o3 g.vs.length c3, .slice o4 g.es.length c4]) (by simp [results, Try.results59, go_sem, *]) rfl ?_
    exact grfOut_mk (((FI4.far (by have := hz.out; simp; omega) _).far (by have := hz.out; simp; omega) _).mono hs0.size) (((ho4.far (by have := hz.out; simp; omega) _).far (by have := hz.out; simp; omega) _).mono hs0.size) (((hs0.trans hc4).setCell (by simp) _).setCell (by simp) _)
end Go.Proofs.Ytpmkpeclfhmhlaa
