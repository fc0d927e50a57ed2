/- DeleteEdge, the model's. -/
import Derived.Test.YtpmkpeclfhmhlaaK2
import Derived.Test.YtpmkpeclfhmhlaaCopyS
import Derived.Test.YtpmkpeclfhmhlaaK1
import Derived.Test.YtpmkpeclfhmhlaaRvS
namespace Go.Proofs.Ytpmkpeclfhmhlaa
set_option maxRecDepth 100000
open Go.ChangeShapes Go.WideShapes Go.ChangeAt Go.RowKit
set_option linter.unusedVariables false
set_option linter.unusedSimpArgs false

set_option maxHeartbeats 2000000 in
set_option maxRecDepth 100000 in
theorem specDE_any (v : Value) (g : Grf) (id : Int) (w : World) (h : GrfAt w v g) (hcap : CapE v) (h1 : g.vs.length ≤ 1048577) (h2 : g.es.length ≤ 1048577) :
    Calls Try.prog 24 #[v, .int .i64 id] w (GBOut w (delG g id) (canDel g id)) := by
  have HG := Lib.hid h
  obtain ⟨a, b, rfl, ha, hb⟩ := h
  have HA := Lib.hid ha
  have HB := Lib.hid hb
  obtain ⟨ao, ac, rfl, _⟩ := ha.row
  obtain ⟨bo, bc, rfl, HE⟩ := hb.row
  have hbc : g.es.length ≤ bc := hcap.out
  clear ha hb hcap
  obtain ⟨n, hn⟩ : ∃ n, n = g.vs.length := ⟨_, rfl⟩
  obtain ⟨m, hm⟩ : ∃ m, m = g.es.length := ⟨_, rfl⟩
  rw [← hn] at HA
  rw [← hm] at HB hbc
  rw [← hn, ← hm] at HG ⊢
  have hm9 : m ≤ 1048577 := by omega
  have HM := Lib.hid hm
  clear hn hm
  have hs0 : Since w ((w.alloc (.cells #[.slice ao n ac, .slice bo m bc] 30)).alloc (.cells #[.slice none 0 0, .slice none 0 0] 30)) := ((Since.refl w).alloc _).alloc _
  have b0 : Hid (Blk ((w.alloc (.cells #[.slice ao n ac, .slice bo m bc] 30)).alloc (.cells #[.slice none 0 0, .slice none 0 0] 30)) w.heap.size 30 #[.slice ao n ac, .slice bo m bc]) := (Blk.new rfl _ _).alloc _
  have r0 : Hid (Blk ((w.alloc (.cells #[.slice ao n ac, .slice bo m bc] 30)).alloc (.cells #[.slice none 0 0, .slice none 0 0] 30)) (w.heap.size + 1) 30 #[.slice none 0 0, .slice none 0 0]) := Blk.new (by simp) _ _
  have hz : Hid (w.heap.size + 2 = ((w.alloc (.cells #[.slice ao n ac, .slice bo m bc] 30)).alloc (.cells #[.slice none 0 0, .slice none 0 0] 30)).heap.size) := by unfold Hid; simp
  rcases Bool.eq_false_or_eq_true (validB g) with hv | hv
  · have HV := Lib.hid hv
    rcases idxE_cases g.es id with ⟨k, hk, hi, hid, _⟩ | ⟨hi, _⟩
    · have HI := Lib.hid hi
      have HO : Hid (canDel g id = true ∧ delG g id = ⟨g.vs, delL g.es k⟩) := by
        have : canDel g id = true := by unfold canDel; rw [hv, hi]; simp
        exact ⟨this, by unfold delG; rw [if_pos this, hi]; simp⟩
      obtain ⟨b, off, rfl, _, _⟩ := HE.out k hk
      have hlt : k < m := by have := HM.out; omega
      have hkm : k ≤ m := by omega
      have hkm2 : k + 1 ≤ m := by omega
      have hkc : k ≤ bc := by omega
      have hkc2 : k + 1 ≤ bc := by omega
      have ik0 : (0 : Int) ≤ (k : Int) := by omega
      have ik1 : (k : Int) ≤ (bc : Int) := by omega
      have ik2 : (0 : Int) ≤ (k : Int) + 1 := by omega
      have ik3 : (k : Int) + 1 ≤ (m : Int) := by omega
      have ikn : ¬ (k : Int) < 0 := by omega
      have hwr : IntKind.i64.wrap ((k : Int) + 1) = (k : Int) + 1 := by rw [IntKind.wrap_i64]; omega
      clear hv hi hid HE
      go_enter Try.func24, Try.ntmps24
      go_wp2_with fail
      generalize ((w.alloc (.cells #[.slice ao n ac, .slice (some ⟨b, off, none⟩) m bc] 30)).alloc (.cells #[.slice none 0 0, .slice none 0 0] 30)) = WR at hs0 b0 r0 hz ⊢
      have hzz : w.heap.size + 2 ≤ WR.heap.size := by have := hz.out; omega
      refine (specEI_any _ g id _ (HG.out.since hs0) h2).mono ?_
      rintro e w1 ⟨rfl, hs1⟩
      rw [HI.out]
      have b1 := Lib.hid (b0.out.since hs1)
      have r1 := Lib.hid (r0.out.since hs1)
      have hs01 := hs0.trans hs1
      have z1 := hs1.size
      clear b0 r0 hs0 hs1
      obtain ⟨p0, p1, _, _⟩ := b1.out.two
      go_wp2_with fail
      clear p0 p1
      refine (specVG_any _ g _ (HG.out.since hs01) h1 h2).mono ?_
      rintro e w2 ⟨rfl, hs2⟩
      rw [HV.out]
      have b2 := Lib.hid (b1.out.since hs2)
      have r2 := Lib.hid (r1.out.since hs2)
      have hs02 := hs01.trans hs2
      have z2 := hs2.size
      clear b1 r1 hs01 hs2
      obtain ⟨q, hq⟩ : ∃ q, (g.es.take k ++ g.es.drop (k + 1)).length = q := ⟨_, rfl⟩
      have HQ := Lib.hid hq
      clear hq
      have F0 := own_lit w2 w2 (Since.refl _) w2.heap.size rfl
      obtain ⟨p0, p1, _, _⟩ := (b2.out.alloc (.cells #[] 3)).two
      obtain ⟨p2, p3, _, _⟩ := b2.out.two
      go_wp2_with (at_builtin; go_must (refine wpList_append_ints rfl (.tmp 20) (.tmp 22) rfl w2.heap.size (.slice (some ⟨w2.heap.size, 0, none⟩) 0 0) [] rfl F0 ao n ac rfl g.vs (HA.out.since (hs02.alloc _)) (by simp; omega) (by simp) ?_); intro v3 w3 ho3 hg3 hb3; rw [List.nil_append] at ho3; obtain ⟨o3, c3, rfl⟩ := ho3.len)
      clear p0 p1 p2 p3
      have hs3 : Since w2 w3 := ((Since.refl w2).alloc _).grown hg3 (fun j hj => (F0.2.lt j hj).1)
      have b3 := Lib.hid ((b2.out.since hs3).alloc (.cells #[.slice o3 g.vs.length c3, .slice none 0 0] 30))
      have r3 := Lib.hid ((r2.out.since hs3).alloc (.cells #[.slice o3 g.vs.length c3, .slice none 0 0] 30))
      have hsy := (hs02.trans hs3).alloc (.cells #[.slice o3 g.vs.length c3, .slice none 0 0] 30)
      have z3 := hs3.size
      have HR3 := Lib.hid ho3.inR
      have X3 : Hid (Blk (w3.alloc (.cells #[.slice o3 g.vs.length c3, .slice none 0 0] 30)) w3.heap.size 30 #[.slice o3 g.vs.length c3, .slice none 0 0]) := Blk.new rfl _ _
      have HA3 := Lib.hid (ho3.since ((Since.refl w3).alloc (.cells #[.slice o3 g.vs.length c3, .slice none 0 0] 30)))
      have zy : Hid (w3.heap.size + 1 = (w3.alloc (.cells #[.slice o3 g.vs.length c3, .slice none 0 0] 30)).heap.size) := by unfold Hid; simp
      clear F0 ho3 hg3 hb3 b2 r2 hs02 hs3
      generalize (w3.alloc (.cells #[.slice o3 g.vs.length c3, .slice none 0 0] 30)) = y3 at b3 r3 hsy X3 HA3 zy ⊢
      have hzy : w3.heap.size + 1 ≤ y3.heap.size := by have := zy.out; omega
      have HKC : Hid (∀ w', Since y3 w' → w'.cell? ⟨w.heap.size, 0, none⟩ = some (.slice ao n ac) ∧ w'.cell? ⟨w.heap.size, 1, none⟩ = some (.slice (some ⟨b, off, none⟩) m bc)) := by
        intro w' hs
        obtain ⟨x0, x1, _, _⟩ := (b3.out.since hs).two
        exact ⟨x0, x1⟩
      refine wp_region_held_drew (S := (fun w' => w'.cell? ⟨w.heap.size, 0, none⟩ = some (.slice ao n ac) ∧ w'.cell? ⟨w.heap.size, 1, none⟩ = some (.slice (some ⟨b, off, none⟩) m bc))) (by kernel_rfl) (HKC.out _ (Since.refl _).drew) (fun hHeld => ?_)
      refine take_yes 1 (some 26) (v := ?_) rfl (by kernel_rfl) (by kernel_rfl) (by kernel_rfl) (by kernel_rfl) (fun _ _ _ h => h) (by rfl) (by assumption) ?_ ?_
      rotate_left
      · (intro w' hSw; (try dsimp only at hSw); go_simp; try with_reducible rfl)
      try simp only [Act.put, List.setIfInBounds_toArray, List.set_cons_zero, List.set_cons_succ]
      refine take_yes 2 (some 27) (v := ?_) rfl (by kernel_rfl) (by kernel_rfl) (by kernel_rfl) (by kernel_rfl) (fun _ _ _ h => h) (by rfl) (by assumption) ?_ ?_
      rotate_left
      · (intro w' hSw; (try dsimp only at hSw); go_simp; try with_reducible rfl)
      try simp only [Act.put, List.setIfInBounds_toArray, List.set_cons_zero, List.set_cons_succ]
      refine take_yes 3 (some 28) (v := ?_) rfl (by kernel_rfl) (by kernel_rfl) (by kernel_rfl) (by kernel_rfl) (fun _ _ _ h => h) (by rfl) (by assumption) ?_ ?_
      rotate_left
      · (intro w' hSw; (try dsimp only at hSw); go_simp; try with_reducible rfl)
      try simp only [Act.put, List.setIfInBounds_toArray, List.set_cons_zero, List.set_cons_succ]
      refine take_yes 4 (some 29) (v := ?_) rfl (by kernel_rfl) (by kernel_rfl) (by kernel_rfl) (by kernel_rfl) (fun _ _ _ h => h) (by rfl) (by assumption) ?_ ?_
      rotate_left
      · (intro w' hSw; (try dsimp only at hSw); go_simp; try with_reducible rfl)
      try simp only [Act.put, List.setIfInBounds_toArray, List.set_cons_zero, List.set_cons_succ]
      refine take_yes 6 (some 31) (v := ?_) rfl (by kernel_rfl) (by kernel_rfl) (by kernel_rfl) (by kernel_rfl) (fun _ _ _ h => h) (by rfl) (by assumption) ?_ ?_
      rotate_left
      · (intro w' hSw; (try dsimp only at hSw); go_simp; try with_reducible rfl)
      try simp only [Act.put, List.setIfInBounds_toArray, List.set_cons_zero, List.set_cons_succ]
      refine take_yes 7 (some 32) (v := ?_) rfl (by kernel_rfl) (by kernel_rfl) (by kernel_rfl) (by kernel_rfl) (fun _ _ _ h => h) (by rfl) (by assumption) ?_ ?_
      rotate_left
      · (intro w' hSw; (try dsimp only at hSw); go_simp; try with_reducible rfl)
      try simp only [Act.put, List.setIfInBounds_toArray, List.set_cons_zero, List.set_cons_succ]
      refine take_yes 8 (some 33) (v := ?_) rfl (by kernel_rfl) (by kernel_rfl) (by kernel_rfl) (by kernel_rfl) (fun _ _ _ h => h) (by rfl) (by assumption) ?_ ?_
      rotate_left
      · (intro w' hSw; (try dsimp only at hSw); go_simp; try with_reducible rfl)
      try simp only [Act.put, List.setIfInBounds_toArray, List.set_cons_zero, List.set_cons_succ]
      refine take_yes 9 (some 34) (v := ?_) rfl (by kernel_rfl) (by kernel_rfl) (by kernel_rfl) (by kernel_rfl) (fun _ _ _ h => h) (by rfl) (by assumption) ?_ ?_
      rotate_left
      · (intro w' hSw; (try dsimp only at hSw); go_simp; try with_reducible rfl)
      try simp only [Act.put, List.setIfInBounds_toArray, List.set_cons_zero, List.set_cons_succ]
      refine take_yes 10 (some 35) (v := ?_) rfl (by kernel_rfl) (by kernel_rfl) (by kernel_rfl) (by kernel_rfl) (fun _ _ _ h => h) (by rfl) (by assumption) ?_ ?_
      rotate_left
      · (intro w' hSw; (try dsimp only at hSw); go_simp; try with_reducible rfl)
      try simp only [Act.put, List.setIfInBounds_toArray, List.set_cons_zero, List.set_cons_succ]
      refine take_run 0 rfl (by kernel_rfl) (by rfl) (fun K hK => ?_)
      go_simp
      have FE := ownE_lit y3 _ (Since.refl y3).drew (y3.heap.size) (by simp)
      have hc1 := ((Since.refl y3).drew).alloc (.cells #[] 38)
      refine hK.out _ _ (HKC.out _ hc1) (fun hHeld1 => ?_)
      clear hK K hHeld
      try simp only [Act.put, List.setIfInBounds_toArray, List.set_cons_zero, List.set_cons_succ]
      refine take_run 5 rfl (by kernel_rfl) (by rfl) (fun K hK => ?_)
      refine wp_append_edges (.tmp 25) (.tmp 29) rfl y3.heap.size (.slice (some ⟨y3.heap.size, 0, none⟩) 0 0) [] rfl FE _ _ _ rfl (g.es.take k) (edges_take (HB.out.since (hsy.trans hc1)) hkm _ _ (by simp)) (by simp; omega) hc1.size ?_
      intro v2 w4 ho4 hg4 hb4
      rw [List.nil_append] at ho4
      obtain ⟨o4, c4, rfl⟩ := ho4.len' k (by simp; omega)
      have hc4 := Since.grown hc1 hg4 (fun j hj => (FE.2.lt j hj).1)
      refine hK.out _ _ (HKC.out _ hc4) (fun hHeld4 => ?_)
      clear hK K hHeld1
      try simp only [Act.put, List.setIfInBounds_toArray, List.set_cons_zero, List.set_cons_succ]
      refine take_run 11 rfl (by kernel_rfl) (by rfl) (fun K hK => ?_)
      refine wp_append_edges (.tmp 30) (.tmp 35) rfl y3.heap.size (.slice o4 k c4) (g.es.take k) rfl ho4 _ _ _ rfl (g.es.drop (k + 1)) (edges_drop (HB.out.since (hsy.trans hc4)) hkm2 _ _ _ (by simp) (by intro hlt; rw [if_neg (by omega)])) (by simp; omega) hc4.size ?_
      intro v5 w5 ho5 hg5 hb5
      obtain ⟨o5, c5, rfl⟩ := ho5.len' q HQ.out
      have hc5 := hc4.grown hg5 (fun j hj => (ho4.2.lt j hj).1)
      refine hK.out _ _ (HKC.out _ hc5) (fun hHeld5 => ?_)
      clear hK K hHeld4
      try simp only [Act.put, List.setIfInBounds_toArray, List.set_cons_zero, List.set_cons_succ]
      refine take_yes 12 (some 37) (v := ?_) rfl (by kernel_rfl) (by kernel_rfl) (by kernel_rfl) (by kernel_rfl) (fun _ _ _ h => h) (by rfl) (by assumption) ?_ ?_
      rotate_left
      · (intro w' hSw; (try dsimp only at hSw); go_simp; try with_reducible rfl)
      try simp only [Act.put, List.setIfInBounds_toArray, List.set_cons_zero, List.set_cons_succ]
      refine take_run 13 rfl (by kernel_rfl) (by rfl) (fun K hK => ?_)
      obtain ⟨s0, s1, s2, s3⟩ := (X3.out.since hc5).two
      go_simp
      clear s0 s1 s2 s3
      refine hK.out _ _ ?_ (fun hHeldz => ?_)
      · exact ⟨(((b3.out.since hc5).far (p := ⟨w3.heap.size, 1, none⟩) (by simp; omega) _).two).1, (((b3.out.since hc5).far (p := ⟨w3.heap.size, 1, none⟩) (by simp; omega) _).two).2.1⟩
      clear hK K hHeld5
      try simp only [Act.put, List.setIfInBounds_toArray, List.set_cons_zero, List.set_cons_succ]
      refine wpAnyH_done (by kernel_rfl) ?_ _
      clear hHeldz
      have HL : Hid (delL g.es k = g.es.take k ++ g.es.drop (k + 1)) := rfl
      rw [← HL.out] at ho5
      obtain ⟨y0, y1, _, _⟩ := ((X3.out.since hc5).set 1 (.slice o5 q c5)).two
      obtain ⟨q0, q1, q2, q3⟩ := ((r3.out.since hc5).far (p := ⟨w3.heap.size, 1, none⟩) (by simp; omega) (.slice o5 q c5)).two
      have HA5 := Lib.hid ((HA3.out.since hc5).within HR3.out (Within.cell _ ⟨w3.heap.size, 1, none⟩ (.slice o5 q c5)) (.inl (Nat.le_refl _)))
      have HB5 := Lib.hid (ho5.far (p := ⟨w3.heap.size, 1, none⟩) (by simp; omega) (.slice o5 q c5))
      have hs5 := (hsy.trans hc5).setCell (a := ⟨w3.heap.size, 1, none⟩) (by simp; omega) (.slice o5 q c5)
      clear ho5 ho4 FE hg5 hg4
      go_wp2_with fail
      all_goals
        refine bodyPost_ret (v := .tuple #[.agg #[.slice o3 g.vs.length c3, .slice o5 q c5], .bool true]) (by simp [results, Try.results24, go_sem, *]) rfl ?_
        refine gbOut_mk HO.out.1 HO.out.2 (((HA5.out.far (by simp; omega) _).far (by simp; omega) _).mono (by omega)) (((HB5.out.far (by simp; omega) _).far (by simp; omega) _).mono (by omega)) ?_
        exact (hs5.setCell (by simp) _).setCell (by simp) _
    · have HI := Lib.hid hi
      have HO : Hid (canDel g id = false ∧ delG g id = g) := by
        have : canDel g id = false := by unfold canDel; rw [hi]; simp
        exact ⟨this, by unfold delG; rw [if_neg (by rw [this]; decide)]⟩
      clear hv hi HE
      go_enter Try.func24, Try.ntmps24
      go_wp2_with fail
      generalize ((w.alloc (.cells #[.slice ao n ac, .slice bo m bc] 30)).alloc (.cells #[.slice none 0 0, .slice none 0 0] 30)) = WR at hs0 b0 r0 hz ⊢
      have hzz : w.heap.size + 2 ≤ WR.heap.size := by have := hz.out; omega
      refine (specEI_any _ g id _ (HG.out.since hs0) h2).mono ?_
      rintro e w1 ⟨rfl, hs1⟩
      rw [HI.out]
      have b1 := Lib.hid (b0.out.since hs1)
      have r1 := Lib.hid (r0.out.since hs1)
      have hs01 := hs0.trans hs1
      have z1 := hs1.size
      clear b0 r0 hs0 hs1
      obtain ⟨p0, p1, _, _⟩ := b1.out.two
      go_wp2_with fail
      clear p0 p1
      refine (specVG_any _ g _ (HG.out.since hs01) h1 h2).mono ?_
      rintro e w2 ⟨rfl, hs2⟩
      rw [HV.out]
      have b2 := Lib.hid (b1.out.since hs2)
      have r2 := Lib.hid (r1.out.since hs2)
      have hs02 := hs01.trans hs2
      have z2 := hs2.size
      clear b1 r1 hs01 hs2
      obtain ⟨p0, p1, _, _⟩ := b2.out.two
      go_wp2_with fail
      clear p0 p1
      refine (l3Copy_any _ g _ (HG.out.since hs02) h1 h2).mono ?_
      rintro e w3 ⟨v1, rfl, ho1, hs3⟩
      obtain ⟨xa, xb, rfl, ka, ra, kb, rb⟩ := ho1
      obtain ⟨o1, c1, rfl⟩ := ka.len
      obtain ⟨o2, c2, rfl⟩ := kb.len
      have KA := Lib.hid ka
      have KB := Lib.hid kb
      have r3 := Lib.hid (r2.out.since hs3)
      obtain ⟨q0, q1, q2, q3⟩ := r3.out.two
      have hs03 := hs02.trans hs3
      clear ka kb ra rb r2 hs3
      go_wp2
      refine bodyPost_ret (v := .tuple #[.agg #[.slice o1 g.vs.length c1, .slice o2 g.es.length c2], .bool false]) (by simp [results, Try.results24, go_sem, *]) rfl ?_
      refine gbOut_mk HO.out.1 (HO.out.2.trans (by cases g; rfl)) (((KA.out.far (by simp; omega) _).far (by simp; omega) _).mono (by omega)) (((KB.out.far (by simp; omega) _).far (by simp; omega) _).mono (by omega)) ?_
      exact (hs03.setCell (by simp) _).setCell (by simp) _
  · have HV := Lib.hid hv
    have HO : Hid (canDel g id = false ∧ delG g id = g) := by
      have : canDel g id = false := by unfold canDel; rw [hv]; simp
      exact ⟨this, by unfold delG; rw [if_neg (by rw [this]; decide)]⟩
    obtain ⟨x, hx⟩ : ∃ x, idxE g.es id = x := ⟨_, rfl⟩
    have HI := Lib.hid hx
    clear hv hx HE
    go_enter Try.func24, Try.ntmps24
    go_wp2_with fail
    generalize ((w.alloc (.cells #[.slice ao n ac, .slice bo m bc] 30)).alloc (.cells #[.slice none 0 0, .slice none 0 0] 30)) = WR at hs0 b0 r0 hz ⊢
    have hzz : w.heap.size + 2 ≤ WR.heap.size := by have := hz.out; omega
    refine (specEI_any _ g id _ (HG.out.since hs0) h2).mono ?_
    rintro e w1 ⟨rfl, hs1⟩
    rw [HI.out]
    have b1 := Lib.hid (b0.out.since hs1)
    have r1 := Lib.hid (r0.out.since hs1)
    have hs01 := hs0.trans hs1
    have z1 := hs1.size
    clear b0 r0 hs0 hs1
    obtain ⟨p0, p1, _, _⟩ := b1.out.two
    go_wp2_with fail
    clear p0 p1
    refine (specVG_any _ g _ (HG.out.since hs01) h1 h2).mono ?_
    rintro e w2 ⟨rfl, hs2⟩
    rw [HV.out]
    have b2 := Lib.hid (b1.out.since hs2)
    have r2 := Lib.hid (r1.out.since hs2)
    have hs02 := hs01.trans hs2
    have z2 := hs2.size
    clear b1 r1 hs01 hs2
    obtain ⟨p0, p1, _, _⟩ := b2.out.two
    go_wp2_with fail
    clear p0 p1
    refine (l3Copy_any _ g _ (HG.out.since hs02) h1 h2).mono ?_
    rintro e w3 ⟨v1, rfl, ho1, hs3⟩
    obtain ⟨xa, xb, rfl, ka, ra, kb, rb⟩ := ho1
    obtain ⟨o1, c1, rfl⟩ := ka.len
    obtain ⟨o2, c2, rfl⟩ := kb.len
    have KA := Lib.hid ka
    have KB := Lib.hid kb
    have r3 := Lib.hid (r2.out.since hs3)
    obtain ⟨q0, q1, q2, q3⟩ := r3.out.two
    have hs03 := hs02.trans hs3
    clear ka kb ra rb r2 hs3
    go_wp2
    refine bodyPost_ret (v := .tuple #[.agg #[.slice o1 g.vs.length c1, .slice o2 g.es.length c2], .bool false]) (by simp [results, Try.results24, go_sem, *]) rfl ?_
    refine gbOut_mk HO.out.1 (HO.out.2.trans (by cases g; rfl)) (((KA.out.far (by simp; omega) _).far (by simp; omega) _).mono (by omega)) (((KB.out.far (by simp; omega) _).far (by simp; omega) _).mono (by omega)) ?_
    exact (hs03.setCell (by simp) _).setCell (by simp) _
end Go.Proofs.Ytpmkpeclfhmhlaa
