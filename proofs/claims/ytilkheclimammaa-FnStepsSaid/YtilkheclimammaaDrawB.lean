/- The model's l3Any: a drawn graph, one of its parts changed or none. -/
import Derived.Test.YtilkheclimammaaDrawA
import Derived.Test.YtilkheclimammaaDrawG
import Derived.Test.YtilkheclimammaaK1
namespace Go.Proofs.Ytilkheclimammaa
set_option maxRecDepth 100000
set_option linter.unusedVariables false
set_option linter.unusedSimpArgs false
open Go.ChangeShapes Go.WideShapes Go.ChangeAt Go.RowKit

theorem edge_in9 {a b c d : Int} (ha : a ∈ ([0, 1, 99, 100] : List Int)) (hb : 0 ≤ b ∧ b ≤ 1000) (hc : 0 ≤ c ∧ c ≤ 1000) (hd : 0 ≤ d ∧ d ≤ 1000) : Edg.In ⟨a, b, c, d⟩ := by
  have : 0 ≤ a ∧ a ≤ 100 := by simp at ha; omega
  unfold Edg.In InI; simp only; omega
theorem DA.cell0 {B cb G : Nat} {w0 w : World} {b c n : Nat} {v2 : Value} {xs : List Int} {es : List Edg} (h : DA B cb G w0 w (.slice (some ⟨b, 0, none⟩) n c) v2 xs es) (hn : n = xs.length) (h0 : 0 < n) :
    ∃ z : Int, w.cell? ⟨b, 0, none⟩ = some (.int .i64 z) := by
  subst hn
  refine ⟨xs[0], ?_⟩
  rw [h.own.2.cellAt 0 (by omega), List.getElem?_map, List.getElem?_eq_getElem h0]; rfl
theorem DA.out {B cb G : Nat} {w wr : World} {v v2 : Value} {xs : List Int} {es : List Edg} (h : DA B cb G w wr v v2 xs es) (h5 : xs.length ≤ 5) (h11 : es.length ≤ 11) :
    GAOut B cb w (.returned (.agg #[v, v2])) ((wr.setCell ⟨w.heap.size, 0, none⟩ v).setCell ⟨w.heap.size, 1, none⟩ v2) := by
  have k0 := grown_set wr w.heap.size 0 v
  have k1 := grown_set (wr.setCell ⟨w.heap.size, 0, none⟩ v) w.heap.size 1 v2
  have hcb := h.hcb
  refine ⟨_, ⟨xs, es⟩, rfl, OwnG.mk (((h.own.far (by simp) _).far (by simp) _).mono (by omega)) (((h.ownE.far (by simp) _).far (by simp) _).mono (by omega)), h5, h11, ?_, ?_⟩
  · exact (h.cur.grown k0 (fun j e => by injection e; omega)).grown k1 (fun j e => by injection e; omega)
  · exact (h.trn.grown k0 (fun j e => by injection e; omega)).grown k1 (fun j e => by injection e; omega)
theorem DA.start {B cb G : Nat} {w w1 : World} {v v2 : Value} {xs : List Int} {es : List Edg} (hc : Cur B w1 cb) (ht : Turn cb w w1) (h1 : Own (w.heap.size + 1) w1 v xs) (h2 : OwnE (w.heap.size + 1) w1 v2 es)
    (R : Blk w1 w.heap.size 27 #[.slice none 0 0, .slice none 0 0]) (hcb : cb < w.heap.size) (hG : G = w1.heap.size) : DA B cb G w (w1.alloc (.cells #[v, v2] 27)) v v2 xs es := by
  have hs : Since w1 (w1.alloc (.cells #[v, v2] 27)) := (Since.refl w1).alloc _
  have hl := R.lt
  exact ⟨hc.since hs, ht.trans (Turn.of_since hs), Blk.new hG _ _, R.since hs, h1.since hs, h2.since hs, fun e => by have := (h1.2.lt G e).2; omega, fun e => by have := (h2.2.lt G e).2; omega, by omega, hcb⟩
set_option maxHeartbeats 4000000 in
set_option maxRecDepth 100000 in
theorem l3Any_any (B cb : Nat) (w : World) (hc : Cur B w cb) :
    Calls Try.prog 55 #[.pointer (some ⟨cb, 0, none⟩)] w (GAOut B cb w) := by
  have hcw := hc.2.1
  have hs0 : Since w (w.alloc (.cells #[.slice none 0 0, .slice none 0 0] 27)) := (Since.refl w).alloc _
  have R0 : Hid (Blk (w.alloc (.cells #[.slice none 0 0, .slice none 0 0] 27)) w.heap.size 27 #[.slice none 0 0, .slice none 0 0]) := Blk.new rfl _ _
  have hz0 : w.heap.size + 1 = (w.alloc (.cells #[.slice none 0 0, .slice none 0 0] 27)).heap.size := by simp
  have HC0 := Lib.hid (hc.since hs0)
  clear hc
  go_enter Try.func55, Try.ntmps55
  go_wp2_with fail
  refine (l3Graph_any B cb _ HC0.out).mono ?_
  rintro en w1 ⟨vg, ⟨xs, es⟩, rfl, hog, hv1, hv5, he10, hc1, ht1⟩
  obtain ⟨va, v2, rfl, hga, _, hge, _⟩ := hog
  rw [← hz0] at hga hge
  simp only at hv1 hv5 he10 hga hge
  have R1 : Blk w1 w.heap.size 27 #[.slice none 0 0, .slice none 0 0] := R0.out.grownQ ht1 (fun e => by injection e; omega)
  have ht01 := (Turn.of_since (cb := cb) hs0).trans ht1
  obtain ⟨G, hG⟩ : ∃ G, G = w1.heap.size := ⟨_, rfl⟩
  have HDA := Lib.hid (DA.start hc1 ht01 hga hge R1 hcw hG)
  obtain ⟨b, c1, hva⟩ := HDA.out.one hv1
  obtain ⟨o2, c2, hv2⟩ := hge.len
  obtain ⟨n1, hn1⟩ : ∃ n, n = xs.length := ⟨_, rfl⟩
  obtain ⟨n2, hn2⟩ : ∃ n, n = es.length := ⟨_, rfl⟩
  rw [← hn1] at hva hv1 hv5
  rw [← hn2] at hv2 he10
  subst hva hv2
  have HN1 := Lib.hid hn1
  have HN2 := Lib.hid hn2
  clear hn1 hn2 hga hge R1 ht01 hc1 ht1 hs0 R0 HC0 hz0
  go_wp2_with fail
  rw [← hG]
  clear hG
  generalize (w1.alloc (.cells #[.slice (some ⟨b, 0, none⟩) n1 c1, .slice o2 n2 c2] 27)) = y at HDA ⊢
  refine (l1Below_any B cb 14 _ HDA.out.cur (by omega) (by omega)).mono ?_
  rintro en wr ⟨k, hk0, hk9, rfl, hc2, ht2⟩
  have HDB := Lib.hid (HDA.out.turn hc2 ht2)
  clear HDA hc2 ht2
  rcases (show k = 0 ∨ k = 1 ∨ k = 2 ∨ (k ≠ 0 ∧ k ≠ 1 ∧ k ≠ 2) by omega) with rfl | rfl | rfl | ⟨k0, k1, k2⟩
  · skip
    have hn0 : (0 : Int) < (n1 : Int) := by omega
    have hn0n : 0 < n1 := hv1
    have DW := HDB.out
    have DD := HDB.out.since (Since.refl wr).drew
    go_wp2_with fail
    refine wp_region_held_drew (S := (fun _ => True)) (by kernel_rfl) trivial (fun hHeld => ?_)
    refine take_yes 0 (some 10) (v := ?_) rfl (by kernel_rfl) (by kernel_rfl) (by kernel_rfl) (by kernel_rfl) (fun _ _ _ h => h) (by rfl) (by assumption) ?_ ?_
    rotate_left
    · (intro w' hSw; (try dsimp only at hSw); go_simp; try with_reducible rfl)
    try simp only [Act.put, List.setIfInBounds_toArray, List.set_cons_zero, List.set_cons_succ]
    refine take_yes 2 (some 12) (v := ?_) rfl (by kernel_rfl) (by kernel_rfl) (by kernel_rfl) (by kernel_rfl) (fun _ _ _ h => h) (by rfl) (by assumption) ?_ ?_
    rotate_left
    · (intro w' hSw; (try dsimp only at hSw); go_simp; try with_reducible rfl)
    try simp only [Act.put, List.setIfInBounds_toArray, List.set_cons_zero, List.set_cons_succ]
    refine take_two 1 3 rfl rfl (by kernel_rfl) (by rfl) (by rfl) (fun K hK => ?_) (fun K hK => ?_)
    · skip
      obtain ⟨q0, q1, q2, q3⟩ := DD.blk.two
      go_simp
      clear q0 q1 q2 q3
      refine hK.out _ _ trivial (fun hHeld1 => ?_)
      clear hK K hHeld
      try simp only [Act.put, List.setIfInBounds_toArray, List.set_cons_zero, List.set_cons_succ]
      refine take_run 3 rfl (by kernel_rfl) (by rfl) (fun K hK => ?_)
      go_simp
      have hsb : Since wr (wr.alloc (.cells #[.int .i64 (-1), .int .i64 3, .int .i64 2] 3)).drew := ((Since.refl wr).alloc (.cells #[.int .i64 (-1), .int .i64 3, .int .i64 2] 3)).drew
      have D3 := DW.since hsb
      have hl4 : LitAt (wr.alloc (.cells #[.int .i64 (-1), .int .i64 3, .int .i64 2] 3)).drew wr.heap.size [-1, 3, 2] := (LitAt.new wr [-1, 3, 2] _ rfl).grown (grown_since (Since.refl (wr.alloc (.cells #[.int .i64 (-1), .int .i64 3, .int .i64 2] 3))).drew) (by simp)
      have hn5 : wr.heap.size ≠ cb := by have := DW.cur.2.1; omega
      clear hsb
      refine hK.out _ _ trivial (fun hHeld2 => ?_)
      clear hK K hHeld1
      try simp only [Act.put, List.setIfInBounds_toArray, List.set_cons_zero, List.set_cons_succ]
      refine take_run 4 rfl (by kernel_rfl) (by rfl) (fun K hK => ?_)
      go_simp
      refine (pick_at [-1, 3, 2] B cb _ 3 _ D3.cur hn5 hl4 rfl (by omega) (by omega)).mono ?_
      rintro en wq8 ⟨x, hx, rfl, hcq, htq⟩
      have D7 := D3.turn hcq htq
      refine hK.out _ _ trivial (fun hHeld6 => ?_)
      clear hK K hHeld2 hcq htq
      try simp only [Act.put, List.setIfInBounds_toArray, List.set_cons_zero, List.set_cons_succ]
      refine take_yes 5 (some 15) (v := ?_) rfl (by kernel_rfl) (by kernel_rfl) (by kernel_rfl) (by kernel_rfl) (fun _ _ _ h => h) (by rfl) (by assumption) ?_ ?_
      rotate_left
      · (intro w' hSw; (try dsimp only at hSw); go_simp; try with_reducible rfl)
      try simp only [Act.put, List.setIfInBounds_toArray, List.set_cons_zero, List.set_cons_succ]
      refine take_run 6 rfl (by kernel_rfl) (by rfl) (fun K hK => ?_)
      obtain ⟨z0, q0⟩ := D7.cell0 HN1.out (by omega)
      have hrow := D7.own.2
      rw [← HN1.out] at hrow
      have hfz := hrow.frozenAt 0
      go_simp
      clear q0 hfz hrow
      have DZ := D7.first HN1.out x (by simp at hx; unfold InI; omega)
      refine hK.out _ _ trivial (fun hHeld9 => ?_)
      clear hK K hHeld6
      try simp only [Act.put, List.setIfInBounds_toArray, List.set_cons_zero, List.set_cons_succ]
      refine wpAnyH_done (by kernel_rfl) ?_ _
      have HDZ := Lib.hid DZ
      clear hHeld9 DZ
      obtain ⟨q0, q1, q2, q3⟩ := HDZ.out.blk.two
      obtain ⟨a0, a1, a2, a3⟩ := HDZ.out.res.two
      go_wp2_with fail
      refine bodyPost_ret (v := .agg #[.slice (some ⟨b, 0, none⟩) n1 c1, .slice o2 n2 c2]) (by simp [results, Try.results55, go_sem, *]) rfl ?_
      exact HDZ.out.out (by rw [List.length_set]; have := HN1.out; omega) (by have := HN2.out; omega)
    · skip
      go_simp
      have hsb : Since wr (wr.alloc (.cells #[.int .i64 (-1), .int .i64 3, .int .i64 2] 3)).drew := ((Since.refl wr).alloc (.cells #[.int .i64 (-1), .int .i64 3, .int .i64 2] 3)).drew
      have D11 := DW.since hsb
      have hl12 : LitAt (wr.alloc (.cells #[.int .i64 (-1), .int .i64 3, .int .i64 2] 3)).drew wr.heap.size [-1, 3, 2] := (LitAt.new wr [-1, 3, 2] _ rfl).grown (grown_since (Since.refl (wr.alloc (.cells #[.int .i64 (-1), .int .i64 3, .int .i64 2] 3))).drew) (by simp)
      have hn13 : wr.heap.size ≠ cb := by have := DW.cur.2.1; omega
      clear hsb
      refine hK.out _ _ trivial (fun hHeld10 => ?_)
      clear hK K hHeld
      try simp only [Act.put, List.setIfInBounds_toArray, List.set_cons_zero, List.set_cons_succ]
      refine take_two 1 4 rfl rfl (by kernel_rfl) (by rfl) (by rfl) (fun K hK => ?_) (fun K hK => ?_)
      · skip
        obtain ⟨q0, q1, q2, q3⟩ := D11.blk.two
        go_simp
        clear q0 q1 q2 q3
        refine hK.out _ _ trivial (fun hHeld14 => ?_)
        clear hK K hHeld10
        try simp only [Act.put, List.setIfInBounds_toArray, List.set_cons_zero, List.set_cons_succ]
        refine take_run 4 rfl (by kernel_rfl) (by rfl) (fun K hK => ?_)
        go_simp
        refine (pick_at [-1, 3, 2] B cb _ 3 _ D11.cur hn13 hl12 rfl (by omega) (by omega)).mono ?_
        rintro en wq17 ⟨x, hx, rfl, hcq, htq⟩
        have D16 := D11.turn hcq htq
        refine hK.out _ _ trivial (fun hHeld15 => ?_)
        clear hK K hHeld14 hcq htq
        try simp only [Act.put, List.setIfInBounds_toArray, List.set_cons_zero, List.set_cons_succ]
        refine take_yes 5 (some 15) (v := ?_) rfl (by kernel_rfl) (by kernel_rfl) (by kernel_rfl) (by kernel_rfl) (fun _ _ _ h => h) (by rfl) (by assumption) ?_ ?_
        rotate_left
        · (intro w' hSw; (try dsimp only at hSw); go_simp; try with_reducible rfl)
        try simp only [Act.put, List.setIfInBounds_toArray, List.set_cons_zero, List.set_cons_succ]
        refine take_run 6 rfl (by kernel_rfl) (by rfl) (fun K hK => ?_)
        obtain ⟨z0, q0⟩ := D16.cell0 HN1.out (by omega)
        have hrow := D16.own.2
        rw [← HN1.out] at hrow
        have hfz := hrow.frozenAt 0
        go_simp
        clear q0 hfz hrow
        have DZ := D16.first HN1.out x (by simp at hx; unfold InI; omega)
        refine hK.out _ _ trivial (fun hHeld18 => ?_)
        clear hK K hHeld15
        try simp only [Act.put, List.setIfInBounds_toArray, List.set_cons_zero, List.set_cons_succ]
        refine wpAnyH_done (by kernel_rfl) ?_ _
        have HDZ := Lib.hid DZ
        clear hHeld18 DZ
        obtain ⟨q0, q1, q2, q3⟩ := HDZ.out.blk.two
        obtain ⟨a0, a1, a2, a3⟩ := HDZ.out.res.two
        go_wp2_with fail
        refine bodyPost_ret (v := .agg #[.slice (some ⟨b, 0, none⟩) n1 c1, .slice o2 n2 c2]) (by simp [results, Try.results55, go_sem, *]) rfl ?_
        exact HDZ.out.out (by rw [List.length_set]; have := HN1.out; omega) (by have := HN2.out; omega)
      · skip
        go_simp
        refine (pick_at [-1, 3, 2] B cb _ 3 _ D11.cur hn13 hl12 rfl (by omega) (by omega)).mono ?_
        rintro en wq21 ⟨x, hx, rfl, hcq, htq⟩
        have D20 := D11.turn hcq htq
        refine hK.out _ _ trivial (fun hHeld19 => ?_)
        clear hK K hHeld10 hcq htq
        try simp only [Act.put, List.setIfInBounds_toArray, List.set_cons_zero, List.set_cons_succ]
        refine take_run 1 rfl (by kernel_rfl) (by rfl) (fun K hK => ?_)
        obtain ⟨q0, q1, q2, q3⟩ := D20.blk.two
        go_simp
        clear q0 q1 q2 q3
        refine hK.out _ _ trivial (fun hHeld22 => ?_)
        clear hK K hHeld19
        try simp only [Act.put, List.setIfInBounds_toArray, List.set_cons_zero, List.set_cons_succ]
        refine take_yes 5 (some 15) (v := ?_) rfl (by kernel_rfl) (by kernel_rfl) (by kernel_rfl) (by kernel_rfl) (fun _ _ _ h => h) (by rfl) (by assumption) ?_ ?_
        rotate_left
        · (intro w' hSw; (try dsimp only at hSw); go_simp; try with_reducible rfl)
        try simp only [Act.put, List.setIfInBounds_toArray, List.set_cons_zero, List.set_cons_succ]
        refine take_run 6 rfl (by kernel_rfl) (by rfl) (fun K hK => ?_)
        obtain ⟨z0, q0⟩ := D20.cell0 HN1.out (by omega)
        have hrow := D20.own.2
        rw [← HN1.out] at hrow
        have hfz := hrow.frozenAt 0
        go_simp
        clear q0 hfz hrow
        have DZ := D20.first HN1.out x (by simp at hx; unfold InI; omega)
        refine hK.out _ _ trivial (fun hHeld23 => ?_)
        clear hK K hHeld22
        try simp only [Act.put, List.setIfInBounds_toArray, List.set_cons_zero, List.set_cons_succ]
        refine wpAnyH_done (by kernel_rfl) ?_ _
        have HDZ := Lib.hid DZ
        clear hHeld23 DZ
        obtain ⟨q0, q1, q2, q3⟩ := HDZ.out.blk.two
        obtain ⟨a0, a1, a2, a3⟩ := HDZ.out.res.two
        go_wp2_with fail
        refine bodyPost_ret (v := .agg #[.slice (some ⟨b, 0, none⟩) n1 c1, .slice o2 n2 c2]) (by simp [results, Try.results55, go_sem, *]) rfl ?_
        exact HDZ.out.out (by rw [List.length_set]; have := HN1.out; omega) (by have := HN2.out; omega)
  · skip
    have DW := HDB.out
    have DD := HDB.out.since (Since.refl wr).drew
    go_wp2_with fail
    refine wp_region_held_drew (S := (fun _ => True)) (by kernel_rfl) trivial (fun hHeld => ?_)
    refine take_yes 0 (some 18) (v := ?_) rfl (by kernel_rfl) (by kernel_rfl) (by kernel_rfl) (by kernel_rfl) (fun _ _ _ h => h) (by rfl) (by assumption) ?_ ?_
    rotate_left
    · (intro w' hSw; (try dsimp only at hSw); go_simp; try with_reducible rfl)
    try simp only [Act.put, List.setIfInBounds_toArray, List.set_cons_zero, List.set_cons_succ]
    refine take_yes 2 (some 20) (v := ?_) rfl (by kernel_rfl) (by kernel_rfl) (by kernel_rfl) (by kernel_rfl) (fun _ _ _ h => h) (by rfl) (by assumption) ?_ ?_
    rotate_left
    · (intro w' hSw; (try dsimp only at hSw); go_simp; try with_reducible rfl)
    try simp only [Act.put, List.setIfInBounds_toArray, List.set_cons_zero, List.set_cons_succ]
    refine take_yes 5 (some 23) (v := ?_) rfl (by kernel_rfl) (by kernel_rfl) (by kernel_rfl) (by kernel_rfl) (fun _ _ _ h => h) (by rfl) (by assumption) ?_ ?_
    rotate_left
    · (intro w' hSw; (try dsimp only at hSw); go_simp; try with_reducible rfl)
    try simp only [Act.put, List.setIfInBounds_toArray, List.set_cons_zero, List.set_cons_succ]
    refine take_yes 7 (some 25) (v := ?_) rfl (by kernel_rfl) (by kernel_rfl) (by kernel_rfl) (by kernel_rfl) (fun _ _ _ h => h) (by rfl) (by assumption) ?_ ?_
    rotate_left
    · (intro w' hSw; (try dsimp only at hSw); go_simp; try with_reducible rfl)
    try simp only [Act.put, List.setIfInBounds_toArray, List.set_cons_zero, List.set_cons_succ]
    refine take_yes 9 (some 27) (v := ?_) rfl (by kernel_rfl) (by kernel_rfl) (by kernel_rfl) (by kernel_rfl) (fun _ _ _ h => h) (by rfl) (by assumption) ?_ ?_
    rotate_left
    · (intro w' hSw; (try dsimp only at hSw); go_simp; try with_reducible rfl)
    try simp only [Act.put, List.setIfInBounds_toArray, List.set_cons_zero, List.set_cons_succ]
    refine take_two 1 3 rfl rfl (by kernel_rfl) (by rfl) (by rfl) (fun K hK => ?_) (fun K hK => ?_)
    · skip
      obtain ⟨q0, q1, q2, q3⟩ := DD.blk.two
      go_simp
      clear q0 q1 q2 q3
      refine hK.out _ _ trivial (fun hHeld24 => ?_)
      clear hK K hHeld
      try simp only [Act.put, List.setIfInBounds_toArray, List.set_cons_zero, List.set_cons_succ]
      refine take_run 3 rfl (by kernel_rfl) (by rfl) (fun K hK => ?_)
      go_simp
      have hsb : Since wr (wr.alloc (.cells #[.int .i64 0, .int .i64 1, .int .i64 99, .int .i64 100] 3)).drew := ((Since.refl wr).alloc (.cells #[.int .i64 0, .int .i64 1, .int .i64 99, .int .i64 100] 3)).drew
      have D26 := DW.since hsb
      have hl27 : LitAt (wr.alloc (.cells #[.int .i64 0, .int .i64 1, .int .i64 99, .int .i64 100] 3)).drew wr.heap.size [0, 1, 99, 100] := (LitAt.new wr [0, 1, 99, 100] _ rfl).grown (grown_since (Since.refl (wr.alloc (.cells #[.int .i64 0, .int .i64 1, .int .i64 99, .int .i64 100] 3))).drew) (by simp)
      have hn28 : wr.heap.size ≠ cb := by have := DW.cur.2.1; omega
      clear hsb
      refine hK.out _ _ trivial (fun hHeld25 => ?_)
      clear hK K hHeld24
      try simp only [Act.put, List.setIfInBounds_toArray, List.set_cons_zero, List.set_cons_succ]
      refine take_run 4 rfl (by kernel_rfl) (by rfl) (fun K hK => ?_)
      go_simp
      refine (pick_at [0, 1, 99, 100] B cb _ 4 _ D26.cur hn28 hl27 rfl (by omega) (by omega)).mono ?_
      rintro en wq31 ⟨x0, hx0, rfl, hcq, htq⟩
      have D30 := D26.turn hcq htq
      refine hK.out _ _ trivial (fun hHeld29 => ?_)
      clear hK K hHeld25 hcq htq
      try simp only [Act.put, List.setIfInBounds_toArray, List.set_cons_zero, List.set_cons_succ]
      refine take_run 6 rfl (by kernel_rfl) (by rfl) (fun K hK => ?_)
      go_simp
      refine (l1Below_any B cb 6 _ D30.cur (by omega) (by omega)).mono ?_
      rintro en wq34 ⟨x1, hx10, hx19, rfl, hcq, htq⟩
      have D33 := D30.turn hcq htq
      refine hK.out _ _ trivial (fun hHeld32 => ?_)
      clear hK K hHeld29 hcq htq
      try simp only [Act.put, List.setIfInBounds_toArray, List.set_cons_zero, List.set_cons_succ]
      refine take_run 8 rfl (by kernel_rfl) (by rfl) (fun K hK => ?_)
      go_simp
      refine (l1Below_any B cb 6 _ D33.cur (by omega) (by omega)).mono ?_
      rintro en wq37 ⟨x2, hx20, hx29, rfl, hcq, htq⟩
      have D36 := D33.turn hcq htq
      refine hK.out _ _ trivial (fun hHeld35 => ?_)
      clear hK K hHeld32 hcq htq
      try simp only [Act.put, List.setIfInBounds_toArray, List.set_cons_zero, List.set_cons_succ]
      refine take_run 10 rfl (by kernel_rfl) (by rfl) (fun K hK => ?_)
      go_simp
      refine (l1Below_any B cb 4 _ D36.cur (by omega) (by omega)).mono ?_
      rintro en wq40 ⟨x3, hx30, hx39, rfl, hcq, htq⟩
      have D39 := D36.turn hcq htq
      refine hK.out _ _ trivial (fun hHeld38 => ?_)
      clear hK K hHeld35 hcq htq
      try simp only [Act.put, List.setIfInBounds_toArray, List.set_cons_zero, List.set_cons_succ]
      refine take_yes 11 (some 29) (v := ?_) rfl (by kernel_rfl) (by kernel_rfl) (by kernel_rfl) (by kernel_rfl) (fun _ _ _ h => h) (by rfl) (by assumption) ?_ ?_
      rotate_left
      · (intro w' hSw; (try dsimp only at hSw); go_simp; try with_reducible rfl)
      try simp only [Act.put, List.setIfInBounds_toArray, List.set_cons_zero, List.set_cons_succ]
      refine take_run 12 rfl (by kernel_rfl) (by rfl) (fun K hK => ?_)
      go_simp
      have hsb : Since wq40 (wq40.alloc (.cells #[.int .i64 x0, .int .i64 x1, .int .i64 x2, .int .i64 x3] 108)) := (Since.refl wq40).alloc (.cells #[.int .i64 x0, .int .i64 x1, .int .i64 x2, .int .i64 x3] 108)
      have D42 := D39.since hsb
      have hib := lit1E wq40 ⟨x0, x1, x2, x3⟩ (edge_in9 hx0 (by omega) (by omega) (by omega))
      clear hsb
      refine hK.out _ _ trivial (fun hHeld41 => ?_)
      clear hK K hHeld38
      try simp only [Act.put, List.setIfInBounds_toArray, List.set_cons_zero, List.set_cons_succ]
      refine take_run 13 rfl (by kernel_rfl) (by rfl) (fun K hK => ?_)
      refine wp_append_edges (.tmp 19) (.tmp 30) rfl (w.heap.size + 1) (.slice o2 n2 c2) es rfl D42.ownE _ _ _ rfl [⟨x0, x1, x2, x3⟩] hib (by have := HN2.out; simp; omega) (by have := D42.trn.size; have := D42.blk.lt; have := D42.hG; omega) ?_
      intro v' w4 ho4 hg4 hb4
      obtain ⟨n4, hn4⟩ : ∃ n, (es ++ [(⟨x0, x1, x2, x3⟩ : Edg)]).length = n := ⟨_, rfl⟩
      obtain ⟨o4, c4, hv4⟩ := ho4.len
      rw [hn4] at hv4
      subst hv4
      have HN4 := Lib.hid hn4
      clear hn4
      have P4 := D42.pushE ho4 hg4 hb4
      clear hb4
      refine hK.out _ _ trivial (fun hHeld43 => ?_)
      clear hK K hHeld41
      try simp only [Act.put, List.setIfInBounds_toArray, List.set_cons_zero, List.set_cons_succ]
      refine take_yes 14 (some 32) (v := ?_) rfl (by kernel_rfl) (by kernel_rfl) (by kernel_rfl) (by kernel_rfl) (fun _ _ _ h => h) (by rfl) (by assumption) ?_ ?_
      rotate_left
      · (intro w' hSw; (try dsimp only at hSw); go_simp; try with_reducible rfl)
      try simp only [Act.put, List.setIfInBounds_toArray, List.set_cons_zero, List.set_cons_succ]
      refine take_run 15 rfl (by kernel_rfl) (by rfl) (fun K hK => ?_)
      obtain ⟨q0, q1, q2, q3⟩ := P4.blk.two
      go_simp
      clear q0 q1 q2 q3
      have DZ := P4.set1
      refine hK.out _ _ trivial (fun hHeld44 => ?_)
      clear hK K hHeld43
      try simp only [Act.put, List.setIfInBounds_toArray, List.set_cons_zero, List.set_cons_succ]
      refine wpAnyH_done (by kernel_rfl) ?_ _
      have HDZ := Lib.hid DZ
      clear hHeld44 DZ P4 hib ho4 hg4
      obtain ⟨q0, q1, q2, q3⟩ := HDZ.out.blk.two
      obtain ⟨a0, a1, a2, a3⟩ := HDZ.out.res.two
      go_wp2_with fail
      refine bodyPost_ret (v := .agg #[.slice (some ⟨b, 0, none⟩) n1 c1, .slice o4 n4 c4]) (by simp [results, Try.results55, go_sem, *]) rfl ?_
      exact HDZ.out.out (by have := HN1.out; omega) (by have := HN2.out; simp; omega)
    · skip
      go_simp
      have hsb : Since wr (wr.alloc (.cells #[.int .i64 0, .int .i64 1, .int .i64 99, .int .i64 100] 3)).drew := ((Since.refl wr).alloc (.cells #[.int .i64 0, .int .i64 1, .int .i64 99, .int .i64 100] 3)).drew
      have D46 := DW.since hsb
      have hl47 : LitAt (wr.alloc (.cells #[.int .i64 0, .int .i64 1, .int .i64 99, .int .i64 100] 3)).drew wr.heap.size [0, 1, 99, 100] := (LitAt.new wr [0, 1, 99, 100] _ rfl).grown (grown_since (Since.refl (wr.alloc (.cells #[.int .i64 0, .int .i64 1, .int .i64 99, .int .i64 100] 3))).drew) (by simp)
      have hn48 : wr.heap.size ≠ cb := by have := DW.cur.2.1; omega
      clear hsb
      refine hK.out _ _ trivial (fun hHeld45 => ?_)
      clear hK K hHeld
      try simp only [Act.put, List.setIfInBounds_toArray, List.set_cons_zero, List.set_cons_succ]
      refine take_two 1 4 rfl rfl (by kernel_rfl) (by rfl) (by rfl) (fun K hK => ?_) (fun K hK => ?_)
      · skip
        obtain ⟨q0, q1, q2, q3⟩ := D46.blk.two
        go_simp
        clear q0 q1 q2 q3
        refine hK.out _ _ trivial (fun hHeld49 => ?_)
        clear hK K hHeld45
        try simp only [Act.put, List.setIfInBounds_toArray, List.set_cons_zero, List.set_cons_succ]
        refine take_run 4 rfl (by kernel_rfl) (by rfl) (fun K hK => ?_)
        go_simp
        refine (pick_at [0, 1, 99, 100] B cb _ 4 _ D46.cur hn48 hl47 rfl (by omega) (by omega)).mono ?_
        rintro en wq52 ⟨x0, hx0, rfl, hcq, htq⟩
        have D51 := D46.turn hcq htq
        refine hK.out _ _ trivial (fun hHeld50 => ?_)
        clear hK K hHeld49 hcq htq
        try simp only [Act.put, List.setIfInBounds_toArray, List.set_cons_zero, List.set_cons_succ]
        refine take_run 6 rfl (by kernel_rfl) (by rfl) (fun K hK => ?_)
        go_simp
        refine (l1Below_any B cb 6 _ D51.cur (by omega) (by omega)).mono ?_
        rintro en wq55 ⟨x1, hx10, hx19, rfl, hcq, htq⟩
        have D54 := D51.turn hcq htq
        refine hK.out _ _ trivial (fun hHeld53 => ?_)
        clear hK K hHeld50 hcq htq
        try simp only [Act.put, List.setIfInBounds_toArray, List.set_cons_zero, List.set_cons_succ]
        refine take_run 8 rfl (by kernel_rfl) (by rfl) (fun K hK => ?_)
        go_simp
        refine (l1Below_any B cb 6 _ D54.cur (by omega) (by omega)).mono ?_
        rintro en wq58 ⟨x2, hx20, hx29, rfl, hcq, htq⟩
        have D57 := D54.turn hcq htq
        refine hK.out _ _ trivial (fun hHeld56 => ?_)
        clear hK K hHeld53 hcq htq
        try simp only [Act.put, List.setIfInBounds_toArray, List.set_cons_zero, List.set_cons_succ]
        refine take_run 10 rfl (by kernel_rfl) (by rfl) (fun K hK => ?_)
        go_simp
        refine (l1Below_any B cb 4 _ D57.cur (by omega) (by omega)).mono ?_
        rintro en wq61 ⟨x3, hx30, hx39, rfl, hcq, htq⟩
        have D60 := D57.turn hcq htq
        refine hK.out _ _ trivial (fun hHeld59 => ?_)
        clear hK K hHeld56 hcq htq
        try simp only [Act.put, List.setIfInBounds_toArray, List.set_cons_zero, List.set_cons_succ]
        refine take_yes 11 (some 29) (v := ?_) rfl (by kernel_rfl) (by kernel_rfl) (by kernel_rfl) (by kernel_rfl) (fun _ _ _ h => h) (by rfl) (by assumption) ?_ ?_
        rotate_left
        · (intro w' hSw; (try dsimp only at hSw); go_simp; try with_reducible rfl)
        try simp only [Act.put, List.setIfInBounds_toArray, List.set_cons_zero, List.set_cons_succ]
        refine take_run 12 rfl (by kernel_rfl) (by rfl) (fun K hK => ?_)
        go_simp
        have hsb : Since wq61 (wq61.alloc (.cells #[.int .i64 x0, .int .i64 x1, .int .i64 x2, .int .i64 x3] 108)) := (Since.refl wq61).alloc (.cells #[.int .i64 x0, .int .i64 x1, .int .i64 x2, .int .i64 x3] 108)
        have D63 := D60.since hsb
        have hib := lit1E wq61 ⟨x0, x1, x2, x3⟩ (edge_in9 hx0 (by omega) (by omega) (by omega))
        clear hsb
        refine hK.out _ _ trivial (fun hHeld62 => ?_)
        clear hK K hHeld59
        try simp only [Act.put, List.setIfInBounds_toArray, List.set_cons_zero, List.set_cons_succ]
        refine take_run 13 rfl (by kernel_rfl) (by rfl) (fun K hK => ?_)
        refine wp_append_edges (.tmp 19) (.tmp 30) rfl (w.heap.size + 1) (.slice o2 n2 c2) es rfl D63.ownE _ _ _ rfl [⟨x0, x1, x2, x3⟩] hib (by have := HN2.out; simp; omega) (by have := D63.trn.size; have := D63.blk.lt; have := D63.hG; omega) ?_
        intro v' w4 ho4 hg4 hb4
        obtain ⟨n4, hn4⟩ : ∃ n, (es ++ [(⟨x0, x1, x2, x3⟩ : Edg)]).length = n := ⟨_, rfl⟩
        obtain ⟨o4, c4, hv4⟩ := ho4.len
        rw [hn4] at hv4
        subst hv4
        have HN4 := Lib.hid hn4
        clear hn4
        have P4 := D63.pushE ho4 hg4 hb4
        clear hb4
        refine hK.out _ _ trivial (fun hHeld64 => ?_)
        clear hK K hHeld62
        try simp only [Act.put, List.setIfInBounds_toArray, List.set_cons_zero, List.set_cons_succ]
        refine take_yes 14 (some 32) (v := ?_) rfl (by kernel_rfl) (by kernel_rfl) (by kernel_rfl) (by kernel_rfl) (fun _ _ _ h => h) (by rfl) (by assumption) ?_ ?_
        rotate_left
        · (intro w' hSw; (try dsimp only at hSw); go_simp; try with_reducible rfl)
        try simp only [Act.put, List.setIfInBounds_toArray, List.set_cons_zero, List.set_cons_succ]
        refine take_run 15 rfl (by kernel_rfl) (by rfl) (fun K hK => ?_)
        obtain ⟨q0, q1, q2, q3⟩ := P4.blk.two
        go_simp
        clear q0 q1 q2 q3
        have DZ := P4.set1
        refine hK.out _ _ trivial (fun hHeld65 => ?_)
        clear hK K hHeld64
        try simp only [Act.put, List.setIfInBounds_toArray, List.set_cons_zero, List.set_cons_succ]
        refine wpAnyH_done (by kernel_rfl) ?_ _
        have HDZ := Lib.hid DZ
        clear hHeld65 DZ P4 hib ho4 hg4
        obtain ⟨q0, q1, q2, q3⟩ := HDZ.out.blk.two
        obtain ⟨a0, a1, a2, a3⟩ := HDZ.out.res.two
        go_wp2_with fail
        refine bodyPost_ret (v := .agg #[.slice (some ⟨b, 0, none⟩) n1 c1, .slice o4 n4 c4]) (by simp [results, Try.results55, go_sem, *]) rfl ?_
        exact HDZ.out.out (by have := HN1.out; omega) (by have := HN2.out; simp; omega)
      · skip
        go_simp
        refine (pick_at [0, 1, 99, 100] B cb _ 4 _ D46.cur hn48 hl47 rfl (by omega) (by omega)).mono ?_
        rintro en wq68 ⟨x0, hx0, rfl, hcq, htq⟩
        have D67 := D46.turn hcq htq
        refine hK.out _ _ trivial (fun hHeld66 => ?_)
        clear hK K hHeld45 hcq htq
        try simp only [Act.put, List.setIfInBounds_toArray, List.set_cons_zero, List.set_cons_succ]
        refine take_two 1 6 rfl rfl (by kernel_rfl) (by rfl) (by rfl) (fun K hK => ?_) (fun K hK => ?_)
        · skip
          obtain ⟨q0, q1, q2, q3⟩ := D67.blk.two
          go_simp
          clear q0 q1 q2 q3
          refine hK.out _ _ trivial (fun hHeld69 => ?_)
          clear hK K hHeld66
          try simp only [Act.put, List.setIfInBounds_toArray, List.set_cons_zero, List.set_cons_succ]
          refine take_run 6 rfl (by kernel_rfl) (by rfl) (fun K hK => ?_)
          go_simp
          refine (l1Below_any B cb 6 _ D67.cur (by omega) (by omega)).mono ?_
          rintro en wq72 ⟨x1, hx10, hx19, rfl, hcq, htq⟩
          have D71 := D67.turn hcq htq
          refine hK.out _ _ trivial (fun hHeld70 => ?_)
          clear hK K hHeld69 hcq htq
          try simp only [Act.put, List.setIfInBounds_toArray, List.set_cons_zero, List.set_cons_succ]
          refine take_run 8 rfl (by kernel_rfl) (by rfl) (fun K hK => ?_)
          go_simp
          refine (l1Below_any B cb 6 _ D71.cur (by omega) (by omega)).mono ?_
          rintro en wq75 ⟨x2, hx20, hx29, rfl, hcq, htq⟩
          have D74 := D71.turn hcq htq
          refine hK.out _ _ trivial (fun hHeld73 => ?_)
          clear hK K hHeld70 hcq htq
          try simp only [Act.put, List.setIfInBounds_toArray, List.set_cons_zero, List.set_cons_succ]
          refine take_run 10 rfl (by kernel_rfl) (by rfl) (fun K hK => ?_)
          go_simp
          refine (l1Below_any B cb 4 _ D74.cur (by omega) (by omega)).mono ?_
          rintro en wq78 ⟨x3, hx30, hx39, rfl, hcq, htq⟩
          have D77 := D74.turn hcq htq
          refine hK.out _ _ trivial (fun hHeld76 => ?_)
          clear hK K hHeld73 hcq htq
          try simp only [Act.put, List.setIfInBounds_toArray, List.set_cons_zero, List.set_cons_succ]
          refine take_yes 11 (some 29) (v := ?_) rfl (by kernel_rfl) (by kernel_rfl) (by kernel_rfl) (by kernel_rfl) (fun _ _ _ h => h) (by rfl) (by assumption) ?_ ?_
          rotate_left
          · (intro w' hSw; (try dsimp only at hSw); go_simp; try with_reducible rfl)
          try simp only [Act.put, List.setIfInBounds_toArray, List.set_cons_zero, List.set_cons_succ]
          refine take_run 12 rfl (by kernel_rfl) (by rfl) (fun K hK => ?_)
          go_simp
          have hsb : Since wq78 (wq78.alloc (.cells #[.int .i64 x0, .int .i64 x1, .int .i64 x2, .int .i64 x3] 108)) := (Since.refl wq78).alloc (.cells #[.int .i64 x0, .int .i64 x1, .int .i64 x2, .int .i64 x3] 108)
          have D80 := D77.since hsb
          have hib := lit1E wq78 ⟨x0, x1, x2, x3⟩ (edge_in9 hx0 (by omega) (by omega) (by omega))
          clear hsb
          refine hK.out _ _ trivial (fun hHeld79 => ?_)
          clear hK K hHeld76
          try simp only [Act.put, List.setIfInBounds_toArray, List.set_cons_zero, List.set_cons_succ]
          refine take_run 13 rfl (by kernel_rfl) (by rfl) (fun K hK => ?_)
          refine wp_append_edges (.tmp 19) (.tmp 30) rfl (w.heap.size + 1) (.slice o2 n2 c2) es rfl D80.ownE _ _ _ rfl [⟨x0, x1, x2, x3⟩] hib (by have := HN2.out; simp; omega) (by have := D80.trn.size; have := D80.blk.lt; have := D80.hG; omega) ?_
          intro v' w4 ho4 hg4 hb4
          obtain ⟨n4, hn4⟩ : ∃ n, (es ++ [(⟨x0, x1, x2, x3⟩ : Edg)]).length = n := ⟨_, rfl⟩
          obtain ⟨o4, c4, hv4⟩ := ho4.len
          rw [hn4] at hv4
          subst hv4
          have HN4 := Lib.hid hn4
          clear hn4
          have P4 := D80.pushE ho4 hg4 hb4
          clear hb4
          refine hK.out _ _ trivial (fun hHeld81 => ?_)
          clear hK K hHeld79
          try simp only [Act.put, List.setIfInBounds_toArray, List.set_cons_zero, List.set_cons_succ]
          refine take_yes 14 (some 32) (v := ?_) rfl (by kernel_rfl) (by kernel_rfl) (by kernel_rfl) (by kernel_rfl) (fun _ _ _ h => h) (by rfl) (by assumption) ?_ ?_
          rotate_left
          · (intro w' hSw; (try dsimp only at hSw); go_simp; try with_reducible rfl)
          try simp only [Act.put, List.setIfInBounds_toArray, List.set_cons_zero, List.set_cons_succ]
          refine take_run 15 rfl (by kernel_rfl) (by rfl) (fun K hK => ?_)
          obtain ⟨q0, q1, q2, q3⟩ := P4.blk.two
          go_simp
          clear q0 q1 q2 q3
          have DZ := P4.set1
          refine hK.out _ _ trivial (fun hHeld82 => ?_)
          clear hK K hHeld81
          try simp only [Act.put, List.setIfInBounds_toArray, List.set_cons_zero, List.set_cons_succ]
          refine wpAnyH_done (by kernel_rfl) ?_ _
          have HDZ := Lib.hid DZ
          clear hHeld82 DZ P4 hib ho4 hg4
          obtain ⟨q0, q1, q2, q3⟩ := HDZ.out.blk.two
          obtain ⟨a0, a1, a2, a3⟩ := HDZ.out.res.two
          go_wp2_with fail
          refine bodyPost_ret (v := .agg #[.slice (some ⟨b, 0, none⟩) n1 c1, .slice o4 n4 c4]) (by simp [results, Try.results55, go_sem, *]) rfl ?_
          exact HDZ.out.out (by have := HN1.out; omega) (by have := HN2.out; simp; omega)
        · skip
          go_simp
          refine (l1Below_any B cb 6 _ D67.cur (by omega) (by omega)).mono ?_
          rintro en wq85 ⟨x1, hx10, hx19, rfl, hcq, htq⟩
          have D84 := D67.turn hcq htq
          refine hK.out _ _ trivial (fun hHeld83 => ?_)
          clear hK K hHeld66 hcq htq
          try simp only [Act.put, List.setIfInBounds_toArray, List.set_cons_zero, List.set_cons_succ]
          refine take_two 1 8 rfl rfl (by kernel_rfl) (by rfl) (by rfl) (fun K hK => ?_) (fun K hK => ?_)
          · skip
            obtain ⟨q0, q1, q2, q3⟩ := D84.blk.two
            go_simp
            clear q0 q1 q2 q3
            refine hK.out _ _ trivial (fun hHeld86 => ?_)
            clear hK K hHeld83
            try simp only [Act.put, List.setIfInBounds_toArray, List.set_cons_zero, List.set_cons_succ]
            refine take_run 8 rfl (by kernel_rfl) (by rfl) (fun K hK => ?_)
            go_simp
            refine (l1Below_any B cb 6 _ D84.cur (by omega) (by omega)).mono ?_
            rintro en wq89 ⟨x2, hx20, hx29, rfl, hcq, htq⟩
            have D88 := D84.turn hcq htq
            refine hK.out _ _ trivial (fun hHeld87 => ?_)
            clear hK K hHeld86 hcq htq
            try simp only [Act.put, List.setIfInBounds_toArray, List.set_cons_zero, List.set_cons_succ]
            refine take_run 10 rfl (by kernel_rfl) (by rfl) (fun K hK => ?_)
            go_simp
            refine (l1Below_any B cb 4 _ D88.cur (by omega) (by omega)).mono ?_
            rintro en wq92 ⟨x3, hx30, hx39, rfl, hcq, htq⟩
            have D91 := D88.turn hcq htq
            refine hK.out _ _ trivial (fun hHeld90 => ?_)
            clear hK K hHeld87 hcq htq
            try simp only [Act.put, List.setIfInBounds_toArray, List.set_cons_zero, List.set_cons_succ]
            refine take_yes 11 (some 29) (v := ?_) rfl (by kernel_rfl) (by kernel_rfl) (by kernel_rfl) (by kernel_rfl) (fun _ _ _ h => h) (by rfl) (by assumption) ?_ ?_
            rotate_left
            · (intro w' hSw; (try dsimp only at hSw); go_simp; try with_reducible rfl)
            try simp only [Act.put, List.setIfInBounds_toArray, List.set_cons_zero, List.set_cons_succ]
            refine take_run 12 rfl (by kernel_rfl) (by rfl) (fun K hK => ?_)
            go_simp
            have hsb : Since wq92 (wq92.alloc (.cells #[.int .i64 x0, .int .i64 x1, .int .i64 x2, .int .i64 x3] 108)) := (Since.refl wq92).alloc (.cells #[.int .i64 x0, .int .i64 x1, .int .i64 x2, .int .i64 x3] 108)
            have D94 := D91.since hsb
            have hib := lit1E wq92 ⟨x0, x1, x2, x3⟩ (edge_in9 hx0 (by omega) (by omega) (by omega))
            clear hsb
            refine hK.out _ _ trivial (fun hHeld93 => ?_)
            clear hK K hHeld90
            try simp only [Act.put, List.setIfInBounds_toArray, List.set_cons_zero, List.set_cons_succ]
            refine take_run 13 rfl (by kernel_rfl) (by rfl) (fun K hK => ?_)
            refine wp_append_edges (.tmp 19) (.tmp 30) rfl (w.heap.size + 1) (.slice o2 n2 c2) es rfl D94.ownE _ _ _ rfl [⟨x0, x1, x2, x3⟩] hib (by have := HN2.out; simp; omega) (by have := D94.trn.size; have := D94.blk.lt; have := D94.hG; omega) ?_
            intro v' w4 ho4 hg4 hb4
            obtain ⟨n4, hn4⟩ : ∃ n, (es ++ [(⟨x0, x1, x2, x3⟩ : Edg)]).length = n := ⟨_, rfl⟩
            obtain ⟨o4, c4, hv4⟩ := ho4.len
            rw [hn4] at hv4
            subst hv4
            have HN4 := Lib.hid hn4
            clear hn4
            have P4 := D94.pushE ho4 hg4 hb4
            clear hb4
            refine hK.out _ _ trivial (fun hHeld95 => ?_)
            clear hK K hHeld93
            try simp only [Act.put, List.setIfInBounds_toArray, List.set_cons_zero, List.set_cons_succ]
            refine take_yes 14 (some 32) (v := ?_) rfl (by kernel_rfl) (by kernel_rfl) (by kernel_rfl) (by kernel_rfl) (fun _ _ _ h => h) (by rfl) (by assumption) ?_ ?_
            rotate_left
            · (intro w' hSw; (try dsimp only at hSw); go_simp; try with_reducible rfl)
            try simp only [Act.put, List.setIfInBounds_toArray, List.set_cons_zero, List.set_cons_succ]
            refine take_run 15 rfl (by kernel_rfl) (by rfl) (fun K hK => ?_)
            obtain ⟨q0, q1, q2, q3⟩ := P4.blk.two
            go_simp
            clear q0 q1 q2 q3
            have DZ := P4.set1
            refine hK.out _ _ trivial (fun hHeld96 => ?_)
            clear hK K hHeld95
            try simp only [Act.put, List.setIfInBounds_toArray, List.set_cons_zero, List.set_cons_succ]
            refine wpAnyH_done (by kernel_rfl) ?_ _
            have HDZ := Lib.hid DZ
            clear hHeld96 DZ P4 hib ho4 hg4
            obtain ⟨q0, q1, q2, q3⟩ := HDZ.out.blk.two
            obtain ⟨a0, a1, a2, a3⟩ := HDZ.out.res.two
            go_wp2_with fail
            refine bodyPost_ret (v := .agg #[.slice (some ⟨b, 0, none⟩) n1 c1, .slice o4 n4 c4]) (by simp [results, Try.results55, go_sem, *]) rfl ?_
            exact HDZ.out.out (by have := HN1.out; omega) (by have := HN2.out; simp; omega)
          · skip
            go_simp
            refine (l1Below_any B cb 6 _ D84.cur (by omega) (by omega)).mono ?_
            rintro en wq99 ⟨x2, hx20, hx29, rfl, hcq, htq⟩
            have D98 := D84.turn hcq htq
            refine hK.out _ _ trivial (fun hHeld97 => ?_)
            clear hK K hHeld83 hcq htq
            try simp only [Act.put, List.setIfInBounds_toArray, List.set_cons_zero, List.set_cons_succ]
            refine take_two 1 10 rfl rfl (by kernel_rfl) (by rfl) (by rfl) (fun K hK => ?_) (fun K hK => ?_)
            · skip
              obtain ⟨q0, q1, q2, q3⟩ := D98.blk.two
              go_simp
              clear q0 q1 q2 q3
              refine hK.out _ _ trivial (fun hHeld100 => ?_)
              clear hK K hHeld97
              try simp only [Act.put, List.setIfInBounds_toArray, List.set_cons_zero, List.set_cons_succ]
              refine take_run 10 rfl (by kernel_rfl) (by rfl) (fun K hK => ?_)
              go_simp
              refine (l1Below_any B cb 4 _ D98.cur (by omega) (by omega)).mono ?_
              rintro en wq103 ⟨x3, hx30, hx39, rfl, hcq, htq⟩
              have D102 := D98.turn hcq htq
              refine hK.out _ _ trivial (fun hHeld101 => ?_)
              clear hK K hHeld100 hcq htq
              try simp only [Act.put, List.setIfInBounds_toArray, List.set_cons_zero, List.set_cons_succ]
              refine take_yes 11 (some 29) (v := ?_) rfl (by kernel_rfl) (by kernel_rfl) (by kernel_rfl) (by kernel_rfl) (fun _ _ _ h => h) (by rfl) (by assumption) ?_ ?_
              rotate_left
              · (intro w' hSw; (try dsimp only at hSw); go_simp; try with_reducible rfl)
              try simp only [Act.put, List.setIfInBounds_toArray, List.set_cons_zero, List.set_cons_succ]
              refine take_run 12 rfl (by kernel_rfl) (by rfl) (fun K hK => ?_)
              go_simp
              have hsb : Since wq103 (wq103.alloc (.cells #[.int .i64 x0, .int .i64 x1, .int .i64 x2, .int .i64 x3] 108)) := (Since.refl wq103).alloc (.cells #[.int .i64 x0, .int .i64 x1, .int .i64 x2, .int .i64 x3] 108)
              have D105 := D102.since hsb
              have hib := lit1E wq103 ⟨x0, x1, x2, x3⟩ (edge_in9 hx0 (by omega) (by omega) (by omega))
              clear hsb
              refine hK.out _ _ trivial (fun hHeld104 => ?_)
              clear hK K hHeld101
              try simp only [Act.put, List.setIfInBounds_toArray, List.set_cons_zero, List.set_cons_succ]
              refine take_run 13 rfl (by kernel_rfl) (by rfl) (fun K hK => ?_)
              refine wp_append_edges (.tmp 19) (.tmp 30) rfl (w.heap.size + 1) (.slice o2 n2 c2) es rfl D105.ownE _ _ _ rfl [⟨x0, x1, x2, x3⟩] hib (by have := HN2.out; simp; omega) (by have := D105.trn.size; have := D105.blk.lt; have := D105.hG; omega) ?_
              intro v' w4 ho4 hg4 hb4
              obtain ⟨n4, hn4⟩ : ∃ n, (es ++ [(⟨x0, x1, x2, x3⟩ : Edg)]).length = n := ⟨_, rfl⟩
              obtain ⟨o4, c4, hv4⟩ := ho4.len
              rw [hn4] at hv4
              subst hv4
              have HN4 := Lib.hid hn4
              clear hn4
              have P4 := D105.pushE ho4 hg4 hb4
              clear hb4
              refine hK.out _ _ trivial (fun hHeld106 => ?_)
              clear hK K hHeld104
              try simp only [Act.put, List.setIfInBounds_toArray, List.set_cons_zero, List.set_cons_succ]
              refine take_yes 14 (some 32) (v := ?_) rfl (by kernel_rfl) (by kernel_rfl) (by kernel_rfl) (by kernel_rfl) (fun _ _ _ h => h) (by rfl) (by assumption) ?_ ?_
              rotate_left
              · (intro w' hSw; (try dsimp only at hSw); go_simp; try with_reducible rfl)
              try simp only [Act.put, List.setIfInBounds_toArray, List.set_cons_zero, List.set_cons_succ]
              refine take_run 15 rfl (by kernel_rfl) (by rfl) (fun K hK => ?_)
              obtain ⟨q0, q1, q2, q3⟩ := P4.blk.two
              go_simp
              clear q0 q1 q2 q3
              have DZ := P4.set1
              refine hK.out _ _ trivial (fun hHeld107 => ?_)
              clear hK K hHeld106
              try simp only [Act.put, List.setIfInBounds_toArray, List.set_cons_zero, List.set_cons_succ]
              refine wpAnyH_done (by kernel_rfl) ?_ _
              have HDZ := Lib.hid DZ
              clear hHeld107 DZ P4 hib ho4 hg4
              obtain ⟨q0, q1, q2, q3⟩ := HDZ.out.blk.two
              obtain ⟨a0, a1, a2, a3⟩ := HDZ.out.res.two
              go_wp2_with fail
              refine bodyPost_ret (v := .agg #[.slice (some ⟨b, 0, none⟩) n1 c1, .slice o4 n4 c4]) (by simp [results, Try.results55, go_sem, *]) rfl ?_
              exact HDZ.out.out (by have := HN1.out; omega) (by have := HN2.out; simp; omega)
            · skip
              go_simp
              refine (l1Below_any B cb 4 _ D98.cur (by omega) (by omega)).mono ?_
              rintro en wq110 ⟨x3, hx30, hx39, rfl, hcq, htq⟩
              have D109 := D98.turn hcq htq
              refine hK.out _ _ trivial (fun hHeld108 => ?_)
              clear hK K hHeld97 hcq htq
              try simp only [Act.put, List.setIfInBounds_toArray, List.set_cons_zero, List.set_cons_succ]
              refine take_yes 11 (some 29) (v := ?_) rfl (by kernel_rfl) (by kernel_rfl) (by kernel_rfl) (by kernel_rfl) (fun _ _ _ h => h) (by rfl) (by assumption) ?_ ?_
              rotate_left
              · (intro w' hSw; (try dsimp only at hSw); go_simp; try with_reducible rfl)
              try simp only [Act.put, List.setIfInBounds_toArray, List.set_cons_zero, List.set_cons_succ]
              refine take_two 1 12 rfl rfl (by kernel_rfl) (by rfl) (by rfl) (fun K hK => ?_) (fun K hK => ?_)
              · skip
                obtain ⟨q0, q1, q2, q3⟩ := D109.blk.two
                go_simp
                clear q0 q1 q2 q3
                refine hK.out _ _ trivial (fun hHeld111 => ?_)
                clear hK K hHeld108
                try simp only [Act.put, List.setIfInBounds_toArray, List.set_cons_zero, List.set_cons_succ]
                refine take_run 12 rfl (by kernel_rfl) (by rfl) (fun K hK => ?_)
                go_simp
                have hsb : Since wq110 (wq110.alloc (.cells #[.int .i64 x0, .int .i64 x1, .int .i64 x2, .int .i64 x3] 108)) := (Since.refl wq110).alloc (.cells #[.int .i64 x0, .int .i64 x1, .int .i64 x2, .int .i64 x3] 108)
                have D113 := D109.since hsb
                have hib := lit1E wq110 ⟨x0, x1, x2, x3⟩ (edge_in9 hx0 (by omega) (by omega) (by omega))
                clear hsb
                refine hK.out _ _ trivial (fun hHeld112 => ?_)
                clear hK K hHeld111
                try simp only [Act.put, List.setIfInBounds_toArray, List.set_cons_zero, List.set_cons_succ]
                refine take_run 13 rfl (by kernel_rfl) (by rfl) (fun K hK => ?_)
                refine wp_append_edges (.tmp 19) (.tmp 30) rfl (w.heap.size + 1) (.slice o2 n2 c2) es rfl D113.ownE _ _ _ rfl [⟨x0, x1, x2, x3⟩] hib (by have := HN2.out; simp; omega) (by have := D113.trn.size; have := D113.blk.lt; have := D113.hG; omega) ?_
                intro v' w4 ho4 hg4 hb4
                obtain ⟨n4, hn4⟩ : ∃ n, (es ++ [(⟨x0, x1, x2, x3⟩ : Edg)]).length = n := ⟨_, rfl⟩
                obtain ⟨o4, c4, hv4⟩ := ho4.len
                rw [hn4] at hv4
                subst hv4
                have HN4 := Lib.hid hn4
                clear hn4
                have P4 := D113.pushE ho4 hg4 hb4
                clear hb4
                refine hK.out _ _ trivial (fun hHeld114 => ?_)
                clear hK K hHeld112
                try simp only [Act.put, List.setIfInBounds_toArray, List.set_cons_zero, List.set_cons_succ]
                refine take_yes 14 (some 32) (v := ?_) rfl (by kernel_rfl) (by kernel_rfl) (by kernel_rfl) (by kernel_rfl) (fun _ _ _ h => h) (by rfl) (by assumption) ?_ ?_
                rotate_left
                · (intro w' hSw; (try dsimp only at hSw); go_simp; try with_reducible rfl)
                try simp only [Act.put, List.setIfInBounds_toArray, List.set_cons_zero, List.set_cons_succ]
                refine take_run 15 rfl (by kernel_rfl) (by rfl) (fun K hK => ?_)
                obtain ⟨q0, q1, q2, q3⟩ := P4.blk.two
                go_simp
                clear q0 q1 q2 q3
                have DZ := P4.set1
                refine hK.out _ _ trivial (fun hHeld115 => ?_)
                clear hK K hHeld114
                try simp only [Act.put, List.setIfInBounds_toArray, List.set_cons_zero, List.set_cons_succ]
                refine wpAnyH_done (by kernel_rfl) ?_ _
                have HDZ := Lib.hid DZ
                clear hHeld115 DZ P4 hib ho4 hg4
                obtain ⟨q0, q1, q2, q3⟩ := HDZ.out.blk.two
                obtain ⟨a0, a1, a2, a3⟩ := HDZ.out.res.two
                go_wp2_with fail
                refine bodyPost_ret (v := .agg #[.slice (some ⟨b, 0, none⟩) n1 c1, .slice o4 n4 c4]) (by simp [results, Try.results55, go_sem, *]) rfl ?_
                exact HDZ.out.out (by have := HN1.out; omega) (by have := HN2.out; simp; omega)
              · skip
                go_simp
                have hsb : Since wq110 (wq110.alloc (.cells #[.int .i64 x0, .int .i64 x1, .int .i64 x2, .int .i64 x3] 108)) := (Since.refl wq110).alloc (.cells #[.int .i64 x0, .int .i64 x1, .int .i64 x2, .int .i64 x3] 108)
                have D117 := D109.since hsb
                have hib := lit1E wq110 ⟨x0, x1, x2, x3⟩ (edge_in9 hx0 (by omega) (by omega) (by omega))
                clear hsb
                refine hK.out _ _ trivial (fun hHeld116 => ?_)
                clear hK K hHeld108
                try simp only [Act.put, List.setIfInBounds_toArray, List.set_cons_zero, List.set_cons_succ]
                refine take_run 1 rfl (by kernel_rfl) (by rfl) (fun K hK => ?_)
                obtain ⟨q0, q1, q2, q3⟩ := D117.blk.two
                go_simp
                clear q0 q1 q2 q3
                refine hK.out _ _ trivial (fun hHeld118 => ?_)
                clear hK K hHeld116
                try simp only [Act.put, List.setIfInBounds_toArray, List.set_cons_zero, List.set_cons_succ]
                refine take_run 13 rfl (by kernel_rfl) (by rfl) (fun K hK => ?_)
                refine wp_append_edges (.tmp 19) (.tmp 30) rfl (w.heap.size + 1) (.slice o2 n2 c2) es rfl D117.ownE _ _ _ rfl [⟨x0, x1, x2, x3⟩] hib (by have := HN2.out; simp; omega) (by have := D117.trn.size; have := D117.blk.lt; have := D117.hG; omega) ?_
                intro v' w4 ho4 hg4 hb4
                obtain ⟨n4, hn4⟩ : ∃ n, (es ++ [(⟨x0, x1, x2, x3⟩ : Edg)]).length = n := ⟨_, rfl⟩
                obtain ⟨o4, c4, hv4⟩ := ho4.len
                rw [hn4] at hv4
                subst hv4
                have HN4 := Lib.hid hn4
                clear hn4
                have P4 := D117.pushE ho4 hg4 hb4
                clear hb4
                refine hK.out _ _ trivial (fun hHeld119 => ?_)
                clear hK K hHeld118
                try simp only [Act.put, List.setIfInBounds_toArray, List.set_cons_zero, List.set_cons_succ]
                refine take_yes 14 (some 32) (v := ?_) rfl (by kernel_rfl) (by kernel_rfl) (by kernel_rfl) (by kernel_rfl) (fun _ _ _ h => h) (by rfl) (by assumption) ?_ ?_
                rotate_left
                · (intro w' hSw; (try dsimp only at hSw); go_simp; try with_reducible rfl)
                try simp only [Act.put, List.setIfInBounds_toArray, List.set_cons_zero, List.set_cons_succ]
                refine take_run 15 rfl (by kernel_rfl) (by rfl) (fun K hK => ?_)
                obtain ⟨q0, q1, q2, q3⟩ := P4.blk.two
                go_simp
                clear q0 q1 q2 q3
                have DZ := P4.set1
                refine hK.out _ _ trivial (fun hHeld120 => ?_)
                clear hK K hHeld119
                try simp only [Act.put, List.setIfInBounds_toArray, List.set_cons_zero, List.set_cons_succ]
                refine wpAnyH_done (by kernel_rfl) ?_ _
                have HDZ := Lib.hid DZ
                clear hHeld120 DZ P4 hib ho4 hg4
                obtain ⟨q0, q1, q2, q3⟩ := HDZ.out.blk.two
                obtain ⟨a0, a1, a2, a3⟩ := HDZ.out.res.two
                go_wp2_with fail
                refine bodyPost_ret (v := .agg #[.slice (some ⟨b, 0, none⟩) n1 c1, .slice o4 n4 c4]) (by simp [results, Try.results55, go_sem, *]) rfl ?_
                exact HDZ.out.out (by have := HN1.out; omega) (by have := HN2.out; simp; omega)
  · obtain ⟨q0, q1, q2, q3⟩ := HDB.out.blk.two
    obtain ⟨a0, a1, a2, a3⟩ := HDB.out.res.two
    have HDZ := Lib.hid HDB.out.none0
    clear q0 q1 q2 q3 a0 a1 a2 a3
    obtain ⟨a0, a1, a2, a3⟩ := HDZ.out.res.two
    obtain ⟨q0, q1, q2, q3⟩ := HDZ.out.blk.two
    obtain ⟨s0, s1, s2, s3⟩ := HDB.out.blk.two
    go_wp2_with fail
    refine bodyPost_ret (v := .agg #[.slice none 0 0, .slice o2 n2 c2]) (by simp [results, Try.results55, go_sem, *]) rfl ?_
    exact HDZ.out.out (by simp) (by have := HN2.out; omega)
  · have e0 : (k == 0) = false := by simpa using k0
    have e1 : (k == 1) = false := by simpa using k1
    have e2 : (k == 2) = false := by simpa using k2
    clear k0 k1 k2
    obtain ⟨q0, q1, q2, q3⟩ := HDB.out.blk.two
    obtain ⟨a0, a1, a2, a3⟩ := HDB.out.res.two
    go_wp2_with fail
    refine bodyPost_ret (v := .agg #[.slice (some ⟨b, 0, none⟩) n1 c1, .slice o2 n2 c2]) (by simp [results, Try.results55, go_sem, *]) rfl ?_
    exact HDB.out.out (by have := HN1.out; omega) (by have := HN2.out; omega)
end Go.Proofs.Ytilkheclimammaa
