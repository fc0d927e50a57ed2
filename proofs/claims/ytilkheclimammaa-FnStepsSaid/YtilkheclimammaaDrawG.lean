/- The model's drawn graph. -/
import Derived.Test.YtilkheclimammaaDrawW
import Derived.Test.YtilkheclimammaaK1
namespace Go.Proofs.Ytilkheclimammaa
set_option maxRecDepth 100000
set_option linter.unusedVariables false
set_option linter.unusedSimpArgs false
open Go.ChangeShapes Go.WideShapes Go.ChangeAt Go.RowKit

/-- A graph of the call's own of bounded size; the cursor stands, nothing else of the old memory has turned. -/
def GDOut (B cb : Nat) (w : World) (e : Ending) (w' : World) : Prop := ∃ v g, e = .returned v ∧ OwnG w.heap.size w'.heap.size w' v g ∧ 1 ≤ g.vs.length ∧ g.vs.length ≤ 5 ∧ g.es.length ≤ 10 ∧ Cur B w' cb ∧ Turn cb w w'
theorem lit1 (W : World) (x : Int) (hx : InI x) : IntsAt (W.alloc (.cells #[.int .i64 x] 3)) (.slice (some ⟨W.heap.size, 0, none⟩) 1 1) [x] := by
  refine ⟨fun y hy => by rw [List.mem_singleton.1 hy]; exact hx, .inr ⟨_, 0, 1, rfl, by simp, fun i hi => ?_⟩⟩
  obtain rfl : i = 0 := by simpa using hi
  exact (Blk.new (g := W.heap.size) (w := W) rfl 3 #[.int .i64 x]).cell 0
theorem lit1E (W : World) (e : Edg) (he : e.In) : EdgesAt (W.alloc (.cells #[.int .i64 e.id, .int .i64 e.fr, .int .i64 e.to, .int .i64 e.lb] 108)) (.slice (some ⟨W.heap.size, 0, none⟩) 1 1) [e] :=
  (ownE_one W W (Since.refl W) e he W.heap.size rfl).at
theorem edge_in4 {a b c d : Int} (ha : 0 ≤ a ∧ a ≤ 1000) (hb : 0 ≤ b ∧ b ≤ 1000) (hc : 0 ≤ c ∧ c ≤ 1000) (hd : d ∈ ([0, 0, 1, 2] : List Int)) : Edg.In ⟨a, b, c, d⟩ := by
  have : 0 ≤ d ∧ d ≤ 2 := by simp at hd; omega
  unfold Edg.In InI; simp only; omega

set_option maxHeartbeats 4000000 in
set_option maxRecDepth 100000 in
theorem l3Graph_any (B cb : Nat) (w : World) (hc : Cur B w cb) :
    Calls Try.prog 91 #[.pointer (some ⟨cb, 0, none⟩)] w (GDOut B cb w) := by
  have hcw := hc.2.1
  obtain ⟨y, hyd⟩ : ∃ y, y = ((w.alloc (.cells #[.slice none 0 0, .slice none 0 0] 27)).alloc (.cells #[.slice none 0 0, .slice none 0 0] 27)) := ⟨_, rfl⟩
  have hy : y.heap.size = w.heap.size + 1 + 1 := by rw [hyd]; simp
  have hcb : cb < w.heap.size + 1 := by omega
  have hwy : Since w y := by rw [hyd]; exact ((Since.refl w).alloc _).alloc _
  have BY : Blk y (w.heap.size + 1) 27 #[.slice none 0 0, .slice none 0 0] := by rw [hyd]; exact Blk.new (by simp) _ _
  have RY : Hid (Blk y w.heap.size 27 #[.slice none 0 0, .slice none 0 0]) := by rw [hyd]; exact (Blk.new rfl _ _).alloc _
  have DY : Hid (DG B cb (w.heap.size + 1) y y (.slice none 0 0) (.slice none 0 0) [] []) := ⟨hc.since hwy, Two.refl _ _ _, BY, ⟨fun x hx => by simp at hx, World.ownsRow_nil _ _ _ _⟩, ⟨fun x hx => by simp at hx, World.ownsRow_nil _ _ _ _⟩⟩
  have HWY := Lib.hid hwy
  have hl5 := LitAt.new y [2, 3, 4, 4, 5] _ rfl
  have hys : y.heap.size ≠ cb := by omega
  have hs5 : Since y (y.alloc (.cells ([2, 3, 4, 4, 5].map icell).toArray 3)) := (Since.refl y).alloc _
  have HP5 := Lib.hid (pick_at [2, 3, 4, 4, 5] B cb y.heap.size 5 _ (DY.out.since hs5).cur hys hl5 rfl (by omega) (by omega))
  have HD5 := Lib.hid (DY.out.since hs5)
  unfold icell at HP5 HD5
  simp only [List.map_cons, List.map_nil] at HP5 HD5
  clear hl5 hs5 BY hwy hc DY
  go_enter Try.func91, Try.ntmps91
  go_wp2_with fail
  have hys' : w.heap.size + 1 + 1 = y.heap.size := by omega
  rw [← hyd]
  try rw [hys']
  refine (HP5.out).mono ?_
  rintro en w2 ⟨N0, hN0, rfl, hc2, ht2⟩
  have D2 := Lib.hid (HD5.out.turn hcb hc2 ht2)
  have hN : 2 ≤ N0 ∧ N0 ≤ 5 := by simp at hN0; omega
  obtain ⟨NN, rfl⟩ := Int.eq_ofNat_of_zero_le (show 0 ≤ N0 by omega)
  clear HP5 HD5 hc2 ht2 hN0 hys hys' hyd
  go_wp2_with fail
  go_loopw [4] (fun n wr => ∃ (m : Nat) (v : Value) (xs : List Int), m ≤ NN ∧ n = .int .i64 m ∧ Hid (xs.length + m = NN) ∧ Hid (DG B cb (w.heap.size + 1) y wr v (.slice none 0 0) xs [])) (fun n _ => (intOf n).toNat)
  case atStart => exact ⟨NN, .slice none 0 0, [], Nat.le_refl _, rfl, by unfold Hid; simp, D2.out⟩
  case round =>
    obtain ⟨m, v, xs, hm, rfl, HLN, HD⟩ := hrel
    by_cases hlt : 0 < m
    · have hlti : (0 : Int) < (m : Int) := by omega
      have DW := HD.out
      have DD := HD.out.since (Since.refl wr).drew
      go_wp2_with fail
      refine wp_region_held_drew (S := (fun _ => True)) (by kernel_rfl) trivial (fun hHeld => ?_)
      refine take_yes 0 (some 15) (v := ?_) rfl (by kernel_rfl) (by kernel_rfl) (by kernel_rfl) (by kernel_rfl) (fun _ _ _ h => h) (by rfl) (by assumption) ?_ ?_
      rotate_left
      · (intro w' hSw; (try dsimp only at hSw); go_simp; try with_reducible rfl)
      try simp only [Act.put, List.setIfInBounds_toArray, List.set_cons_zero, List.set_cons_succ]
      refine take_yes 2 (some 17) (v := ?_) rfl (by kernel_rfl) (by kernel_rfl) (by kernel_rfl) (by kernel_rfl) (fun _ _ _ h => h) (by rfl) (by assumption) ?_ ?_
      rotate_left
      · (intro w' hSw; (try dsimp only at hSw); go_simp; try with_reducible rfl)
      try simp only [Act.put, List.setIfInBounds_toArray, List.set_cons_zero, List.set_cons_succ]
      refine take_two 1 3 rfl rfl (by kernel_rfl) (by rfl) (by rfl) (fun K hK => ?_) (fun K hK => ?_)
      · skip
        obtain ⟨q0, q1, q2, q3⟩ := DD.blk.two
        go_simp
        clear q0 q1 q2 q3
        refine hK.out _ _ trivial (fun hHeld1 => ?_)
        clear hK K hHeld
        try simp only [Act.put, List.setIfInBounds_toArray, List.set_cons_zero, List.set_cons_succ]
        refine take_run 3 rfl (by kernel_rfl) (by rfl) (fun K hK => ?_)
        go_simp
        refine (l1Below_any B cb 3 _ DD.cur (by omega) (by omega)).mono ?_
        rintro en wq4 ⟨x, hx0, hx9, rfl, hcq, htq⟩
        have D3 := DD.turn hcb hcq htq
        refine hK.out _ _ trivial (fun hHeld2 => ?_)
        clear hK K hHeld1 hcq htq
        try simp only [Act.put, List.setIfInBounds_toArray, List.set_cons_zero, List.set_cons_succ]
        refine take_run 4 rfl (by kernel_rfl) (by rfl) (fun K hK => ?_)
        go_simp
        have hsb : Since wq4 (wq4.alloc (.cells #[.int .i64 x] 3)) := ((Since.refl wq4).alloc (.cells #[.int .i64 x] 3))
        have D6 := D3.since hsb
        have hib := (lit1 wq4 x (by unfold InI; omega))
        clear hsb
        refine hK.out _ _ trivial (fun hHeld5 => ?_)
        clear hK K hHeld2
        try simp only [Act.put, List.setIfInBounds_toArray, List.set_cons_zero, List.set_cons_succ]
        refine take_run 5 rfl (by kernel_rfl) (by rfl) (fun K hK => ?_)
        refine wp_append_ints (.tmp 16) (.tmp 19) rfl (w.heap.size + 1 + 1) v xs rfl D6.own _ _ _ rfl [x] hib (by have := HLN.out; simp; omega) (by have := D6.two.size; omega) ?_
        intro v' w4 ho4 hg4 hb4
        obtain ⟨n4, hn4⟩ : ∃ n, (xs ++ [x]).length = n := ⟨_, rfl⟩
        obtain ⟨o4, c4, hv4⟩ := ho4.len
        rw [hn4] at hv4
        subst hv4
        clear hn4 hb4
        have P4 := D6.push hcb hy ho4 hg4
        refine hK.out _ _ trivial (fun hHeld7 => ?_)
        clear hK K hHeld5
        try simp only [Act.put, List.setIfInBounds_toArray, List.set_cons_zero, List.set_cons_succ]
        refine take_yes 6 (some 21) (v := ?_) rfl (by kernel_rfl) (by kernel_rfl) (by kernel_rfl) (by kernel_rfl) (fun _ _ _ h => h) (by rfl) (by assumption) ?_ ?_
        rotate_left
        · (intro w' hSw; (try dsimp only at hSw); go_simp; try with_reducible rfl)
        try simp only [Act.put, List.setIfInBounds_toArray, List.set_cons_zero, List.set_cons_succ]
        refine take_run 7 rfl (by kernel_rfl) (by rfl) (fun K hK => ?_)
        obtain ⟨q0, q1, q2, q3⟩ := P4.2.2.1.two
        go_simp
        clear q0 q1 q2 q3
        have DZ := DG.set0 hcb P4
        refine hK.out _ _ trivial (fun hHeld8 => ?_)
        clear hK K hHeld7
        try simp only [Act.put, List.setIfInBounds_toArray, List.set_cons_zero, List.set_cons_succ]
        refine wpAnyH_done (by kernel_rfl) ?_ _
        have HDZ := Lib.hid DZ
        clear hHeld8 DZ P4 hib ho4 hg4
        go_wp2_with fail
        go_roundw
        case rel => exact ⟨m - 1, .slice o4 n4 c4, xs ++ [x], by omega, by go_num, by have := HLN.out; unfold Hid; simp; omega, HDZ.out⟩
        case measure => simp [intOf]; omega
      · skip
        go_simp
        refine (l1Below_any B cb 3 _ DD.cur (by omega) (by omega)).mono ?_
        rintro en wq11 ⟨x, hx0, hx9, rfl, hcq, htq⟩
        have D10 := DD.turn hcb hcq htq
        refine hK.out _ _ trivial (fun hHeld9 => ?_)
        clear hK K hHeld hcq htq
        try simp only [Act.put, List.setIfInBounds_toArray, List.set_cons_zero, List.set_cons_succ]
        refine take_two 1 4 rfl rfl (by kernel_rfl) (by rfl) (by rfl) (fun K hK => ?_) (fun K hK => ?_)
        · skip
          obtain ⟨q0, q1, q2, q3⟩ := D10.blk.two
          go_simp
          clear q0 q1 q2 q3
          refine hK.out _ _ trivial (fun hHeld12 => ?_)
          clear hK K hHeld9
          try simp only [Act.put, List.setIfInBounds_toArray, List.set_cons_zero, List.set_cons_succ]
          refine take_run 4 rfl (by kernel_rfl) (by rfl) (fun K hK => ?_)
          go_simp
          have hsb : Since wq11 (wq11.alloc (.cells #[.int .i64 x] 3)) := ((Since.refl wq11).alloc (.cells #[.int .i64 x] 3))
          have D14 := D10.since hsb
          have hib := (lit1 wq11 x (by unfold InI; omega))
          clear hsb
          refine hK.out _ _ trivial (fun hHeld13 => ?_)
          clear hK K hHeld12
          try simp only [Act.put, List.setIfInBounds_toArray, List.set_cons_zero, List.set_cons_succ]
          refine take_run 5 rfl (by kernel_rfl) (by rfl) (fun K hK => ?_)
          refine wp_append_ints (.tmp 16) (.tmp 19) rfl (w.heap.size + 1 + 1) v xs rfl D14.own _ _ _ rfl [x] hib (by have := HLN.out; simp; omega) (by have := D14.two.size; omega) ?_
          intro v' w4 ho4 hg4 hb4
          obtain ⟨n4, hn4⟩ : ∃ n, (xs ++ [x]).length = n := ⟨_, rfl⟩
          obtain ⟨o4, c4, hv4⟩ := ho4.len
          rw [hn4] at hv4
          subst hv4
          clear hn4 hb4
          have P4 := D14.push hcb hy ho4 hg4
          refine hK.out _ _ trivial (fun hHeld15 => ?_)
          clear hK K hHeld13
          try simp only [Act.put, List.setIfInBounds_toArray, List.set_cons_zero, List.set_cons_succ]
          refine take_yes 6 (some 21) (v := ?_) rfl (by kernel_rfl) (by kernel_rfl) (by kernel_rfl) (by kernel_rfl) (fun _ _ _ h => h) (by rfl) (by assumption) ?_ ?_
          rotate_left
          · (intro w' hSw; (try dsimp only at hSw); go_simp; try with_reducible rfl)
          try simp only [Act.put, List.setIfInBounds_toArray, List.set_cons_zero, List.set_cons_succ]
          refine take_run 7 rfl (by kernel_rfl) (by rfl) (fun K hK => ?_)
          obtain ⟨q0, q1, q2, q3⟩ := P4.2.2.1.two
          go_simp
          clear q0 q1 q2 q3
          have DZ := DG.set0 hcb P4
          refine hK.out _ _ trivial (fun hHeld16 => ?_)
          clear hK K hHeld15
          try simp only [Act.put, List.setIfInBounds_toArray, List.set_cons_zero, List.set_cons_succ]
          refine wpAnyH_done (by kernel_rfl) ?_ _
          have HDZ := Lib.hid DZ
          clear hHeld16 DZ P4 hib ho4 hg4
          go_wp2_with fail
          go_roundw
          case rel => exact ⟨m - 1, .slice o4 n4 c4, xs ++ [x], by omega, by go_num, by have := HLN.out; unfold Hid; simp; omega, HDZ.out⟩
          case measure => simp [intOf]; omega
        · skip
          go_simp
          have hsb : Since wq11 (wq11.alloc (.cells #[.int .i64 x] 3)) := ((Since.refl wq11).alloc (.cells #[.int .i64 x] 3))
          have D18 := D10.since hsb
          have hib := (lit1 wq11 x (by unfold InI; omega))
          clear hsb
          refine hK.out _ _ trivial (fun hHeld17 => ?_)
          clear hK K hHeld9
          try simp only [Act.put, List.setIfInBounds_toArray, List.set_cons_zero, List.set_cons_succ]
          refine take_run 1 rfl (by kernel_rfl) (by rfl) (fun K hK => ?_)
          obtain ⟨q0, q1, q2, q3⟩ := D18.blk.two
          go_simp
          clear q0 q1 q2 q3
          refine hK.out _ _ trivial (fun hHeld19 => ?_)
          clear hK K hHeld17
          try simp only [Act.put, List.setIfInBounds_toArray, List.set_cons_zero, List.set_cons_succ]
          refine take_run 5 rfl (by kernel_rfl) (by rfl) (fun K hK => ?_)
          refine wp_append_ints (.tmp 16) (.tmp 19) rfl (w.heap.size + 1 + 1) v xs rfl D18.own _ _ _ rfl [x] hib (by have := HLN.out; simp; omega) (by have := D18.two.size; omega) ?_
          intro v' w4 ho4 hg4 hb4
          obtain ⟨n4, hn4⟩ : ∃ n, (xs ++ [x]).length = n := ⟨_, rfl⟩
          obtain ⟨o4, c4, hv4⟩ := ho4.len
          rw [hn4] at hv4
          subst hv4
          clear hn4 hb4
          have P4 := D18.push hcb hy ho4 hg4
          refine hK.out _ _ trivial (fun hHeld20 => ?_)
          clear hK K hHeld19
          try simp only [Act.put, List.setIfInBounds_toArray, List.set_cons_zero, List.set_cons_succ]
          refine take_yes 6 (some 21) (v := ?_) rfl (by kernel_rfl) (by kernel_rfl) (by kernel_rfl) (by kernel_rfl) (fun _ _ _ h => h) (by rfl) (by assumption) ?_ ?_
          rotate_left
          · (intro w' hSw; (try dsimp only at hSw); go_simp; try with_reducible rfl)
          try simp only [Act.put, List.setIfInBounds_toArray, List.set_cons_zero, List.set_cons_succ]
          refine take_run 7 rfl (by kernel_rfl) (by rfl) (fun K hK => ?_)
          obtain ⟨q0, q1, q2, q3⟩ := P4.2.2.1.two
          go_simp
          clear q0 q1 q2 q3
          have DZ := DG.set0 hcb P4
          refine hK.out _ _ trivial (fun hHeld21 => ?_)
          clear hK K hHeld20
          try simp only [Act.put, List.setIfInBounds_toArray, List.set_cons_zero, List.set_cons_succ]
          refine wpAnyH_done (by kernel_rfl) ?_ _
          have HDZ := Lib.hid DZ
          clear hHeld21 DZ P4 hib ho4 hg4
          go_wp2_with fail
          go_roundw
          case rel => exact ⟨m - 1, .slice o4 n4 c4, xs ++ [x], by omega, by go_num, by have := HLN.out; unfold Hid; simp; omega, HDZ.out⟩
          case measure => simp [intOf]; omega
    · obtain rfl : m = 0 := by omega
      obtain ⟨n1, hn1⟩ : ∃ n, xs.length = n := ⟨_, rfl⟩
      have hn15 : 2 ≤ n1 ∧ n1 ≤ 5 := by have := HLN.out; omega
      obtain ⟨o1, c1, hv1⟩ := HD.out.own.len
      rw [hn1] at hv1
      subst hv1
      have HN1 := Lib.hid hn1
      clear hn1 HLN
      have hl3 := LitAt.new wr [4, 8, 11] _ rfl
      have hs3 : Since wr (wr.alloc (.cells ([4, 8, 11].map icell).toArray 3)) := (Since.refl wr).alloc _
      have hwrn : wr.heap.size ≠ cb := by have := HD.out.cur.2.1; omega
      have HP3 := Lib.hid (pick_at [4, 8, 11] B cb wr.heap.size 3 _ (HD.out.since hs3).cur hwrn hl3 rfl (by omega) (by omega))
      have HD3 := Lib.hid (HD.out.since hs3)
      unfold icell at HP3 HD3
      simp only [List.map_cons, List.map_nil] at HP3 HD3
      clear hl3 hs3 HD
      go_wp2_with fail
      refine (HP3.out).mono ?_
      rintro en w3 ⟨M0, hM0, rfl, hc3, ht3⟩
      have D3 := Lib.hid (HD3.out.turn hcb hc3 ht3)
      have hM : 1 ≤ M0 ∧ M0 ≤ 11 := by simp at hM0; omega
      clear HP3 HD3 hc3 ht3 hM0
      go_wp2_with fail
      refine (l1Below_any B cb M0 _ D3.out.cur (by omega) (by omega)).mono ?_
      rintro en w4 ⟨MM, hMM0, hMM9, rfl, hc4, ht4⟩
      have D4 := Lib.hid (D3.out.turn hcb hc4 ht4)
      obtain ⟨MM, rfl⟩ := Int.eq_ofNat_of_zero_le hMM0
      have hM10 : MM ≤ 10 := by omega
      clear D3 hc4 ht4
      go_wp2_with fail
      go_loopw [5, 6] (fun idv n wr => ∃ (id : Int) (m : Nat) (v2 : Value) (es : List Edg), m ≤ MM ∧ 0 ≤ id ∧ id + 3 * (m : Int) ≤ 3 * (MM : Int) ∧ idv = .int .i64 id ∧ n = .int .i64 m ∧ Hid (es.length + m = MM) ∧ Hid (DG B cb (w.heap.size + 1) y wr (.slice o1 n1 c1) v2 xs es)) (fun _ n _ => (intOf n).toNat)
      case atStart => exact ⟨0, MM, .slice none 0 0, [], Nat.le_refl _, by omega, by omega, rfl, rfl, by unfold Hid; simp, D4.out⟩
      case round =>
        obtain ⟨id, m, v2, es, hm, hid0, hid9, rfl, rfl, HLN, HD⟩ := hrel
        by_cases hlt : 0 < m
        · have hlti : (0 : Int) < (m : Int) := by omega
          go_wp2_with fail
          refine (l1Below_any B cb 3 _ HD.out.cur (by omega) (by omega)).mono ?_
          rintro en wr ⟨x0, hx00, hx09, rfl, hc5, ht5⟩
          have HD5 := Lib.hid (HD.out.turn hcb hc5 ht5)
          obtain ⟨id2, hid2⟩ : ∃ i, id + 1 + x0 = i := ⟨_, rfl⟩
          have id1 : 0 ≤ id2 ∧ id2 ≤ 1000 := by omega
          have id3 : id2 + 3 * ((m - 1 : Nat) : Int) ≤ 3 * (MM : Int) := by omega
          clear HD hc5 ht5
          have id1000 := id1.2
          go_wp2_with fail
          have DW := HD5.out
          have DD := HD5.out.since (Since.refl wr).drew
          have hn0 : (0 : Int) < (n1 : Int) := by omega
          refine wp_region_held_drew (S := (fun w' => w'.cell? ⟨w.heap.size + 1, 0, none⟩ = some (.slice o1 n1 c1))) (by kernel_rfl) (DD.blk.two).1 (fun hHeld => ?_)
          refine take_yes 0 (some 36) (v := ?_) rfl (by kernel_rfl) (by kernel_rfl) (by kernel_rfl) (by kernel_rfl) (fun _ _ _ h => h) (by rfl) (by assumption) ?_ ?_
          rotate_left
          · (intro w' hSw; (try dsimp only at hSw); go_simp; try with_reducible rfl)
          try simp only [Act.put, List.setIfInBounds_toArray, List.set_cons_zero, List.set_cons_succ]
          refine take_yes 2 (some 38) (v := ?_) rfl (by kernel_rfl) (by kernel_rfl) (by kernel_rfl) (by kernel_rfl) (fun _ _ _ h => h) (by rfl) (by assumption) ?_ ?_
          rotate_left
          · (intro w' hSw; (try dsimp only at hSw); go_simp; try with_reducible rfl)
          try simp only [Act.put, List.setIfInBounds_toArray, List.set_cons_zero, List.set_cons_succ]
          refine take_yes 3 (some 39) (v := ?_) rfl (by kernel_rfl) (by kernel_rfl) (by kernel_rfl) (by kernel_rfl) (fun _ _ _ h => h) (by rfl) (by assumption) ?_ ?_
          rotate_left
          · (intro w' hSw; (try dsimp only at hSw); go_simp; try with_reducible rfl)
          try simp only [Act.put, List.setIfInBounds_toArray, List.set_cons_zero, List.set_cons_succ]
          refine take_yes 4 (some 40) (v := ?_) rfl (by kernel_rfl) (by kernel_rfl) (by kernel_rfl) (by kernel_rfl) (fun _ _ _ h => h) (by rfl) (by assumption) ?_ ?_
          rotate_left
          · (intro w' hSw; (try dsimp only at hSw); go_simp; try with_reducible rfl)
          try simp only [Act.put, List.setIfInBounds_toArray, List.set_cons_zero, List.set_cons_succ]
          refine take_yes 5 (some 41) (v := ?_) rfl (by kernel_rfl) (by kernel_rfl) (by kernel_rfl) (by kernel_rfl) (fun _ _ _ h => h) (by rfl) (by assumption) ?_ ?_
          rotate_left
          · (intro w' hSw; (try dsimp only at hSw); go_simp; try with_reducible rfl)
          try simp only [Act.put, List.setIfInBounds_toArray, List.set_cons_zero, List.set_cons_succ]
          refine take_yes 6 (some 42) (v := ?_) rfl (by kernel_rfl) (by kernel_rfl) (by kernel_rfl) (by kernel_rfl) (fun _ _ _ h => h) (by rfl) (by assumption) ?_ ?_
          rotate_left
          · (intro w' hSw; (try dsimp only at hSw); go_simp; try with_reducible rfl)
          try simp only [Act.put, List.setIfInBounds_toArray, List.set_cons_zero, List.set_cons_succ]
          refine take_yes 8 (some 44) (v := ?_) rfl (by kernel_rfl) (by kernel_rfl) (by kernel_rfl) (by kernel_rfl) (fun _ _ _ h => h) (by rfl) (by assumption) ?_ ?_
          rotate_left
          · (intro w' hSw; (try dsimp only at hSw); go_simp; try with_reducible rfl)
          try simp only [Act.put, List.setIfInBounds_toArray, List.set_cons_zero, List.set_cons_succ]
          refine take_yes 9 (some 45) (v := ?_) rfl (by kernel_rfl) (by kernel_rfl) (by kernel_rfl) (by kernel_rfl) (fun _ _ _ h => h) (by rfl) (by assumption) ?_ ?_
          rotate_left
          · (intro w' hSw; (try dsimp only at hSw); go_simp; try with_reducible rfl)
          try simp only [Act.put, List.setIfInBounds_toArray, List.set_cons_zero, List.set_cons_succ]
          refine take_yes 10 (some 46) (v := ?_) rfl (by kernel_rfl) (by kernel_rfl) (by kernel_rfl) (by kernel_rfl) (fun _ _ _ h => h) (by rfl) (by assumption) ?_ ?_
          rotate_left
          · (intro w' hSw; (try dsimp only at hSw); go_simp; try with_reducible rfl)
          try simp only [Act.put, List.setIfInBounds_toArray, List.set_cons_zero, List.set_cons_succ]
          refine take_yes 11 (some 47) (v := ?_) rfl (by kernel_rfl) (by kernel_rfl) (by kernel_rfl) (by kernel_rfl) (fun _ _ _ h => h) (by rfl) (by assumption) ?_ ?_
          rotate_left
          · (intro w' hSw; (try dsimp only at hSw); go_simp; try with_reducible rfl)
          try simp only [Act.put, List.setIfInBounds_toArray, List.set_cons_zero, List.set_cons_succ]
          refine take_yes 13 (some 49) (v := ?_) rfl (by kernel_rfl) (by kernel_rfl) (by kernel_rfl) (by kernel_rfl) (fun _ _ _ h => h) (by rfl) (by assumption) ?_ ?_
          rotate_left
          · (intro w' hSw; (try dsimp only at hSw); go_simp; try with_reducible rfl)
          try simp only [Act.put, List.setIfInBounds_toArray, List.set_cons_zero, List.set_cons_succ]
          refine take_three 1 7 14 rfl rfl rfl (by kernel_rfl) (by rfl) (by rfl) (by rfl) (fun K hK => ?_) (fun K hK => ?_) (fun K hK => ?_)
          · skip
            obtain ⟨q0, q1, q2, q3⟩ := DD.blk.two
            go_simp
            clear q0 q1 q2 q3
            refine hK.out _ _ (DD.blk.two).1 (fun hHeld22 => ?_)
            clear hK K hHeld
            try simp only [Act.put, List.setIfInBounds_toArray, List.set_cons_zero, List.set_cons_succ]
            refine take_two 7 14 rfl rfl (by kernel_rfl) (by rfl) (by rfl) (fun K hK => ?_) (fun K hK => ?_)
            · skip
              go_simp
              refine (l1Below_any B cb n1 _ DD.cur (by omega) (by omega)).mono ?_
              rintro en wq25 ⟨x1, hx10, hx19, rfl, hcq, htq⟩
              have D24 := DD.turn hcb hcq htq
              refine hK.out _ _ (D24.blk.two).1 (fun hHeld23 => ?_)
              clear hK K hHeld22 hcq htq
              try simp only [Act.put, List.setIfInBounds_toArray, List.set_cons_zero, List.set_cons_succ]
              refine take_two 12 14 rfl rfl (by kernel_rfl) (by rfl) (by rfl) (fun K hK => ?_) (fun K hK => ?_)
              · skip
                go_simp
                refine (l1Below_any B cb n1 _ D24.cur (by omega) (by omega)).mono ?_
                rintro en wq28 ⟨x2, hx20, hx29, rfl, hcq, htq⟩
                have D27 := D24.turn hcb hcq htq
                refine hK.out _ _ (D27.blk.two).1 (fun hHeld26 => ?_)
                clear hK K hHeld23 hcq htq
                try simp only [Act.put, List.setIfInBounds_toArray, List.set_cons_zero, List.set_cons_succ]
                refine take_run 14 rfl (by kernel_rfl) (by rfl) (fun K hK => ?_)
                go_simp
                have hsb : Since wq28 (wq28.alloc (.cells #[.int .i64 0, .int .i64 0, .int .i64 1, .int .i64 2] 3)) := ((Since.refl wq28).alloc (.cells #[.int .i64 0, .int .i64 0, .int .i64 1, .int .i64 2] 3))
                have D30 := D27.since hsb
                have hl31 : LitAt (wq28.alloc (.cells #[.int .i64 0, .int .i64 0, .int .i64 1, .int .i64 2] 3)) wq28.heap.size [0, 0, 1, 2] := LitAt.new wq28 [0, 0, 1, 2] _ rfl
                have hn32 : wq28.heap.size ≠ cb := by have := D27.cur.2.1; omega
                clear hsb
                refine hK.out _ _ (D30.blk.two).1 (fun hHeld29 => ?_)
                clear hK K hHeld26
                try simp only [Act.put, List.setIfInBounds_toArray, List.set_cons_zero, List.set_cons_succ]
                refine take_run 15 rfl (by kernel_rfl) (by rfl) (fun K hK => ?_)
                go_simp
                refine (pick_at [0, 0, 1, 2] B cb _ 4 _ D30.cur hn32 hl31 rfl (by omega) (by omega)).mono ?_
                rintro en wq35 ⟨x3, hx3, rfl, hcq, htq⟩
                have D34 := D30.turn hcb hcq htq
                refine hK.out _ _ (D34.blk.two).1 (fun hHeld33 => ?_)
                clear hK K hHeld29 hcq htq
                try simp only [Act.put, List.setIfInBounds_toArray, List.set_cons_zero, List.set_cons_succ]
                refine take_yes 16 (some 52) (v := ?_) rfl (by kernel_rfl) (by kernel_rfl) (by kernel_rfl) (by kernel_rfl) (fun _ _ _ h => h) (by rfl) (by assumption) ?_ ?_
                rotate_left
                · (intro w' hSw; (try dsimp only at hSw); go_simp; try with_reducible rfl)
                try simp only [Act.put, List.setIfInBounds_toArray, List.set_cons_zero, List.set_cons_succ]
                refine take_run 17 rfl (by kernel_rfl) (by rfl) (fun K hK => ?_)
                go_simp
                try simp only [id0]
                have hsb : Since wq35 (wq35.alloc (.cells #[.int .i64 id2, .int .i64 x1, .int .i64 x2, .int .i64 x3] 108)) := ((Since.refl wq35).alloc (.cells #[.int .i64 id2, .int .i64 x1, .int .i64 x2, .int .i64 x3] 108))
                have D37 := D34.since hsb
                have hib := lit1E wq35 ⟨id2, x1, x2, x3⟩ (edge_in4 (by omega) (by omega) (by omega) hx3)
                clear hsb
                refine hK.out _ _ (D37.blk.two).1 (fun hHeld36 => ?_)
                clear hK K hHeld33
                try simp only [Act.put, List.setIfInBounds_toArray, List.set_cons_zero, List.set_cons_succ]
                refine take_run 18 rfl (by kernel_rfl) (by rfl) (fun K hK => ?_)
                refine wp_append_edges (.tmp 37) (.tmp 53) rfl (w.heap.size + 1 + 1) v2 es rfl D37.ownE _ _ _ rfl [⟨id2, x1, x2, x3⟩] hib (by have := HLN.out; simp; omega) (by have := D37.two.size; omega) ?_
                intro v' w4 ho4 hg4 hb4
                obtain ⟨n4, hn4⟩ : ∃ n, (es ++ [(⟨id2, x1, x2, x3⟩ : Edg)]).length = n := ⟨_, rfl⟩
                obtain ⟨o4, c4, hv4⟩ := ho4.len
                rw [hn4] at hv4
                subst hv4
                clear hn4 hb4
                have P4 := D37.pushE hcb hy ho4 hg4
                refine hK.out _ _ (P4.2.2.1.two).1 (fun hHeld38 => ?_)
                clear hK K hHeld36
                try simp only [Act.put, List.setIfInBounds_toArray, List.set_cons_zero, List.set_cons_succ]
                refine take_yes 19 (some 55) (v := ?_) rfl (by kernel_rfl) (by kernel_rfl) (by kernel_rfl) (by kernel_rfl) (fun _ _ _ h => h) (by rfl) (by assumption) ?_ ?_
                rotate_left
                · (intro w' hSw; (try dsimp only at hSw); go_simp; try with_reducible rfl)
                try simp only [Act.put, List.setIfInBounds_toArray, List.set_cons_zero, List.set_cons_succ]
                refine take_run 20 rfl (by kernel_rfl) (by rfl) (fun K hK => ?_)
                obtain ⟨q0, q1, q2, q3⟩ := P4.2.2.1.two
                go_simp
                clear q0 q1 q2 q3
                have DZ := DG.set1 hcb P4
                refine hK.out _ _ (DZ.blk.two).1 (fun hHeld39 => ?_)
                clear hK K hHeld38
                try simp only [Act.put, List.setIfInBounds_toArray, List.set_cons_zero, List.set_cons_succ]
                refine wpAnyH_done (by kernel_rfl) ?_ _
                have HDZ := Lib.hid DZ
                clear hHeld39 DZ P4 hib ho4 hg4
                go_wp2_with fail
                go_roundw
                case rel => exact ⟨id2, m - 1, .slice o4 n4 c4, es ++ [(⟨id2, x1, x2, x3⟩ : Edg)], by omega, by omega, by omega, by go_num, by go_num, by have := HLN.out; unfold Hid; simp; omega, HDZ.out⟩
                case measure => simp [intOf]; omega
              · skip
                go_simp
                have hsb : Since wq25 (wq25.alloc (.cells #[.int .i64 0, .int .i64 0, .int .i64 1, .int .i64 2] 3)) := ((Since.refl wq25).alloc (.cells #[.int .i64 0, .int .i64 0, .int .i64 1, .int .i64 2] 3))
                have D41 := D24.since hsb
                have hl42 : LitAt (wq25.alloc (.cells #[.int .i64 0, .int .i64 0, .int .i64 1, .int .i64 2] 3)) wq25.heap.size [0, 0, 1, 2] := LitAt.new wq25 [0, 0, 1, 2] _ rfl
                have hn43 : wq25.heap.size ≠ cb := by have := D24.cur.2.1; omega
                clear hsb
                refine hK.out _ _ (D41.blk.two).1 (fun hHeld40 => ?_)
                clear hK K hHeld23
                try simp only [Act.put, List.setIfInBounds_toArray, List.set_cons_zero, List.set_cons_succ]
                refine take_run 12 rfl (by kernel_rfl) (by rfl) (fun K hK => ?_)
                go_simp
                refine (l1Below_any B cb n1 _ D41.cur (by omega) (by omega)).mono ?_
                rintro en wq46 ⟨x2, hx20, hx29, rfl, hcq, htq⟩
                have D45 := D41.turn hcb hcq htq
                have hl47 := hl42.grown htq (fun e => by injection e with e; exact hn43 e)
                refine hK.out _ _ (D45.blk.two).1 (fun hHeld44 => ?_)
                clear hK K hHeld40 hcq htq
                try simp only [Act.put, List.setIfInBounds_toArray, List.set_cons_zero, List.set_cons_succ]
                refine take_run 15 rfl (by kernel_rfl) (by rfl) (fun K hK => ?_)
                go_simp
                refine (pick_at [0, 0, 1, 2] B cb _ 4 _ D45.cur hn43 hl47 rfl (by omega) (by omega)).mono ?_
                rintro en wq50 ⟨x3, hx3, rfl, hcq, htq⟩
                have D49 := D45.turn hcb hcq htq
                refine hK.out _ _ (D49.blk.two).1 (fun hHeld48 => ?_)
                clear hK K hHeld44 hcq htq
                try simp only [Act.put, List.setIfInBounds_toArray, List.set_cons_zero, List.set_cons_succ]
                refine take_yes 16 (some 52) (v := ?_) rfl (by kernel_rfl) (by kernel_rfl) (by kernel_rfl) (by kernel_rfl) (fun _ _ _ h => h) (by rfl) (by assumption) ?_ ?_
                rotate_left
                · (intro w' hSw; (try dsimp only at hSw); go_simp; try with_reducible rfl)
                try simp only [Act.put, List.setIfInBounds_toArray, List.set_cons_zero, List.set_cons_succ]
                refine take_run 17 rfl (by kernel_rfl) (by rfl) (fun K hK => ?_)
                go_simp
                try simp only [id0]
                have hsb : Since wq50 (wq50.alloc (.cells #[.int .i64 id2, .int .i64 x1, .int .i64 x2, .int .i64 x3] 108)) := ((Since.refl wq50).alloc (.cells #[.int .i64 id2, .int .i64 x1, .int .i64 x2, .int .i64 x3] 108))
                have D52 := D49.since hsb
                have hib := lit1E wq50 ⟨id2, x1, x2, x3⟩ (edge_in4 (by omega) (by omega) (by omega) hx3)
                clear hsb
                refine hK.out _ _ (D52.blk.two).1 (fun hHeld51 => ?_)
                clear hK K hHeld48
                try simp only [Act.put, List.setIfInBounds_toArray, List.set_cons_zero, List.set_cons_succ]
                refine take_run 18 rfl (by kernel_rfl) (by rfl) (fun K hK => ?_)
                refine wp_append_edges (.tmp 37) (.tmp 53) rfl (w.heap.size + 1 + 1) v2 es rfl D52.ownE _ _ _ rfl [⟨id2, x1, x2, x3⟩] hib (by have := HLN.out; simp; omega) (by have := D52.two.size; omega) ?_
                intro v' w4 ho4 hg4 hb4
                obtain ⟨n4, hn4⟩ : ∃ n, (es ++ [(⟨id2, x1, x2, x3⟩ : Edg)]).length = n := ⟨_, rfl⟩
                obtain ⟨o4, c4, hv4⟩ := ho4.len
                rw [hn4] at hv4
                subst hv4
                clear hn4 hb4
                have P4 := D52.pushE hcb hy ho4 hg4
                refine hK.out _ _ (P4.2.2.1.two).1 (fun hHeld53 => ?_)
                clear hK K hHeld51
                try simp only [Act.put, List.setIfInBounds_toArray, List.set_cons_zero, List.set_cons_succ]
                refine take_yes 19 (some 55) (v := ?_) rfl (by kernel_rfl) (by kernel_rfl) (by kernel_rfl) (by kernel_rfl) (fun _ _ _ h => h) (by rfl) (by assumption) ?_ ?_
                rotate_left
                · (intro w' hSw; (try dsimp only at hSw); go_simp; try with_reducible rfl)
                try simp only [Act.put, List.setIfInBounds_toArray, List.set_cons_zero, List.set_cons_succ]
                refine take_run 20 rfl (by kernel_rfl) (by rfl) (fun K hK => ?_)
                obtain ⟨q0, q1, q2, q3⟩ := P4.2.2.1.two
                go_simp
                clear q0 q1 q2 q3
                have DZ := DG.set1 hcb P4
                refine hK.out _ _ (DZ.blk.two).1 (fun hHeld54 => ?_)
                clear hK K hHeld53
                try simp only [Act.put, List.setIfInBounds_toArray, List.set_cons_zero, List.set_cons_succ]
                refine wpAnyH_done (by kernel_rfl) ?_ _
                have HDZ := Lib.hid DZ
                clear hHeld54 DZ P4 hib ho4 hg4
                go_wp2_with fail
                go_roundw
                case rel => exact ⟨id2, m - 1, .slice o4 n4 c4, es ++ [(⟨id2, x1, x2, x3⟩ : Edg)], by omega, by omega, by omega, by go_num, by go_num, by have := HLN.out; unfold Hid; simp; omega, HDZ.out⟩
                case measure => simp [intOf]; omega
            · skip
              go_simp
              have hsb : Since wr (wr.alloc (.cells #[.int .i64 0, .int .i64 0, .int .i64 1, .int .i64 2] 3)).drew := ((Since.refl wr).alloc (.cells #[.int .i64 0, .int .i64 0, .int .i64 1, .int .i64 2] 3)).drew
              have D56 := DW.since hsb
              have hl57 : LitAt (wr.alloc (.cells #[.int .i64 0, .int .i64 0, .int .i64 1, .int .i64 2] 3)).drew wr.heap.size [0, 0, 1, 2] := (LitAt.new wr [0, 0, 1, 2] _ rfl).grown (grown_since (Since.refl (wr.alloc (.cells #[.int .i64 0, .int .i64 0, .int .i64 1, .int .i64 2] 3))).drew) (by simp)
              have hn58 : wr.heap.size ≠ cb := by have := DW.cur.2.1; omega
              clear hsb
              refine hK.out _ _ (D56.blk.two).1 (fun hHeld55 => ?_)
              clear hK K hHeld22
              try simp only [Act.put, List.setIfInBounds_toArray, List.set_cons_zero, List.set_cons_succ]
              refine take_run 7 rfl (by kernel_rfl) (by rfl) (fun K hK => ?_)
              go_simp
              refine (l1Below_any B cb n1 _ D56.cur (by omega) (by omega)).mono ?_
              rintro en wq61 ⟨x1, hx10, hx19, rfl, hcq, htq⟩
              have D60 := D56.turn hcb hcq htq
              have hl62 := hl57.grown htq (fun e => by injection e with e; exact hn58 e)
              refine hK.out _ _ (D60.blk.two).1 (fun hHeld59 => ?_)
              clear hK K hHeld55 hcq htq
              try simp only [Act.put, List.setIfInBounds_toArray, List.set_cons_zero, List.set_cons_succ]
              refine take_run 12 rfl (by kernel_rfl) (by rfl) (fun K hK => ?_)
              go_simp
              refine (l1Below_any B cb n1 _ D60.cur (by omega) (by omega)).mono ?_
              rintro en wq65 ⟨x2, hx20, hx29, rfl, hcq, htq⟩
              have D64 := D60.turn hcb hcq htq
              have hl66 := hl62.grown htq (fun e => by injection e with e; exact hn58 e)
              refine hK.out _ _ (D64.blk.two).1 (fun hHeld63 => ?_)
              clear hK K hHeld59 hcq htq
              try simp only [Act.put, List.setIfInBounds_toArray, List.set_cons_zero, List.set_cons_succ]
              refine take_run 15 rfl (by kernel_rfl) (by rfl) (fun K hK => ?_)
              go_simp
              refine (pick_at [0, 0, 1, 2] B cb _ 4 _ D64.cur hn58 hl66 rfl (by omega) (by omega)).mono ?_
              rintro en wq69 ⟨x3, hx3, rfl, hcq, htq⟩
              have D68 := D64.turn hcb hcq htq
              refine hK.out _ _ (D68.blk.two).1 (fun hHeld67 => ?_)
              clear hK K hHeld63 hcq htq
              try simp only [Act.put, List.setIfInBounds_toArray, List.set_cons_zero, List.set_cons_succ]
              refine take_yes 16 (some 52) (v := ?_) rfl (by kernel_rfl) (by kernel_rfl) (by kernel_rfl) (by kernel_rfl) (fun _ _ _ h => h) (by rfl) (by assumption) ?_ ?_
              rotate_left
              · (intro w' hSw; (try dsimp only at hSw); go_simp; try with_reducible rfl)
              try simp only [Act.put, List.setIfInBounds_toArray, List.set_cons_zero, List.set_cons_succ]
              refine take_run 17 rfl (by kernel_rfl) (by rfl) (fun K hK => ?_)
              go_simp
              try simp only [id0]
              have hsb : Since wq69 (wq69.alloc (.cells #[.int .i64 id2, .int .i64 x1, .int .i64 x2, .int .i64 x3] 108)) := ((Since.refl wq69).alloc (.cells #[.int .i64 id2, .int .i64 x1, .int .i64 x2, .int .i64 x3] 108))
              have D71 := D68.since hsb
              have hib := lit1E wq69 ⟨id2, x1, x2, x3⟩ (edge_in4 (by omega) (by omega) (by omega) hx3)
              clear hsb
              refine hK.out _ _ (D71.blk.two).1 (fun hHeld70 => ?_)
              clear hK K hHeld67
              try simp only [Act.put, List.setIfInBounds_toArray, List.set_cons_zero, List.set_cons_succ]
              refine take_run 18 rfl (by kernel_rfl) (by rfl) (fun K hK => ?_)
              refine wp_append_edges (.tmp 37) (.tmp 53) rfl (w.heap.size + 1 + 1) v2 es rfl D71.ownE _ _ _ rfl [⟨id2, x1, x2, x3⟩] hib (by have := HLN.out; simp; omega) (by have := D71.two.size; omega) ?_
              intro v' w4 ho4 hg4 hb4
              obtain ⟨n4, hn4⟩ : ∃ n, (es ++ [(⟨id2, x1, x2, x3⟩ : Edg)]).length = n := ⟨_, rfl⟩
              obtain ⟨o4, c4, hv4⟩ := ho4.len
              rw [hn4] at hv4
              subst hv4
              clear hn4 hb4
              have P4 := D71.pushE hcb hy ho4 hg4
              refine hK.out _ _ (P4.2.2.1.two).1 (fun hHeld72 => ?_)
              clear hK K hHeld70
              try simp only [Act.put, List.setIfInBounds_toArray, List.set_cons_zero, List.set_cons_succ]
              refine take_yes 19 (some 55) (v := ?_) rfl (by kernel_rfl) (by kernel_rfl) (by kernel_rfl) (by kernel_rfl) (fun _ _ _ h => h) (by rfl) (by assumption) ?_ ?_
              rotate_left
              · (intro w' hSw; (try dsimp only at hSw); go_simp; try with_reducible rfl)
              try simp only [Act.put, List.setIfInBounds_toArray, List.set_cons_zero, List.set_cons_succ]
              refine take_run 20 rfl (by kernel_rfl) (by rfl) (fun K hK => ?_)
              obtain ⟨q0, q1, q2, q3⟩ := P4.2.2.1.two
              go_simp
              clear q0 q1 q2 q3
              have DZ := DG.set1 hcb P4
              refine hK.out _ _ (DZ.blk.two).1 (fun hHeld73 => ?_)
              clear hK K hHeld72
              try simp only [Act.put, List.setIfInBounds_toArray, List.set_cons_zero, List.set_cons_succ]
              refine wpAnyH_done (by kernel_rfl) ?_ _
              have HDZ := Lib.hid DZ
              clear hHeld73 DZ P4 hib ho4 hg4
              go_wp2_with fail
              go_roundw
              case rel => exact ⟨id2, m - 1, .slice o4 n4 c4, es ++ [(⟨id2, x1, x2, x3⟩ : Edg)], by omega, by omega, by omega, by go_num, by go_num, by have := HLN.out; unfold Hid; simp; omega, HDZ.out⟩
              case measure => simp [intOf]; omega
          · skip
            go_simp
            refine (l1Below_any B cb n1 _ DD.cur (by omega) (by omega)).mono ?_
            rintro en wq76 ⟨x1, hx10, hx19, rfl, hcq, htq⟩
            have D75 := DD.turn hcb hcq htq
            refine hK.out _ _ (D75.blk.two).1 (fun hHeld74 => ?_)
            clear hK K hHeld hcq htq
            try simp only [Act.put, List.setIfInBounds_toArray, List.set_cons_zero, List.set_cons_succ]
            refine take_three 1 12 14 rfl rfl rfl (by kernel_rfl) (by rfl) (by rfl) (by rfl) (fun K hK => ?_) (fun K hK => ?_) (fun K hK => ?_)
            · skip
              obtain ⟨q0, q1, q2, q3⟩ := D75.blk.two
              go_simp
              clear q0 q1 q2 q3
              refine hK.out _ _ (D75.blk.two).1 (fun hHeld77 => ?_)
              clear hK K hHeld74
              try simp only [Act.put, List.setIfInBounds_toArray, List.set_cons_zero, List.set_cons_succ]
              refine take_two 12 14 rfl rfl (by kernel_rfl) (by rfl) (by rfl) (fun K hK => ?_) (fun K hK => ?_)
              · skip
                go_simp
                refine (l1Below_any B cb n1 _ D75.cur (by omega) (by omega)).mono ?_
                rintro en wq80 ⟨x2, hx20, hx29, rfl, hcq, htq⟩
                have D79 := D75.turn hcb hcq htq
                refine hK.out _ _ (D79.blk.two).1 (fun hHeld78 => ?_)
                clear hK K hHeld77 hcq htq
                try simp only [Act.put, List.setIfInBounds_toArray, List.set_cons_zero, List.set_cons_succ]
                refine take_run 14 rfl (by kernel_rfl) (by rfl) (fun K hK => ?_)
                go_simp
                have hsb : Since wq80 (wq80.alloc (.cells #[.int .i64 0, .int .i64 0, .int .i64 1, .int .i64 2] 3)) := ((Since.refl wq80).alloc (.cells #[.int .i64 0, .int .i64 0, .int .i64 1, .int .i64 2] 3))
                have D82 := D79.since hsb
                have hl83 : LitAt (wq80.alloc (.cells #[.int .i64 0, .int .i64 0, .int .i64 1, .int .i64 2] 3)) wq80.heap.size [0, 0, 1, 2] := LitAt.new wq80 [0, 0, 1, 2] _ rfl
                have hn84 : wq80.heap.size ≠ cb := by have := D79.cur.2.1; omega
                clear hsb
                refine hK.out _ _ (D82.blk.two).1 (fun hHeld81 => ?_)
                clear hK K hHeld78
                try simp only [Act.put, List.setIfInBounds_toArray, List.set_cons_zero, List.set_cons_succ]
                refine take_run 15 rfl (by kernel_rfl) (by rfl) (fun K hK => ?_)
                go_simp
                refine (pick_at [0, 0, 1, 2] B cb _ 4 _ D82.cur hn84 hl83 rfl (by omega) (by omega)).mono ?_
                rintro en wq87 ⟨x3, hx3, rfl, hcq, htq⟩
                have D86 := D82.turn hcb hcq htq
                refine hK.out _ _ (D86.blk.two).1 (fun hHeld85 => ?_)
                clear hK K hHeld81 hcq htq
                try simp only [Act.put, List.setIfInBounds_toArray, List.set_cons_zero, List.set_cons_succ]
                refine take_yes 16 (some 52) (v := ?_) rfl (by kernel_rfl) (by kernel_rfl) (by kernel_rfl) (by kernel_rfl) (fun _ _ _ h => h) (by rfl) (by assumption) ?_ ?_
                rotate_left
                · (intro w' hSw; (try dsimp only at hSw); go_simp; try with_reducible rfl)
                try simp only [Act.put, List.setIfInBounds_toArray, List.set_cons_zero, List.set_cons_succ]
                refine take_run 17 rfl (by kernel_rfl) (by rfl) (fun K hK => ?_)
                go_simp
                try simp only [id0]
                have hsb : Since wq87 (wq87.alloc (.cells #[.int .i64 id2, .int .i64 x1, .int .i64 x2, .int .i64 x3] 108)) := ((Since.refl wq87).alloc (.cells #[.int .i64 id2, .int .i64 x1, .int .i64 x2, .int .i64 x3] 108))
                have D89 := D86.since hsb
                have hib := lit1E wq87 ⟨id2, x1, x2, x3⟩ (edge_in4 (by omega) (by omega) (by omega) hx3)
                clear hsb
                refine hK.out _ _ (D89.blk.two).1 (fun hHeld88 => ?_)
                clear hK K hHeld85
                try simp only [Act.put, List.setIfInBounds_toArray, List.set_cons_zero, List.set_cons_succ]
                refine take_run 18 rfl (by kernel_rfl) (by rfl) (fun K hK => ?_)
                refine wp_append_edges (.tmp 37) (.tmp 53) rfl (w.heap.size + 1 + 1) v2 es rfl D89.ownE _ _ _ rfl [⟨id2, x1, x2, x3⟩] hib (by have := HLN.out; simp; omega) (by have := D89.two.size; omega) ?_
                intro v' w4 ho4 hg4 hb4
                obtain ⟨n4, hn4⟩ : ∃ n, (es ++ [(⟨id2, x1, x2, x3⟩ : Edg)]).length = n := ⟨_, rfl⟩
                obtain ⟨o4, c4, hv4⟩ := ho4.len
                rw [hn4] at hv4
                subst hv4
                clear hn4 hb4
                have P4 := D89.pushE hcb hy ho4 hg4
                refine hK.out _ _ (P4.2.2.1.two).1 (fun hHeld90 => ?_)
                clear hK K hHeld88
                try simp only [Act.put, List.setIfInBounds_toArray, List.set_cons_zero, List.set_cons_succ]
                refine take_yes 19 (some 55) (v := ?_) rfl (by kernel_rfl) (by kernel_rfl) (by kernel_rfl) (by kernel_rfl) (fun _ _ _ h => h) (by rfl) (by assumption) ?_ ?_
                rotate_left
                · (intro w' hSw; (try dsimp only at hSw); go_simp; try with_reducible rfl)
                try simp only [Act.put, List.setIfInBounds_toArray, List.set_cons_zero, List.set_cons_succ]
                refine take_run 20 rfl (by kernel_rfl) (by rfl) (fun K hK => ?_)
                obtain ⟨q0, q1, q2, q3⟩ := P4.2.2.1.two
                go_simp
                clear q0 q1 q2 q3
                have DZ := DG.set1 hcb P4
                refine hK.out _ _ (DZ.blk.two).1 (fun hHeld91 => ?_)
                clear hK K hHeld90
                try simp only [Act.put, List.setIfInBounds_toArray, List.set_cons_zero, List.set_cons_succ]
                refine wpAnyH_done (by kernel_rfl) ?_ _
                have HDZ := Lib.hid DZ
                clear hHeld91 DZ P4 hib ho4 hg4
                go_wp2_with fail
                go_roundw
                case rel => exact ⟨id2, m - 1, .slice o4 n4 c4, es ++ [(⟨id2, x1, x2, x3⟩ : Edg)], by omega, by omega, by omega, by go_num, by go_num, by have := HLN.out; unfold Hid; simp; omega, HDZ.out⟩
                case measure => simp [intOf]; omega
              · skip
                go_simp
                have hsb : Since wq76 (wq76.alloc (.cells #[.int .i64 0, .int .i64 0, .int .i64 1, .int .i64 2] 3)) := ((Since.refl wq76).alloc (.cells #[.int .i64 0, .int .i64 0, .int .i64 1, .int .i64 2] 3))
                have D93 := D75.since hsb
                have hl94 : LitAt (wq76.alloc (.cells #[.int .i64 0, .int .i64 0, .int .i64 1, .int .i64 2] 3)) wq76.heap.size [0, 0, 1, 2] := LitAt.new wq76 [0, 0, 1, 2] _ rfl
                have hn95 : wq76.heap.size ≠ cb := by have := D75.cur.2.1; omega
                clear hsb
                refine hK.out _ _ (D93.blk.two).1 (fun hHeld92 => ?_)
                clear hK K hHeld77
                try simp only [Act.put, List.setIfInBounds_toArray, List.set_cons_zero, List.set_cons_succ]
                refine take_run 12 rfl (by kernel_rfl) (by rfl) (fun K hK => ?_)
                go_simp
                refine (l1Below_any B cb n1 _ D93.cur (by omega) (by omega)).mono ?_
                rintro en wq98 ⟨x2, hx20, hx29, rfl, hcq, htq⟩
                have D97 := D93.turn hcb hcq htq
                have hl99 := hl94.grown htq (fun e => by injection e with e; exact hn95 e)
                refine hK.out _ _ (D97.blk.two).1 (fun hHeld96 => ?_)
                clear hK K hHeld92 hcq htq
                try simp only [Act.put, List.setIfInBounds_toArray, List.set_cons_zero, List.set_cons_succ]
                refine take_run 15 rfl (by kernel_rfl) (by rfl) (fun K hK => ?_)
                go_simp
                refine (pick_at [0, 0, 1, 2] B cb _ 4 _ D97.cur hn95 hl99 rfl (by omega) (by omega)).mono ?_
                rintro en wq102 ⟨x3, hx3, rfl, hcq, htq⟩
                have D101 := D97.turn hcb hcq htq
                refine hK.out _ _ (D101.blk.two).1 (fun hHeld100 => ?_)
                clear hK K hHeld96 hcq htq
                try simp only [Act.put, List.setIfInBounds_toArray, List.set_cons_zero, List.set_cons_succ]
                refine take_yes 16 (some 52) (v := ?_) rfl (by kernel_rfl) (by kernel_rfl) (by kernel_rfl) (by kernel_rfl) (fun _ _ _ h => h) (by rfl) (by assumption) ?_ ?_
                rotate_left
                · (intro w' hSw; (try dsimp only at hSw); go_simp; try with_reducible rfl)
                try simp only [Act.put, List.setIfInBounds_toArray, List.set_cons_zero, List.set_cons_succ]
                refine take_run 17 rfl (by kernel_rfl) (by rfl) (fun K hK => ?_)
                go_simp
                try simp only [id0]
                have hsb : Since wq102 (wq102.alloc (.cells #[.int .i64 id2, .int .i64 x1, .int .i64 x2, .int .i64 x3] 108)) := ((Since.refl wq102).alloc (.cells #[.int .i64 id2, .int .i64 x1, .int .i64 x2, .int .i64 x3] 108))
                have D104 := D101.since hsb
                have hib := lit1E wq102 ⟨id2, x1, x2, x3⟩ (edge_in4 (by omega) (by omega) (by omega) hx3)
                clear hsb
                refine hK.out _ _ (D104.blk.two).1 (fun hHeld103 => ?_)
                clear hK K hHeld100
                try simp only [Act.put, List.setIfInBounds_toArray, List.set_cons_zero, List.set_cons_succ]
                refine take_run 18 rfl (by kernel_rfl) (by rfl) (fun K hK => ?_)
                refine wp_append_edges (.tmp 37) (.tmp 53) rfl (w.heap.size + 1 + 1) v2 es rfl D104.ownE _ _ _ rfl [⟨id2, x1, x2, x3⟩] hib (by have := HLN.out; simp; omega) (by have := D104.two.size; omega) ?_
                intro v' w4 ho4 hg4 hb4
                obtain ⟨n4, hn4⟩ : ∃ n, (es ++ [(⟨id2, x1, x2, x3⟩ : Edg)]).length = n := ⟨_, rfl⟩
                obtain ⟨o4, c4, hv4⟩ := ho4.len
                rw [hn4] at hv4
                subst hv4
                clear hn4 hb4
                have P4 := D104.pushE hcb hy ho4 hg4
                refine hK.out _ _ (P4.2.2.1.two).1 (fun hHeld105 => ?_)
                clear hK K hHeld103
                try simp only [Act.put, List.setIfInBounds_toArray, List.set_cons_zero, List.set_cons_succ]
                refine take_yes 19 (some 55) (v := ?_) rfl (by kernel_rfl) (by kernel_rfl) (by kernel_rfl) (by kernel_rfl) (fun _ _ _ h => h) (by rfl) (by assumption) ?_ ?_
                rotate_left
                · (intro w' hSw; (try dsimp only at hSw); go_simp; try with_reducible rfl)
                try simp only [Act.put, List.setIfInBounds_toArray, List.set_cons_zero, List.set_cons_succ]
                refine take_run 20 rfl (by kernel_rfl) (by rfl) (fun K hK => ?_)
                obtain ⟨q0, q1, q2, q3⟩ := P4.2.2.1.two
                go_simp
                clear q0 q1 q2 q3
                have DZ := DG.set1 hcb P4
                refine hK.out _ _ (DZ.blk.two).1 (fun hHeld106 => ?_)
                clear hK K hHeld105
                try simp only [Act.put, List.setIfInBounds_toArray, List.set_cons_zero, List.set_cons_succ]
                refine wpAnyH_done (by kernel_rfl) ?_ _
                have HDZ := Lib.hid DZ
                clear hHeld106 DZ P4 hib ho4 hg4
                go_wp2_with fail
                go_roundw
                case rel => exact ⟨id2, m - 1, .slice o4 n4 c4, es ++ [(⟨id2, x1, x2, x3⟩ : Edg)], by omega, by omega, by omega, by go_num, by go_num, by have := HLN.out; unfold Hid; simp; omega, HDZ.out⟩
                case measure => simp [intOf]; omega
            · skip
              go_simp
              refine (l1Below_any B cb n1 _ D75.cur (by omega) (by omega)).mono ?_
              rintro en wq109 ⟨x2, hx20, hx29, rfl, hcq, htq⟩
              have D108 := D75.turn hcb hcq htq
              refine hK.out _ _ (D108.blk.two).1 (fun hHeld107 => ?_)
              clear hK K hHeld74 hcq htq
              try simp only [Act.put, List.setIfInBounds_toArray, List.set_cons_zero, List.set_cons_succ]
              refine take_two 1 14 rfl rfl (by kernel_rfl) (by rfl) (by rfl) (fun K hK => ?_) (fun K hK => ?_)
              · skip
                obtain ⟨q0, q1, q2, q3⟩ := D108.blk.two
                go_simp
                clear q0 q1 q2 q3
                refine hK.out _ _ (D108.blk.two).1 (fun hHeld110 => ?_)
                clear hK K hHeld107
                try simp only [Act.put, List.setIfInBounds_toArray, List.set_cons_zero, List.set_cons_succ]
                refine take_run 14 rfl (by kernel_rfl) (by rfl) (fun K hK => ?_)
                go_simp
                have hsb : Since wq109 (wq109.alloc (.cells #[.int .i64 0, .int .i64 0, .int .i64 1, .int .i64 2] 3)) := ((Since.refl wq109).alloc (.cells #[.int .i64 0, .int .i64 0, .int .i64 1, .int .i64 2] 3))
                have D112 := D108.since hsb
                have hl113 : LitAt (wq109.alloc (.cells #[.int .i64 0, .int .i64 0, .int .i64 1, .int .i64 2] 3)) wq109.heap.size [0, 0, 1, 2] := LitAt.new wq109 [0, 0, 1, 2] _ rfl
                have hn114 : wq109.heap.size ≠ cb := by have := D108.cur.2.1; omega
                clear hsb
                refine hK.out _ _ (D112.blk.two).1 (fun hHeld111 => ?_)
                clear hK K hHeld110
                try simp only [Act.put, List.setIfInBounds_toArray, List.set_cons_zero, List.set_cons_succ]
                refine take_run 15 rfl (by kernel_rfl) (by rfl) (fun K hK => ?_)
                go_simp
                refine (pick_at [0, 0, 1, 2] B cb _ 4 _ D112.cur hn114 hl113 rfl (by omega) (by omega)).mono ?_
                rintro en wq117 ⟨x3, hx3, rfl, hcq, htq⟩
                have D116 := D112.turn hcb hcq htq
                refine hK.out _ _ (D116.blk.two).1 (fun hHeld115 => ?_)
                clear hK K hHeld111 hcq htq
                try simp only [Act.put, List.setIfInBounds_toArray, List.set_cons_zero, List.set_cons_succ]
                refine take_yes 16 (some 52) (v := ?_) rfl (by kernel_rfl) (by kernel_rfl) (by kernel_rfl) (by kernel_rfl) (fun _ _ _ h => h) (by rfl) (by assumption) ?_ ?_
                rotate_left
                · (intro w' hSw; (try dsimp only at hSw); go_simp; try with_reducible rfl)
                try simp only [Act.put, List.setIfInBounds_toArray, List.set_cons_zero, List.set_cons_succ]
                refine take_run 17 rfl (by kernel_rfl) (by rfl) (fun K hK => ?_)
                go_simp
                try simp only [id0]
                have hsb : Since wq117 (wq117.alloc (.cells #[.int .i64 id2, .int .i64 x1, .int .i64 x2, .int .i64 x3] 108)) := ((Since.refl wq117).alloc (.cells #[.int .i64 id2, .int .i64 x1, .int .i64 x2, .int .i64 x3] 108))
                have D119 := D116.since hsb
                have hib := lit1E wq117 ⟨id2, x1, x2, x3⟩ (edge_in4 (by omega) (by omega) (by omega) hx3)
                clear hsb
                refine hK.out _ _ (D119.blk.two).1 (fun hHeld118 => ?_)
                clear hK K hHeld115
                try simp only [Act.put, List.setIfInBounds_toArray, List.set_cons_zero, List.set_cons_succ]
                refine take_run 18 rfl (by kernel_rfl) (by rfl) (fun K hK => ?_)
                refine wp_append_edges (.tmp 37) (.tmp 53) rfl (w.heap.size + 1 + 1) v2 es rfl D119.ownE _ _ _ rfl [⟨id2, x1, x2, x3⟩] hib (by have := HLN.out; simp; omega) (by have := D119.two.size; omega) ?_
                intro v' w4 ho4 hg4 hb4
                obtain ⟨n4, hn4⟩ : ∃ n, (es ++ [(⟨id2, x1, x2, x3⟩ : Edg)]).length = n := ⟨_, rfl⟩
                obtain ⟨o4, c4, hv4⟩ := ho4.len
                rw [hn4] at hv4
                subst hv4
                clear hn4 hb4
                have P4 := D119.pushE hcb hy ho4 hg4
                refine hK.out _ _ (P4.2.2.1.two).1 (fun hHeld120 => ?_)
                clear hK K hHeld118
                try simp only [Act.put, List.setIfInBounds_toArray, List.set_cons_zero, List.set_cons_succ]
                refine take_yes 19 (some 55) (v := ?_) rfl (by kernel_rfl) (by kernel_rfl) (by kernel_rfl) (by kernel_rfl) (fun _ _ _ h => h) (by rfl) (by assumption) ?_ ?_
                rotate_left
                · (intro w' hSw; (try dsimp only at hSw); go_simp; try with_reducible rfl)
                try simp only [Act.put, List.setIfInBounds_toArray, List.set_cons_zero, List.set_cons_succ]
                refine take_run 20 rfl (by kernel_rfl) (by rfl) (fun K hK => ?_)
                obtain ⟨q0, q1, q2, q3⟩ := P4.2.2.1.two
                go_simp
                clear q0 q1 q2 q3
                have DZ := DG.set1 hcb P4
                refine hK.out _ _ (DZ.blk.two).1 (fun hHeld121 => ?_)
                clear hK K hHeld120
                try simp only [Act.put, List.setIfInBounds_toArray, List.set_cons_zero, List.set_cons_succ]
                refine wpAnyH_done (by kernel_rfl) ?_ _
                have HDZ := Lib.hid DZ
                clear hHeld121 DZ P4 hib ho4 hg4
                go_wp2_with fail
                go_roundw
                case rel => exact ⟨id2, m - 1, .slice o4 n4 c4, es ++ [(⟨id2, x1, x2, x3⟩ : Edg)], by omega, by omega, by omega, by go_num, by go_num, by have := HLN.out; unfold Hid; simp; omega, HDZ.out⟩
                case measure => simp [intOf]; omega
              · skip
                go_simp
                have hsb : Since wq109 (wq109.alloc (.cells #[.int .i64 0, .int .i64 0, .int .i64 1, .int .i64 2] 3)) := ((Since.refl wq109).alloc (.cells #[.int .i64 0, .int .i64 0, .int .i64 1, .int .i64 2] 3))
                have D123 := D108.since hsb
                have hl124 : LitAt (wq109.alloc (.cells #[.int .i64 0, .int .i64 0, .int .i64 1, .int .i64 2] 3)) wq109.heap.size [0, 0, 1, 2] := LitAt.new wq109 [0, 0, 1, 2] _ rfl
                have hn125 : wq109.heap.size ≠ cb := by have := D108.cur.2.1; omega
                clear hsb
                refine hK.out _ _ (D123.blk.two).1 (fun hHeld122 => ?_)
                clear hK K hHeld107
                try simp only [Act.put, List.setIfInBounds_toArray, List.set_cons_zero, List.set_cons_succ]
                refine take_two 1 15 rfl rfl (by kernel_rfl) (by rfl) (by rfl) (fun K hK => ?_) (fun K hK => ?_)
                · skip
                  obtain ⟨q0, q1, q2, q3⟩ := D123.blk.two
                  go_simp
                  clear q0 q1 q2 q3
                  refine hK.out _ _ (D123.blk.two).1 (fun hHeld126 => ?_)
                  clear hK K hHeld122
                  try simp only [Act.put, List.setIfInBounds_toArray, List.set_cons_zero, List.set_cons_succ]
                  refine take_run 15 rfl (by kernel_rfl) (by rfl) (fun K hK => ?_)
                  go_simp
                  refine (pick_at [0, 0, 1, 2] B cb _ 4 _ D123.cur hn125 hl124 rfl (by omega) (by omega)).mono ?_
                  rintro en wq129 ⟨x3, hx3, rfl, hcq, htq⟩
                  have D128 := D123.turn hcb hcq htq
                  refine hK.out _ _ (D128.blk.two).1 (fun hHeld127 => ?_)
                  clear hK K hHeld126 hcq htq
                  try simp only [Act.put, List.setIfInBounds_toArray, List.set_cons_zero, List.set_cons_succ]
                  refine take_yes 16 (some 52) (v := ?_) rfl (by kernel_rfl) (by kernel_rfl) (by kernel_rfl) (by kernel_rfl) (fun _ _ _ h => h) (by rfl) (by assumption) ?_ ?_
                  rotate_left
                  · (intro w' hSw; (try dsimp only at hSw); go_simp; try with_reducible rfl)
                  try simp only [Act.put, List.setIfInBounds_toArray, List.set_cons_zero, List.set_cons_succ]
                  refine take_run 17 rfl (by kernel_rfl) (by rfl) (fun K hK => ?_)
                  go_simp
                  try simp only [id0]
                  have hsb : Since wq129 (wq129.alloc (.cells #[.int .i64 id2, .int .i64 x1, .int .i64 x2, .int .i64 x3] 108)) := ((Since.refl wq129).alloc (.cells #[.int .i64 id2, .int .i64 x1, .int .i64 x2, .int .i64 x3] 108))
                  have D131 := D128.since hsb
                  have hib := lit1E wq129 ⟨id2, x1, x2, x3⟩ (edge_in4 (by omega) (by omega) (by omega) hx3)
                  clear hsb
                  refine hK.out _ _ (D131.blk.two).1 (fun hHeld130 => ?_)
                  clear hK K hHeld127
                  try simp only [Act.put, List.setIfInBounds_toArray, List.set_cons_zero, List.set_cons_succ]
                  refine take_run 18 rfl (by kernel_rfl) (by rfl) (fun K hK => ?_)
                  refine wp_append_edges (.tmp 37) (.tmp 53) rfl (w.heap.size + 1 + 1) v2 es rfl D131.ownE _ _ _ rfl [⟨id2, x1, x2, x3⟩] hib (by have := HLN.out; simp; omega) (by have := D131.two.size; omega) ?_
                  intro v' w4 ho4 hg4 hb4
                  obtain ⟨n4, hn4⟩ : ∃ n, (es ++ [(⟨id2, x1, x2, x3⟩ : Edg)]).length = n := ⟨_, rfl⟩
                  obtain ⟨o4, c4, hv4⟩ := ho4.len
                  rw [hn4] at hv4
                  subst hv4
                  clear hn4 hb4
                  have P4 := D131.pushE hcb hy ho4 hg4
                  refine hK.out _ _ (P4.2.2.1.two).1 (fun hHeld132 => ?_)
                  clear hK K hHeld130
                  try simp only [Act.put, List.setIfInBounds_toArray, List.set_cons_zero, List.set_cons_succ]
                  refine take_yes 19 (some 55) (v := ?_) rfl (by kernel_rfl) (by kernel_rfl) (by kernel_rfl) (by kernel_rfl) (fun _ _ _ h => h) (by rfl) (by assumption) ?_ ?_
                  rotate_left
                  · (intro w' hSw; (try dsimp only at hSw); go_simp; try with_reducible rfl)
                  try simp only [Act.put, List.setIfInBounds_toArray, List.set_cons_zero, List.set_cons_succ]
                  refine take_run 20 rfl (by kernel_rfl) (by rfl) (fun K hK => ?_)
                  obtain ⟨q0, q1, q2, q3⟩ := P4.2.2.1.two
                  go_simp
                  clear q0 q1 q2 q3
                  have DZ := DG.set1 hcb P4
                  refine hK.out _ _ (DZ.blk.two).1 (fun hHeld133 => ?_)
                  clear hK K hHeld132
                  try simp only [Act.put, List.setIfInBounds_toArray, List.set_cons_zero, List.set_cons_succ]
                  refine wpAnyH_done (by kernel_rfl) ?_ _
                  have HDZ := Lib.hid DZ
                  clear hHeld133 DZ P4 hib ho4 hg4
                  go_wp2_with fail
                  go_roundw
                  case rel => exact ⟨id2, m - 1, .slice o4 n4 c4, es ++ [(⟨id2, x1, x2, x3⟩ : Edg)], by omega, by omega, by omega, by go_num, by go_num, by have := HLN.out; unfold Hid; simp; omega, HDZ.out⟩
                  case measure => simp [intOf]; omega
                · skip
                  go_simp
                  refine (pick_at [0, 0, 1, 2] B cb _ 4 _ D123.cur hn125 hl124 rfl (by omega) (by omega)).mono ?_
                  rintro en wq136 ⟨x3, hx3, rfl, hcq, htq⟩
                  have D135 := D123.turn hcb hcq htq
                  refine hK.out _ _ (D135.blk.two).1 (fun hHeld134 => ?_)
                  clear hK K hHeld122 hcq htq
                  try simp only [Act.put, List.setIfInBounds_toArray, List.set_cons_zero, List.set_cons_succ]
                  refine take_yes 16 (some 52) (v := ?_) rfl (by kernel_rfl) (by kernel_rfl) (by kernel_rfl) (by kernel_rfl) (fun _ _ _ h => h) (by rfl) (by assumption) ?_ ?_
                  rotate_left
                  · (intro w' hSw; (try dsimp only at hSw); go_simp; try with_reducible rfl)
                  try simp only [Act.put, List.setIfInBounds_toArray, List.set_cons_zero, List.set_cons_succ]
                  refine take_two 1 17 rfl rfl (by kernel_rfl) (by rfl) (by rfl) (fun K hK => ?_) (fun K hK => ?_)
                  · skip
                    obtain ⟨q0, q1, q2, q3⟩ := D135.blk.two
                    go_simp
                    clear q0 q1 q2 q3
                    refine hK.out _ _ (D135.blk.two).1 (fun hHeld137 => ?_)
                    clear hK K hHeld134
                    try simp only [Act.put, List.setIfInBounds_toArray, List.set_cons_zero, List.set_cons_succ]
                    refine take_run 17 rfl (by kernel_rfl) (by rfl) (fun K hK => ?_)
                    go_simp
                    try simp only [id0]
                    have hsb : Since wq136 (wq136.alloc (.cells #[.int .i64 id2, .int .i64 x1, .int .i64 x2, .int .i64 x3] 108)) := ((Since.refl wq136).alloc (.cells #[.int .i64 id2, .int .i64 x1, .int .i64 x2, .int .i64 x3] 108))
                    have D139 := D135.since hsb
                    have hib := lit1E wq136 ⟨id2, x1, x2, x3⟩ (edge_in4 (by omega) (by omega) (by omega) hx3)
                    clear hsb
                    refine hK.out _ _ (D139.blk.two).1 (fun hHeld138 => ?_)
                    clear hK K hHeld137
                    try simp only [Act.put, List.setIfInBounds_toArray, List.set_cons_zero, List.set_cons_succ]
                    refine take_run 18 rfl (by kernel_rfl) (by rfl) (fun K hK => ?_)
                    refine wp_append_edges (.tmp 37) (.tmp 53) rfl (w.heap.size + 1 + 1) v2 es rfl D139.ownE _ _ _ rfl [⟨id2, x1, x2, x3⟩] hib (by have := HLN.out; simp; omega) (by have := D139.two.size; omega) ?_
                    intro v' w4 ho4 hg4 hb4
                    obtain ⟨n4, hn4⟩ : ∃ n, (es ++ [(⟨id2, x1, x2, x3⟩ : Edg)]).length = n := ⟨_, rfl⟩
                    obtain ⟨o4, c4, hv4⟩ := ho4.len
                    rw [hn4] at hv4
                    subst hv4
                    clear hn4 hb4
                    have P4 := D139.pushE hcb hy ho4 hg4
                    refine hK.out _ _ (P4.2.2.1.two).1 (fun hHeld140 => ?_)
                    clear hK K hHeld138
                    try simp only [Act.put, List.setIfInBounds_toArray, List.set_cons_zero, List.set_cons_succ]
                    refine take_yes 19 (some 55) (v := ?_) rfl (by kernel_rfl) (by kernel_rfl) (by kernel_rfl) (by kernel_rfl) (fun _ _ _ h => h) (by rfl) (by assumption) ?_ ?_
                    rotate_left
                    · (intro w' hSw; (try dsimp only at hSw); go_simp; try with_reducible rfl)
                    try simp only [Act.put, List.setIfInBounds_toArray, List.set_cons_zero, List.set_cons_succ]
                    refine take_run 20 rfl (by kernel_rfl) (by rfl) (fun K hK => ?_)
                    obtain ⟨q0, q1, q2, q3⟩ := P4.2.2.1.two
                    go_simp
                    clear q0 q1 q2 q3
                    have DZ := DG.set1 hcb P4
                    refine hK.out _ _ (DZ.blk.two).1 (fun hHeld141 => ?_)
                    clear hK K hHeld140
                    try simp only [Act.put, List.setIfInBounds_toArray, List.set_cons_zero, List.set_cons_succ]
                    refine wpAnyH_done (by kernel_rfl) ?_ _
                    have HDZ := Lib.hid DZ
                    clear hHeld141 DZ P4 hib ho4 hg4
                    go_wp2_with fail
                    go_roundw
                    case rel => exact ⟨id2, m - 1, .slice o4 n4 c4, es ++ [(⟨id2, x1, x2, x3⟩ : Edg)], by omega, by omega, by omega, by go_num, by go_num, by have := HLN.out; unfold Hid; simp; omega, HDZ.out⟩
                    case measure => simp [intOf]; omega
                  · skip
                    go_simp
                    try simp only [id0]
                    have hsb : Since wq136 (wq136.alloc (.cells #[.int .i64 id2, .int .i64 x1, .int .i64 x2, .int .i64 x3] 108)) := ((Since.refl wq136).alloc (.cells #[.int .i64 id2, .int .i64 x1, .int .i64 x2, .int .i64 x3] 108))
                    have D143 := D135.since hsb
                    have hib := lit1E wq136 ⟨id2, x1, x2, x3⟩ (edge_in4 (by omega) (by omega) (by omega) hx3)
                    clear hsb
                    refine hK.out _ _ (D143.blk.two).1 (fun hHeld142 => ?_)
                    clear hK K hHeld134
                    try simp only [Act.put, List.setIfInBounds_toArray, List.set_cons_zero, List.set_cons_succ]
                    refine take_run 1 rfl (by kernel_rfl) (by rfl) (fun K hK => ?_)
                    obtain ⟨q0, q1, q2, q3⟩ := D143.blk.two
                    go_simp
                    clear q0 q1 q2 q3
                    refine hK.out _ _ (D143.blk.two).1 (fun hHeld144 => ?_)
                    clear hK K hHeld142
                    try simp only [Act.put, List.setIfInBounds_toArray, List.set_cons_zero, List.set_cons_succ]
                    refine take_run 18 rfl (by kernel_rfl) (by rfl) (fun K hK => ?_)
                    refine wp_append_edges (.tmp 37) (.tmp 53) rfl (w.heap.size + 1 + 1) v2 es rfl D143.ownE _ _ _ rfl [⟨id2, x1, x2, x3⟩] hib (by have := HLN.out; simp; omega) (by have := D143.two.size; omega) ?_
                    intro v' w4 ho4 hg4 hb4
                    obtain ⟨n4, hn4⟩ : ∃ n, (es ++ [(⟨id2, x1, x2, x3⟩ : Edg)]).length = n := ⟨_, rfl⟩
                    obtain ⟨o4, c4, hv4⟩ := ho4.len
                    rw [hn4] at hv4
                    subst hv4
                    clear hn4 hb4
                    have P4 := D143.pushE hcb hy ho4 hg4
                    refine hK.out _ _ (P4.2.2.1.two).1 (fun hHeld145 => ?_)
                    clear hK K hHeld144
                    try simp only [Act.put, List.setIfInBounds_toArray, List.set_cons_zero, List.set_cons_succ]
                    refine take_yes 19 (some 55) (v := ?_) rfl (by kernel_rfl) (by kernel_rfl) (by kernel_rfl) (by kernel_rfl) (fun _ _ _ h => h) (by rfl) (by assumption) ?_ ?_
                    rotate_left
                    · (intro w' hSw; (try dsimp only at hSw); go_simp; try with_reducible rfl)
                    try simp only [Act.put, List.setIfInBounds_toArray, List.set_cons_zero, List.set_cons_succ]
                    refine take_run 20 rfl (by kernel_rfl) (by rfl) (fun K hK => ?_)
                    obtain ⟨q0, q1, q2, q3⟩ := P4.2.2.1.two
                    go_simp
                    clear q0 q1 q2 q3
                    have DZ := DG.set1 hcb P4
                    refine hK.out _ _ (DZ.blk.two).1 (fun hHeld146 => ?_)
                    clear hK K hHeld145
                    try simp only [Act.put, List.setIfInBounds_toArray, List.set_cons_zero, List.set_cons_succ]
                    refine wpAnyH_done (by kernel_rfl) ?_ _
                    have HDZ := Lib.hid DZ
                    clear hHeld146 DZ P4 hib ho4 hg4
                    go_wp2_with fail
                    go_roundw
                    case rel => exact ⟨id2, m - 1, .slice o4 n4 c4, es ++ [(⟨id2, x1, x2, x3⟩ : Edg)], by omega, by omega, by omega, by go_num, by go_num, by have := HLN.out; unfold Hid; simp; omega, HDZ.out⟩
                    case measure => simp [intOf]; omega
            · skip
              go_simp
              have hsb : Since wq76 (wq76.alloc (.cells #[.int .i64 0, .int .i64 0, .int .i64 1, .int .i64 2] 3)) := ((Since.refl wq76).alloc (.cells #[.int .i64 0, .int .i64 0, .int .i64 1, .int .i64 2] 3))
              have D148 := D75.since hsb
              have hl149 : LitAt (wq76.alloc (.cells #[.int .i64 0, .int .i64 0, .int .i64 1, .int .i64 2] 3)) wq76.heap.size [0, 0, 1, 2] := LitAt.new wq76 [0, 0, 1, 2] _ rfl
              have hn150 : wq76.heap.size ≠ cb := by have := D75.cur.2.1; omega
              clear hsb
              refine hK.out _ _ (D148.blk.two).1 (fun hHeld147 => ?_)
              clear hK K hHeld74
              try simp only [Act.put, List.setIfInBounds_toArray, List.set_cons_zero, List.set_cons_succ]
              refine take_two 1 12 rfl rfl (by kernel_rfl) (by rfl) (by rfl) (fun K hK => ?_) (fun K hK => ?_)
              · skip
                obtain ⟨q0, q1, q2, q3⟩ := D148.blk.two
                go_simp
                clear q0 q1 q2 q3
                refine hK.out _ _ (D148.blk.two).1 (fun hHeld151 => ?_)
                clear hK K hHeld147
                try simp only [Act.put, List.setIfInBounds_toArray, List.set_cons_zero, List.set_cons_succ]
                refine take_run 12 rfl (by kernel_rfl) (by rfl) (fun K hK => ?_)
                go_simp
                refine (l1Below_any B cb n1 _ D148.cur (by omega) (by omega)).mono ?_
                rintro en wq154 ⟨x2, hx20, hx29, rfl, hcq, htq⟩
                have D153 := D148.turn hcb hcq htq
                have hl155 := hl149.grown htq (fun e => by injection e with e; exact hn150 e)
                refine hK.out _ _ (D153.blk.two).1 (fun hHeld152 => ?_)
                clear hK K hHeld151 hcq htq
                try simp only [Act.put, List.setIfInBounds_toArray, List.set_cons_zero, List.set_cons_succ]
                refine take_run 15 rfl (by kernel_rfl) (by rfl) (fun K hK => ?_)
                go_simp
                refine (pick_at [0, 0, 1, 2] B cb _ 4 _ D153.cur hn150 hl155 rfl (by omega) (by omega)).mono ?_
                rintro en wq158 ⟨x3, hx3, rfl, hcq, htq⟩
                have D157 := D153.turn hcb hcq htq
                refine hK.out _ _ (D157.blk.two).1 (fun hHeld156 => ?_)
                clear hK K hHeld152 hcq htq
                try simp only [Act.put, List.setIfInBounds_toArray, List.set_cons_zero, List.set_cons_succ]
                refine take_yes 16 (some 52) (v := ?_) rfl (by kernel_rfl) (by kernel_rfl) (by kernel_rfl) (by kernel_rfl) (fun _ _ _ h => h) (by rfl) (by assumption) ?_ ?_
                rotate_left
                · (intro w' hSw; (try dsimp only at hSw); go_simp; try with_reducible rfl)
                try simp only [Act.put, List.setIfInBounds_toArray, List.set_cons_zero, List.set_cons_succ]
                refine take_run 17 rfl (by kernel_rfl) (by rfl) (fun K hK => ?_)
                go_simp
                try simp only [id0]
                have hsb : Since wq158 (wq158.alloc (.cells #[.int .i64 id2, .int .i64 x1, .int .i64 x2, .int .i64 x3] 108)) := ((Since.refl wq158).alloc (.cells #[.int .i64 id2, .int .i64 x1, .int .i64 x2, .int .i64 x3] 108))
                have D160 := D157.since hsb
                have hib := lit1E wq158 ⟨id2, x1, x2, x3⟩ (edge_in4 (by omega) (by omega) (by omega) hx3)
                clear hsb
                refine hK.out _ _ (D160.blk.two).1 (fun hHeld159 => ?_)
                clear hK K hHeld156
                try simp only [Act.put, List.setIfInBounds_toArray, List.set_cons_zero, List.set_cons_succ]
                refine take_run 18 rfl (by kernel_rfl) (by rfl) (fun K hK => ?_)
                refine wp_append_edges (.tmp 37) (.tmp 53) rfl (w.heap.size + 1 + 1) v2 es rfl D160.ownE _ _ _ rfl [⟨id2, x1, x2, x3⟩] hib (by have := HLN.out; simp; omega) (by have := D160.two.size; omega) ?_
                intro v' w4 ho4 hg4 hb4
                obtain ⟨n4, hn4⟩ : ∃ n, (es ++ [(⟨id2, x1, x2, x3⟩ : Edg)]).length = n := ⟨_, rfl⟩
                obtain ⟨o4, c4, hv4⟩ := ho4.len
                rw [hn4] at hv4
                subst hv4
                clear hn4 hb4
                have P4 := D160.pushE hcb hy ho4 hg4
                refine hK.out _ _ (P4.2.2.1.two).1 (fun hHeld161 => ?_)
                clear hK K hHeld159
                try simp only [Act.put, List.setIfInBounds_toArray, List.set_cons_zero, List.set_cons_succ]
                refine take_yes 19 (some 55) (v := ?_) rfl (by kernel_rfl) (by kernel_rfl) (by kernel_rfl) (by kernel_rfl) (fun _ _ _ h => h) (by rfl) (by assumption) ?_ ?_
                rotate_left
                · (intro w' hSw; (try dsimp only at hSw); go_simp; try with_reducible rfl)
                try simp only [Act.put, List.setIfInBounds_toArray, List.set_cons_zero, List.set_cons_succ]
                refine take_run 20 rfl (by kernel_rfl) (by rfl) (fun K hK => ?_)
                obtain ⟨q0, q1, q2, q3⟩ := P4.2.2.1.two
                go_simp
                clear q0 q1 q2 q3
                have DZ := DG.set1 hcb P4
                refine hK.out _ _ (DZ.blk.two).1 (fun hHeld162 => ?_)
                clear hK K hHeld161
                try simp only [Act.put, List.setIfInBounds_toArray, List.set_cons_zero, List.set_cons_succ]
                refine wpAnyH_done (by kernel_rfl) ?_ _
                have HDZ := Lib.hid DZ
                clear hHeld162 DZ P4 hib ho4 hg4
                go_wp2_with fail
                go_roundw
                case rel => exact ⟨id2, m - 1, .slice o4 n4 c4, es ++ [(⟨id2, x1, x2, x3⟩ : Edg)], by omega, by omega, by omega, by go_num, by go_num, by have := HLN.out; unfold Hid; simp; omega, HDZ.out⟩
                case measure => simp [intOf]; omega
              · skip
                go_simp
                refine (l1Below_any B cb n1 _ D148.cur (by omega) (by omega)).mono ?_
                rintro en wq165 ⟨x2, hx20, hx29, rfl, hcq, htq⟩
                have D164 := D148.turn hcb hcq htq
                have hl166 := hl149.grown htq (fun e => by injection e with e; exact hn150 e)
                refine hK.out _ _ (D164.blk.two).1 (fun hHeld163 => ?_)
                clear hK K hHeld147 hcq htq
                try simp only [Act.put, List.setIfInBounds_toArray, List.set_cons_zero, List.set_cons_succ]
                refine take_two 1 15 rfl rfl (by kernel_rfl) (by rfl) (by rfl) (fun K hK => ?_) (fun K hK => ?_)
                · skip
                  obtain ⟨q0, q1, q2, q3⟩ := D164.blk.two
                  go_simp
                  clear q0 q1 q2 q3
                  refine hK.out _ _ (D164.blk.two).1 (fun hHeld167 => ?_)
                  clear hK K hHeld163
                  try simp only [Act.put, List.setIfInBounds_toArray, List.set_cons_zero, List.set_cons_succ]
                  refine take_run 15 rfl (by kernel_rfl) (by rfl) (fun K hK => ?_)
                  go_simp
                  refine (pick_at [0, 0, 1, 2] B cb _ 4 _ D164.cur hn150 hl166 rfl (by omega) (by omega)).mono ?_
                  rintro en wq170 ⟨x3, hx3, rfl, hcq, htq⟩
                  have D169 := D164.turn hcb hcq htq
                  refine hK.out _ _ (D169.blk.two).1 (fun hHeld168 => ?_)
                  clear hK K hHeld167 hcq htq
                  try simp only [Act.put, List.setIfInBounds_toArray, List.set_cons_zero, List.set_cons_succ]
                  refine take_yes 16 (some 52) (v := ?_) rfl (by kernel_rfl) (by kernel_rfl) (by kernel_rfl) (by kernel_rfl) (fun _ _ _ h => h) (by rfl) (by assumption) ?_ ?_
                  rotate_left
                  · (intro w' hSw; (try dsimp only at hSw); go_simp; try with_reducible rfl)
                  try simp only [Act.put, List.setIfInBounds_toArray, List.set_cons_zero, List.set_cons_succ]
                  refine take_run 17 rfl (by kernel_rfl) (by rfl) (fun K hK => ?_)
                  go_simp
                  try simp only [id0]
                  have hsb : Since wq170 (wq170.alloc (.cells #[.int .i64 id2, .int .i64 x1, .int .i64 x2, .int .i64 x3] 108)) := ((Since.refl wq170).alloc (.cells #[.int .i64 id2, .int .i64 x1, .int .i64 x2, .int .i64 x3] 108))
                  have D172 := D169.since hsb
                  have hib := lit1E wq170 ⟨id2, x1, x2, x3⟩ (edge_in4 (by omega) (by omega) (by omega) hx3)
                  clear hsb
                  refine hK.out _ _ (D172.blk.two).1 (fun hHeld171 => ?_)
                  clear hK K hHeld168
                  try simp only [Act.put, List.setIfInBounds_toArray, List.set_cons_zero, List.set_cons_succ]
                  refine take_run 18 rfl (by kernel_rfl) (by rfl) (fun K hK => ?_)
                  refine wp_append_edges (.tmp 37) (.tmp 53) rfl (w.heap.size + 1 + 1) v2 es rfl D172.ownE _ _ _ rfl [⟨id2, x1, x2, x3⟩] hib (by have := HLN.out; simp; omega) (by have := D172.two.size; omega) ?_
                  intro v' w4 ho4 hg4 hb4
                  obtain ⟨n4, hn4⟩ : ∃ n, (es ++ [(⟨id2, x1, x2, x3⟩ : Edg)]).length = n := ⟨_, rfl⟩
                  obtain ⟨o4, c4, hv4⟩ := ho4.len
                  rw [hn4] at hv4
                  subst hv4
                  clear hn4 hb4
                  have P4 := D172.pushE hcb hy ho4 hg4
                  refine hK.out _ _ (P4.2.2.1.two).1 (fun hHeld173 => ?_)
                  clear hK K hHeld171
                  try simp only [Act.put, List.setIfInBounds_toArray, List.set_cons_zero, List.set_cons_succ]
                  refine take_yes 19 (some 55) (v := ?_) rfl (by kernel_rfl) (by kernel_rfl) (by kernel_rfl) (by kernel_rfl) (fun _ _ _ h => h) (by rfl) (by assumption) ?_ ?_
                  rotate_left
                  · (intro w' hSw; (try dsimp only at hSw); go_simp; try with_reducible rfl)
                  try simp only [Act.put, List.setIfInBounds_toArray, List.set_cons_zero, List.set_cons_succ]
                  refine take_run 20 rfl (by kernel_rfl) (by rfl) (fun K hK => ?_)
                  obtain ⟨q0, q1, q2, q3⟩ := P4.2.2.1.two
                  go_simp
                  clear q0 q1 q2 q3
                  have DZ := DG.set1 hcb P4
                  refine hK.out _ _ (DZ.blk.two).1 (fun hHeld174 => ?_)
                  clear hK K hHeld173
                  try simp only [Act.put, List.setIfInBounds_toArray, List.set_cons_zero, List.set_cons_succ]
                  refine wpAnyH_done (by kernel_rfl) ?_ _
                  have HDZ := Lib.hid DZ
                  clear hHeld174 DZ P4 hib ho4 hg4
                  go_wp2_with fail
                  go_roundw
                  case rel => exact ⟨id2, m - 1, .slice o4 n4 c4, es ++ [(⟨id2, x1, x2, x3⟩ : Edg)], by omega, by omega, by omega, by go_num, by go_num, by have := HLN.out; unfold Hid; simp; omega, HDZ.out⟩
                  case measure => simp [intOf]; omega
                · skip
                  go_simp
                  refine (pick_at [0, 0, 1, 2] B cb _ 4 _ D164.cur hn150 hl166 rfl (by omega) (by omega)).mono ?_
                  rintro en wq177 ⟨x3, hx3, rfl, hcq, htq⟩
                  have D176 := D164.turn hcb hcq htq
                  refine hK.out _ _ (D176.blk.two).1 (fun hHeld175 => ?_)
                  clear hK K hHeld163 hcq htq
                  try simp only [Act.put, List.setIfInBounds_toArray, List.set_cons_zero, List.set_cons_succ]
                  refine take_yes 16 (some 52) (v := ?_) rfl (by kernel_rfl) (by kernel_rfl) (by kernel_rfl) (by kernel_rfl) (fun _ _ _ h => h) (by rfl) (by assumption) ?_ ?_
                  rotate_left
                  · (intro w' hSw; (try dsimp only at hSw); go_simp; try with_reducible rfl)
                  try simp only [Act.put, List.setIfInBounds_toArray, List.set_cons_zero, List.set_cons_succ]
                  refine take_two 1 17 rfl rfl (by kernel_rfl) (by rfl) (by rfl) (fun K hK => ?_) (fun K hK => ?_)
                  · skip
                    obtain ⟨q0, q1, q2, q3⟩ := D176.blk.two
                    go_simp
                    clear q0 q1 q2 q3
                    refine hK.out _ _ (D176.blk.two).1 (fun hHeld178 => ?_)
                    clear hK K hHeld175
                    try simp only [Act.put, List.setIfInBounds_toArray, List.set_cons_zero, List.set_cons_succ]
                    refine take_run 17 rfl (by kernel_rfl) (by rfl) (fun K hK => ?_)
                    go_simp
                    try simp only [id0]
                    have hsb : Since wq177 (wq177.alloc (.cells #[.int .i64 id2, .int .i64 x1, .int .i64 x2, .int .i64 x3] 108)) := ((Since.refl wq177).alloc (.cells #[.int .i64 id2, .int .i64 x1, .int .i64 x2, .int .i64 x3] 108))
                    have D180 := D176.since hsb
                    have hib := lit1E wq177 ⟨id2, x1, x2, x3⟩ (edge_in4 (by omega) (by omega) (by omega) hx3)
                    clear hsb
                    refine hK.out _ _ (D180.blk.two).1 (fun hHeld179 => ?_)
                    clear hK K hHeld178
                    try simp only [Act.put, List.setIfInBounds_toArray, List.set_cons_zero, List.set_cons_succ]
                    refine take_run 18 rfl (by kernel_rfl) (by rfl) (fun K hK => ?_)
                    refine wp_append_edges (.tmp 37) (.tmp 53) rfl (w.heap.size + 1 + 1) v2 es rfl D180.ownE _ _ _ rfl [⟨id2, x1, x2, x3⟩] hib (by have := HLN.out; simp; omega) (by have := D180.two.size; omega) ?_
                    intro v' w4 ho4 hg4 hb4
                    obtain ⟨n4, hn4⟩ : ∃ n, (es ++ [(⟨id2, x1, x2, x3⟩ : Edg)]).length = n := ⟨_, rfl⟩
                    obtain ⟨o4, c4, hv4⟩ := ho4.len
                    rw [hn4] at hv4
                    subst hv4
                    clear hn4 hb4
                    have P4 := D180.pushE hcb hy ho4 hg4
                    refine hK.out _ _ (P4.2.2.1.two).1 (fun hHeld181 => ?_)
                    clear hK K hHeld179
                    try simp only [Act.put, List.setIfInBounds_toArray, List.set_cons_zero, List.set_cons_succ]
                    refine take_yes 19 (some 55) (v := ?_) rfl (by kernel_rfl) (by kernel_rfl) (by kernel_rfl) (by kernel_rfl) (fun _ _ _ h => h) (by rfl) (by assumption) ?_ ?_
                    rotate_left
                    · (intro w' hSw; (try dsimp only at hSw); go_simp; try with_reducible rfl)
                    try simp only [Act.put, List.setIfInBounds_toArray, List.set_cons_zero, List.set_cons_succ]
                    refine take_run 20 rfl (by kernel_rfl) (by rfl) (fun K hK => ?_)
                    obtain ⟨q0, q1, q2, q3⟩ := P4.2.2.1.two
                    go_simp
                    clear q0 q1 q2 q3
                    have DZ := DG.set1 hcb P4
                    refine hK.out _ _ (DZ.blk.two).1 (fun hHeld182 => ?_)
                    clear hK K hHeld181
                    try simp only [Act.put, List.setIfInBounds_toArray, List.set_cons_zero, List.set_cons_succ]
                    refine wpAnyH_done (by kernel_rfl) ?_ _
                    have HDZ := Lib.hid DZ
                    clear hHeld182 DZ P4 hib ho4 hg4
                    go_wp2_with fail
                    go_roundw
                    case rel => exact ⟨id2, m - 1, .slice o4 n4 c4, es ++ [(⟨id2, x1, x2, x3⟩ : Edg)], by omega, by omega, by omega, by go_num, by go_num, by have := HLN.out; unfold Hid; simp; omega, HDZ.out⟩
                    case measure => simp [intOf]; omega
                  · skip
                    go_simp
                    try simp only [id0]
                    have hsb : Since wq177 (wq177.alloc (.cells #[.int .i64 id2, .int .i64 x1, .int .i64 x2, .int .i64 x3] 108)) := ((Since.refl wq177).alloc (.cells #[.int .i64 id2, .int .i64 x1, .int .i64 x2, .int .i64 x3] 108))
                    have D184 := D176.since hsb
                    have hib := lit1E wq177 ⟨id2, x1, x2, x3⟩ (edge_in4 (by omega) (by omega) (by omega) hx3)
                    clear hsb
                    refine hK.out _ _ (D184.blk.two).1 (fun hHeld183 => ?_)
                    clear hK K hHeld175
                    try simp only [Act.put, List.setIfInBounds_toArray, List.set_cons_zero, List.set_cons_succ]
                    refine take_run 1 rfl (by kernel_rfl) (by rfl) (fun K hK => ?_)
                    obtain ⟨q0, q1, q2, q3⟩ := D184.blk.two
                    go_simp
                    clear q0 q1 q2 q3
                    refine hK.out _ _ (D184.blk.two).1 (fun hHeld185 => ?_)
                    clear hK K hHeld183
                    try simp only [Act.put, List.setIfInBounds_toArray, List.set_cons_zero, List.set_cons_succ]
                    refine take_run 18 rfl (by kernel_rfl) (by rfl) (fun K hK => ?_)
                    refine wp_append_edges (.tmp 37) (.tmp 53) rfl (w.heap.size + 1 + 1) v2 es rfl D184.ownE _ _ _ rfl [⟨id2, x1, x2, x3⟩] hib (by have := HLN.out; simp; omega) (by have := D184.two.size; omega) ?_
                    intro v' w4 ho4 hg4 hb4
                    obtain ⟨n4, hn4⟩ : ∃ n, (es ++ [(⟨id2, x1, x2, x3⟩ : Edg)]).length = n := ⟨_, rfl⟩
                    obtain ⟨o4, c4, hv4⟩ := ho4.len
                    rw [hn4] at hv4
                    subst hv4
                    clear hn4 hb4
                    have P4 := D184.pushE hcb hy ho4 hg4
                    refine hK.out _ _ (P4.2.2.1.two).1 (fun hHeld186 => ?_)
                    clear hK K hHeld185
                    try simp only [Act.put, List.setIfInBounds_toArray, List.set_cons_zero, List.set_cons_succ]
                    refine take_yes 19 (some 55) (v := ?_) rfl (by kernel_rfl) (by kernel_rfl) (by kernel_rfl) (by kernel_rfl) (fun _ _ _ h => h) (by rfl) (by assumption) ?_ ?_
                    rotate_left
                    · (intro w' hSw; (try dsimp only at hSw); go_simp; try with_reducible rfl)
                    try simp only [Act.put, List.setIfInBounds_toArray, List.set_cons_zero, List.set_cons_succ]
                    refine take_run 20 rfl (by kernel_rfl) (by rfl) (fun K hK => ?_)
                    obtain ⟨q0, q1, q2, q3⟩ := P4.2.2.1.two
                    go_simp
                    clear q0 q1 q2 q3
                    have DZ := DG.set1 hcb P4
                    refine hK.out _ _ (DZ.blk.two).1 (fun hHeld187 => ?_)
                    clear hK K hHeld186
                    try simp only [Act.put, List.setIfInBounds_toArray, List.set_cons_zero, List.set_cons_succ]
                    refine wpAnyH_done (by kernel_rfl) ?_ _
                    have HDZ := Lib.hid DZ
                    clear hHeld187 DZ P4 hib ho4 hg4
                    go_wp2_with fail
                    go_roundw
                    case rel => exact ⟨id2, m - 1, .slice o4 n4 c4, es ++ [(⟨id2, x1, x2, x3⟩ : Edg)], by omega, by omega, by omega, by go_num, by go_num, by have := HLN.out; unfold Hid; simp; omega, HDZ.out⟩
                    case measure => simp [intOf]; omega
          · skip
            go_simp
            have hsb : Since wr (wr.alloc (.cells #[.int .i64 0, .int .i64 0, .int .i64 1, .int .i64 2] 3)).drew := ((Since.refl wr).alloc (.cells #[.int .i64 0, .int .i64 0, .int .i64 1, .int .i64 2] 3)).drew
            have D189 := DW.since hsb
            have hl190 : LitAt (wr.alloc (.cells #[.int .i64 0, .int .i64 0, .int .i64 1, .int .i64 2] 3)).drew wr.heap.size [0, 0, 1, 2] := (LitAt.new wr [0, 0, 1, 2] _ rfl).grown (grown_since (Since.refl (wr.alloc (.cells #[.int .i64 0, .int .i64 0, .int .i64 1, .int .i64 2] 3))).drew) (by simp)
            have hn191 : wr.heap.size ≠ cb := by have := DW.cur.2.1; omega
            clear hsb
            refine hK.out _ _ (D189.blk.two).1 (fun hHeld188 => ?_)
            clear hK K hHeld
            try simp only [Act.put, List.setIfInBounds_toArray, List.set_cons_zero, List.set_cons_succ]
            refine take_two 1 7 rfl rfl (by kernel_rfl) (by rfl) (by rfl) (fun K hK => ?_) (fun K hK => ?_)
            · skip
              obtain ⟨q0, q1, q2, q3⟩ := D189.blk.two
              go_simp
              clear q0 q1 q2 q3
              refine hK.out _ _ (D189.blk.two).1 (fun hHeld192 => ?_)
              clear hK K hHeld188
              try simp only [Act.put, List.setIfInBounds_toArray, List.set_cons_zero, List.set_cons_succ]
              refine take_run 7 rfl (by kernel_rfl) (by rfl) (fun K hK => ?_)
              go_simp
              refine (l1Below_any B cb n1 _ D189.cur (by omega) (by omega)).mono ?_
              rintro en wq195 ⟨x1, hx10, hx19, rfl, hcq, htq⟩
              have D194 := D189.turn hcb hcq htq
              have hl196 := hl190.grown htq (fun e => by injection e with e; exact hn191 e)
              refine hK.out _ _ (D194.blk.two).1 (fun hHeld193 => ?_)
              clear hK K hHeld192 hcq htq
              try simp only [Act.put, List.setIfInBounds_toArray, List.set_cons_zero, List.set_cons_succ]
              refine take_run 12 rfl (by kernel_rfl) (by rfl) (fun K hK => ?_)
              go_simp
              refine (l1Below_any B cb n1 _ D194.cur (by omega) (by omega)).mono ?_
              rintro en wq199 ⟨x2, hx20, hx29, rfl, hcq, htq⟩
              have D198 := D194.turn hcb hcq htq
              have hl200 := hl196.grown htq (fun e => by injection e with e; exact hn191 e)
              refine hK.out _ _ (D198.blk.two).1 (fun hHeld197 => ?_)
              clear hK K hHeld193 hcq htq
              try simp only [Act.put, List.setIfInBounds_toArray, List.set_cons_zero, List.set_cons_succ]
              refine take_run 15 rfl (by kernel_rfl) (by rfl) (fun K hK => ?_)
              go_simp
              refine (pick_at [0, 0, 1, 2] B cb _ 4 _ D198.cur hn191 hl200 rfl (by omega) (by omega)).mono ?_
              rintro en wq203 ⟨x3, hx3, rfl, hcq, htq⟩
              have D202 := D198.turn hcb hcq htq
              refine hK.out _ _ (D202.blk.two).1 (fun hHeld201 => ?_)
              clear hK K hHeld197 hcq htq
              try simp only [Act.put, List.setIfInBounds_toArray, List.set_cons_zero, List.set_cons_succ]
              refine take_yes 16 (some 52) (v := ?_) rfl (by kernel_rfl) (by kernel_rfl) (by kernel_rfl) (by kernel_rfl) (fun _ _ _ h => h) (by rfl) (by assumption) ?_ ?_
              rotate_left
              · (intro w' hSw; (try dsimp only at hSw); go_simp; try with_reducible rfl)
              try simp only [Act.put, List.setIfInBounds_toArray, List.set_cons_zero, List.set_cons_succ]
              refine take_run 17 rfl (by kernel_rfl) (by rfl) (fun K hK => ?_)
              go_simp
              try simp only [id0]
              have hsb : Since wq203 (wq203.alloc (.cells #[.int .i64 id2, .int .i64 x1, .int .i64 x2, .int .i64 x3] 108)) := ((Since.refl wq203).alloc (.cells #[.int .i64 id2, .int .i64 x1, .int .i64 x2, .int .i64 x3] 108))
              have D205 := D202.since hsb
              have hib := lit1E wq203 ⟨id2, x1, x2, x3⟩ (edge_in4 (by omega) (by omega) (by omega) hx3)
              clear hsb
              refine hK.out _ _ (D205.blk.two).1 (fun hHeld204 => ?_)
              clear hK K hHeld201
              try simp only [Act.put, List.setIfInBounds_toArray, List.set_cons_zero, List.set_cons_succ]
              refine take_run 18 rfl (by kernel_rfl) (by rfl) (fun K hK => ?_)
              refine wp_append_edges (.tmp 37) (.tmp 53) rfl (w.heap.size + 1 + 1) v2 es rfl D205.ownE _ _ _ rfl [⟨id2, x1, x2, x3⟩] hib (by have := HLN.out; simp; omega) (by have := D205.two.size; omega) ?_
              intro v' w4 ho4 hg4 hb4
              obtain ⟨n4, hn4⟩ : ∃ n, (es ++ [(⟨id2, x1, x2, x3⟩ : Edg)]).length = n := ⟨_, rfl⟩
              obtain ⟨o4, c4, hv4⟩ := ho4.len
              rw [hn4] at hv4
              subst hv4
              clear hn4 hb4
              have P4 := D205.pushE hcb hy ho4 hg4
              refine hK.out _ _ (P4.2.2.1.two).1 (fun hHeld206 => ?_)
              clear hK K hHeld204
              try simp only [Act.put, List.setIfInBounds_toArray, List.set_cons_zero, List.set_cons_succ]
              refine take_yes 19 (some 55) (v := ?_) rfl (by kernel_rfl) (by kernel_rfl) (by kernel_rfl) (by kernel_rfl) (fun _ _ _ h => h) (by rfl) (by assumption) ?_ ?_
              rotate_left
              · (intro w' hSw; (try dsimp only at hSw); go_simp; try with_reducible rfl)
              try simp only [Act.put, List.setIfInBounds_toArray, List.set_cons_zero, List.set_cons_succ]
              refine take_run 20 rfl (by kernel_rfl) (by rfl) (fun K hK => ?_)
              obtain ⟨q0, q1, q2, q3⟩ := P4.2.2.1.two
              go_simp
              clear q0 q1 q2 q3
              have DZ := DG.set1 hcb P4
              refine hK.out _ _ (DZ.blk.two).1 (fun hHeld207 => ?_)
              clear hK K hHeld206
              try simp only [Act.put, List.setIfInBounds_toArray, List.set_cons_zero, List.set_cons_succ]
              refine wpAnyH_done (by kernel_rfl) ?_ _
              have HDZ := Lib.hid DZ
              clear hHeld207 DZ P4 hib ho4 hg4
              go_wp2_with fail
              go_roundw
              case rel => exact ⟨id2, m - 1, .slice o4 n4 c4, es ++ [(⟨id2, x1, x2, x3⟩ : Edg)], by omega, by omega, by omega, by go_num, by go_num, by have := HLN.out; unfold Hid; simp; omega, HDZ.out⟩
              case measure => simp [intOf]; omega
            · skip
              go_simp
              refine (l1Below_any B cb n1 _ D189.cur (by omega) (by omega)).mono ?_
              rintro en wq210 ⟨x1, hx10, hx19, rfl, hcq, htq⟩
              have D209 := D189.turn hcb hcq htq
              have hl211 := hl190.grown htq (fun e => by injection e with e; exact hn191 e)
              refine hK.out _ _ (D209.blk.two).1 (fun hHeld208 => ?_)
              clear hK K hHeld188 hcq htq
              try simp only [Act.put, List.setIfInBounds_toArray, List.set_cons_zero, List.set_cons_succ]
              refine take_two 1 12 rfl rfl (by kernel_rfl) (by rfl) (by rfl) (fun K hK => ?_) (fun K hK => ?_)
              · skip
                obtain ⟨q0, q1, q2, q3⟩ := D209.blk.two
                go_simp
                clear q0 q1 q2 q3
                refine hK.out _ _ (D209.blk.two).1 (fun hHeld212 => ?_)
                clear hK K hHeld208
                try simp only [Act.put, List.setIfInBounds_toArray, List.set_cons_zero, List.set_cons_succ]
                refine take_run 12 rfl (by kernel_rfl) (by rfl) (fun K hK => ?_)
                go_simp
                refine (l1Below_any B cb n1 _ D209.cur (by omega) (by omega)).mono ?_
                rintro en wq215 ⟨x2, hx20, hx29, rfl, hcq, htq⟩
                have D214 := D209.turn hcb hcq htq
                have hl216 := hl211.grown htq (fun e => by injection e with e; exact hn191 e)
                refine hK.out _ _ (D214.blk.two).1 (fun hHeld213 => ?_)
                clear hK K hHeld212 hcq htq
                try simp only [Act.put, List.setIfInBounds_toArray, List.set_cons_zero, List.set_cons_succ]
                refine take_run 15 rfl (by kernel_rfl) (by rfl) (fun K hK => ?_)
                go_simp
                refine (pick_at [0, 0, 1, 2] B cb _ 4 _ D214.cur hn191 hl216 rfl (by omega) (by omega)).mono ?_
                rintro en wq219 ⟨x3, hx3, rfl, hcq, htq⟩
                have D218 := D214.turn hcb hcq htq
                refine hK.out _ _ (D218.blk.two).1 (fun hHeld217 => ?_)
                clear hK K hHeld213 hcq htq
                try simp only [Act.put, List.setIfInBounds_toArray, List.set_cons_zero, List.set_cons_succ]
                refine take_yes 16 (some 52) (v := ?_) rfl (by kernel_rfl) (by kernel_rfl) (by kernel_rfl) (by kernel_rfl) (fun _ _ _ h => h) (by rfl) (by assumption) ?_ ?_
                rotate_left
                · (intro w' hSw; (try dsimp only at hSw); go_simp; try with_reducible rfl)
                try simp only [Act.put, List.setIfInBounds_toArray, List.set_cons_zero, List.set_cons_succ]
                refine take_run 17 rfl (by kernel_rfl) (by rfl) (fun K hK => ?_)
                go_simp
                try simp only [id0]
                have hsb : Since wq219 (wq219.alloc (.cells #[.int .i64 id2, .int .i64 x1, .int .i64 x2, .int .i64 x3] 108)) := ((Since.refl wq219).alloc (.cells #[.int .i64 id2, .int .i64 x1, .int .i64 x2, .int .i64 x3] 108))
                have D221 := D218.since hsb
                have hib := lit1E wq219 ⟨id2, x1, x2, x3⟩ (edge_in4 (by omega) (by omega) (by omega) hx3)
                clear hsb
                refine hK.out _ _ (D221.blk.two).1 (fun hHeld220 => ?_)
                clear hK K hHeld217
                try simp only [Act.put, List.setIfInBounds_toArray, List.set_cons_zero, List.set_cons_succ]
                refine take_run 18 rfl (by kernel_rfl) (by rfl) (fun K hK => ?_)
                refine wp_append_edges (.tmp 37) (.tmp 53) rfl (w.heap.size + 1 + 1) v2 es rfl D221.ownE _ _ _ rfl [⟨id2, x1, x2, x3⟩] hib (by have := HLN.out; simp; omega) (by have := D221.two.size; omega) ?_
                intro v' w4 ho4 hg4 hb4
                obtain ⟨n4, hn4⟩ : ∃ n, (es ++ [(⟨id2, x1, x2, x3⟩ : Edg)]).length = n := ⟨_, rfl⟩
                obtain ⟨o4, c4, hv4⟩ := ho4.len
                rw [hn4] at hv4
                subst hv4
                clear hn4 hb4
                have P4 := D221.pushE hcb hy ho4 hg4
                refine hK.out _ _ (P4.2.2.1.two).1 (fun hHeld222 => ?_)
                clear hK K hHeld220
                try simp only [Act.put, List.setIfInBounds_toArray, List.set_cons_zero, List.set_cons_succ]
                refine take_yes 19 (some 55) (v := ?_) rfl (by kernel_rfl) (by kernel_rfl) (by kernel_rfl) (by kernel_rfl) (fun _ _ _ h => h) (by rfl) (by assumption) ?_ ?_
                rotate_left
                · (intro w' hSw; (try dsimp only at hSw); go_simp; try with_reducible rfl)
                try simp only [Act.put, List.setIfInBounds_toArray, List.set_cons_zero, List.set_cons_succ]
                refine take_run 20 rfl (by kernel_rfl) (by rfl) (fun K hK => ?_)
                obtain ⟨q0, q1, q2, q3⟩ := P4.2.2.1.two
                go_simp
                clear q0 q1 q2 q3
                have DZ := DG.set1 hcb P4
                refine hK.out _ _ (DZ.blk.two).1 (fun hHeld223 => ?_)
                clear hK K hHeld222
                try simp only [Act.put, List.setIfInBounds_toArray, List.set_cons_zero, List.set_cons_succ]
                refine wpAnyH_done (by kernel_rfl) ?_ _
                have HDZ := Lib.hid DZ
                clear hHeld223 DZ P4 hib ho4 hg4
                go_wp2_with fail
                go_roundw
                case rel => exact ⟨id2, m - 1, .slice o4 n4 c4, es ++ [(⟨id2, x1, x2, x3⟩ : Edg)], by omega, by omega, by omega, by go_num, by go_num, by have := HLN.out; unfold Hid; simp; omega, HDZ.out⟩
                case measure => simp [intOf]; omega
              · skip
                go_simp
                refine (l1Below_any B cb n1 _ D209.cur (by omega) (by omega)).mono ?_
                rintro en wq226 ⟨x2, hx20, hx29, rfl, hcq, htq⟩
                have D225 := D209.turn hcb hcq htq
                have hl227 := hl211.grown htq (fun e => by injection e with e; exact hn191 e)
                refine hK.out _ _ (D225.blk.two).1 (fun hHeld224 => ?_)
                clear hK K hHeld208 hcq htq
                try simp only [Act.put, List.setIfInBounds_toArray, List.set_cons_zero, List.set_cons_succ]
                refine take_two 1 15 rfl rfl (by kernel_rfl) (by rfl) (by rfl) (fun K hK => ?_) (fun K hK => ?_)
                · skip
                  obtain ⟨q0, q1, q2, q3⟩ := D225.blk.two
                  go_simp
                  clear q0 q1 q2 q3
                  refine hK.out _ _ (D225.blk.two).1 (fun hHeld228 => ?_)
                  clear hK K hHeld224
                  try simp only [Act.put, List.setIfInBounds_toArray, List.set_cons_zero, List.set_cons_succ]
                  refine take_run 15 rfl (by kernel_rfl) (by rfl) (fun K hK => ?_)
                  go_simp
                  refine (pick_at [0, 0, 1, 2] B cb _ 4 _ D225.cur hn191 hl227 rfl (by omega) (by omega)).mono ?_
                  rintro en wq231 ⟨x3, hx3, rfl, hcq, htq⟩
                  have D230 := D225.turn hcb hcq htq
                  refine hK.out _ _ (D230.blk.two).1 (fun hHeld229 => ?_)
                  clear hK K hHeld228 hcq htq
                  try simp only [Act.put, List.setIfInBounds_toArray, List.set_cons_zero, List.set_cons_succ]
                  refine take_yes 16 (some 52) (v := ?_) rfl (by kernel_rfl) (by kernel_rfl) (by kernel_rfl) (by kernel_rfl) (fun _ _ _ h => h) (by rfl) (by assumption) ?_ ?_
                  rotate_left
                  · (intro w' hSw; (try dsimp only at hSw); go_simp; try with_reducible rfl)
                  try simp only [Act.put, List.setIfInBounds_toArray, List.set_cons_zero, List.set_cons_succ]
                  refine take_run 17 rfl (by kernel_rfl) (by rfl) (fun K hK => ?_)
                  go_simp
                  try simp only [id0]
                  have hsb : Since wq231 (wq231.alloc (.cells #[.int .i64 id2, .int .i64 x1, .int .i64 x2, .int .i64 x3] 108)) := ((Since.refl wq231).alloc (.cells #[.int .i64 id2, .int .i64 x1, .int .i64 x2, .int .i64 x3] 108))
                  have D233 := D230.since hsb
                  have hib := lit1E wq231 ⟨id2, x1, x2, x3⟩ (edge_in4 (by omega) (by omega) (by omega) hx3)
                  clear hsb
                  refine hK.out _ _ (D233.blk.two).1 (fun hHeld232 => ?_)
                  clear hK K hHeld229
                  try simp only [Act.put, List.setIfInBounds_toArray, List.set_cons_zero, List.set_cons_succ]
                  refine take_run 18 rfl (by kernel_rfl) (by rfl) (fun K hK => ?_)
                  refine wp_append_edges (.tmp 37) (.tmp 53) rfl (w.heap.size + 1 + 1) v2 es rfl D233.ownE _ _ _ rfl [⟨id2, x1, x2, x3⟩] hib (by have := HLN.out; simp; omega) (by have := D233.two.size; omega) ?_
                  intro v' w4 ho4 hg4 hb4
                  obtain ⟨n4, hn4⟩ : ∃ n, (es ++ [(⟨id2, x1, x2, x3⟩ : Edg)]).length = n := ⟨_, rfl⟩
                  obtain ⟨o4, c4, hv4⟩ := ho4.len
                  rw [hn4] at hv4
                  subst hv4
                  clear hn4 hb4
                  have P4 := D233.pushE hcb hy ho4 hg4
                  refine hK.out _ _ (P4.2.2.1.two).1 (fun hHeld234 => ?_)
                  clear hK K hHeld232
                  try simp only [Act.put, List.setIfInBounds_toArray, List.set_cons_zero, List.set_cons_succ]
                  refine take_yes 19 (some 55) (v := ?_) rfl (by kernel_rfl) (by kernel_rfl) (by kernel_rfl) (by kernel_rfl) (fun _ _ _ h => h) (by rfl) (by assumption) ?_ ?_
                  rotate_left
                  · (intro w' hSw; (try dsimp only at hSw); go_simp; try with_reducible rfl)
                  try simp only [Act.put, List.setIfInBounds_toArray, List.set_cons_zero, List.set_cons_succ]
                  refine take_run 20 rfl (by kernel_rfl) (by rfl) (fun K hK => ?_)
                  obtain ⟨q0, q1, q2, q3⟩ := P4.2.2.1.two
                  go_simp
                  clear q0 q1 q2 q3
                  have DZ := DG.set1 hcb P4
                  refine hK.out _ _ (DZ.blk.two).1 (fun hHeld235 => ?_)
                  clear hK K hHeld234
                  try simp only [Act.put, List.setIfInBounds_toArray, List.set_cons_zero, List.set_cons_succ]
                  refine wpAnyH_done (by kernel_rfl) ?_ _
                  have HDZ := Lib.hid DZ
                  clear hHeld235 DZ P4 hib ho4 hg4
                  go_wp2_with fail
                  go_roundw
                  case rel => exact ⟨id2, m - 1, .slice o4 n4 c4, es ++ [(⟨id2, x1, x2, x3⟩ : Edg)], by omega, by omega, by omega, by go_num, by go_num, by have := HLN.out; unfold Hid; simp; omega, HDZ.out⟩
                  case measure => simp [intOf]; omega
                · skip
                  go_simp
                  refine (pick_at [0, 0, 1, 2] B cb _ 4 _ D225.cur hn191 hl227 rfl (by omega) (by omega)).mono ?_
                  rintro en wq238 ⟨x3, hx3, rfl, hcq, htq⟩
                  have D237 := D225.turn hcb hcq htq
                  refine hK.out _ _ (D237.blk.two).1 (fun hHeld236 => ?_)
                  clear hK K hHeld224 hcq htq
                  try simp only [Act.put, List.setIfInBounds_toArray, List.set_cons_zero, List.set_cons_succ]
                  refine take_yes 16 (some 52) (v := ?_) rfl (by kernel_rfl) (by kernel_rfl) (by kernel_rfl) (by kernel_rfl) (fun _ _ _ h => h) (by rfl) (by assumption) ?_ ?_
                  rotate_left
                  · (intro w' hSw; (try dsimp only at hSw); go_simp; try with_reducible rfl)
                  try simp only [Act.put, List.setIfInBounds_toArray, List.set_cons_zero, List.set_cons_succ]
                  refine take_two 1 17 rfl rfl (by kernel_rfl) (by rfl) (by rfl) (fun K hK => ?_) (fun K hK => ?_)
                  · skip
                    obtain ⟨q0, q1, q2, q3⟩ := D237.blk.two
                    go_simp
                    clear q0 q1 q2 q3
                    refine hK.out _ _ (D237.blk.two).1 (fun hHeld239 => ?_)
                    clear hK K hHeld236
                    try simp only [Act.put, List.setIfInBounds_toArray, List.set_cons_zero, List.set_cons_succ]
                    refine take_run 17 rfl (by kernel_rfl) (by rfl) (fun K hK => ?_)
                    go_simp
                    try simp only [id0]
                    have hsb : Since wq238 (wq238.alloc (.cells #[.int .i64 id2, .int .i64 x1, .int .i64 x2, .int .i64 x3] 108)) := ((Since.refl wq238).alloc (.cells #[.int .i64 id2, .int .i64 x1, .int .i64 x2, .int .i64 x3] 108))
                    have D241 := D237.since hsb
                    have hib := lit1E wq238 ⟨id2, x1, x2, x3⟩ (edge_in4 (by omega) (by omega) (by omega) hx3)
                    clear hsb
                    refine hK.out _ _ (D241.blk.two).1 (fun hHeld240 => ?_)
                    clear hK K hHeld239
                    try simp only [Act.put, List.setIfInBounds_toArray, List.set_cons_zero, List.set_cons_succ]
                    refine take_run 18 rfl (by kernel_rfl) (by rfl) (fun K hK => ?_)
                    refine wp_append_edges (.tmp 37) (.tmp 53) rfl (w.heap.size + 1 + 1) v2 es rfl D241.ownE _ _ _ rfl [⟨id2, x1, x2, x3⟩] hib (by have := HLN.out; simp; omega) (by have := D241.two.size; omega) ?_
                    intro v' w4 ho4 hg4 hb4
                    obtain ⟨n4, hn4⟩ : ∃ n, (es ++ [(⟨id2, x1, x2, x3⟩ : Edg)]).length = n := ⟨_, rfl⟩
                    obtain ⟨o4, c4, hv4⟩ := ho4.len
                    rw [hn4] at hv4
                    subst hv4
                    clear hn4 hb4
                    have P4 := D241.pushE hcb hy ho4 hg4
                    refine hK.out _ _ (P4.2.2.1.two).1 (fun hHeld242 => ?_)
                    clear hK K hHeld240
                    try simp only [Act.put, List.setIfInBounds_toArray, List.set_cons_zero, List.set_cons_succ]
                    refine take_yes 19 (some 55) (v := ?_) rfl (by kernel_rfl) (by kernel_rfl) (by kernel_rfl) (by kernel_rfl) (fun _ _ _ h => h) (by rfl) (by assumption) ?_ ?_
                    rotate_left
                    · (intro w' hSw; (try dsimp only at hSw); go_simp; try with_reducible rfl)
                    try simp only [Act.put, List.setIfInBounds_toArray, List.set_cons_zero, List.set_cons_succ]
                    refine take_run 20 rfl (by kernel_rfl) (by rfl) (fun K hK => ?_)
                    obtain ⟨q0, q1, q2, q3⟩ := P4.2.2.1.two
                    go_simp
                    clear q0 q1 q2 q3
                    have DZ := DG.set1 hcb P4
                    refine hK.out _ _ (DZ.blk.two).1 (fun hHeld243 => ?_)
                    clear hK K hHeld242
                    try simp only [Act.put, List.setIfInBounds_toArray, List.set_cons_zero, List.set_cons_succ]
                    refine wpAnyH_done (by kernel_rfl) ?_ _
                    have HDZ := Lib.hid DZ
                    clear hHeld243 DZ P4 hib ho4 hg4
                    go_wp2_with fail
                    go_roundw
                    case rel => exact ⟨id2, m - 1, .slice o4 n4 c4, es ++ [(⟨id2, x1, x2, x3⟩ : Edg)], by omega, by omega, by omega, by go_num, by go_num, by have := HLN.out; unfold Hid; simp; omega, HDZ.out⟩
                    case measure => simp [intOf]; omega
                  · skip
                    go_simp
                    try simp only [id0]
                    have hsb : Since wq238 (wq238.alloc (.cells #[.int .i64 id2, .int .i64 x1, .int .i64 x2, .int .i64 x3] 108)) := ((Since.refl wq238).alloc (.cells #[.int .i64 id2, .int .i64 x1, .int .i64 x2, .int .i64 x3] 108))
                    have D245 := D237.since hsb
                    have hib := lit1E wq238 ⟨id2, x1, x2, x3⟩ (edge_in4 (by omega) (by omega) (by omega) hx3)
                    clear hsb
                    refine hK.out _ _ (D245.blk.two).1 (fun hHeld244 => ?_)
                    clear hK K hHeld236
                    try simp only [Act.put, List.setIfInBounds_toArray, List.set_cons_zero, List.set_cons_succ]
                    refine take_run 1 rfl (by kernel_rfl) (by rfl) (fun K hK => ?_)
                    obtain ⟨q0, q1, q2, q3⟩ := D245.blk.two
                    go_simp
                    clear q0 q1 q2 q3
                    refine hK.out _ _ (D245.blk.two).1 (fun hHeld246 => ?_)
                    clear hK K hHeld244
                    try simp only [Act.put, List.setIfInBounds_toArray, List.set_cons_zero, List.set_cons_succ]
                    refine take_run 18 rfl (by kernel_rfl) (by rfl) (fun K hK => ?_)
                    refine wp_append_edges (.tmp 37) (.tmp 53) rfl (w.heap.size + 1 + 1) v2 es rfl D245.ownE _ _ _ rfl [⟨id2, x1, x2, x3⟩] hib (by have := HLN.out; simp; omega) (by have := D245.two.size; omega) ?_
                    intro v' w4 ho4 hg4 hb4
                    obtain ⟨n4, hn4⟩ : ∃ n, (es ++ [(⟨id2, x1, x2, x3⟩ : Edg)]).length = n := ⟨_, rfl⟩
                    obtain ⟨o4, c4, hv4⟩ := ho4.len
                    rw [hn4] at hv4
                    subst hv4
                    clear hn4 hb4
                    have P4 := D245.pushE hcb hy ho4 hg4
                    refine hK.out _ _ (P4.2.2.1.two).1 (fun hHeld247 => ?_)
                    clear hK K hHeld246
                    try simp only [Act.put, List.setIfInBounds_toArray, List.set_cons_zero, List.set_cons_succ]
                    refine take_yes 19 (some 55) (v := ?_) rfl (by kernel_rfl) (by kernel_rfl) (by kernel_rfl) (by kernel_rfl) (fun _ _ _ h => h) (by rfl) (by assumption) ?_ ?_
                    rotate_left
                    · (intro w' hSw; (try dsimp only at hSw); go_simp; try with_reducible rfl)
                    try simp only [Act.put, List.setIfInBounds_toArray, List.set_cons_zero, List.set_cons_succ]
                    refine take_run 20 rfl (by kernel_rfl) (by rfl) (fun K hK => ?_)
                    obtain ⟨q0, q1, q2, q3⟩ := P4.2.2.1.two
                    go_simp
                    clear q0 q1 q2 q3
                    have DZ := DG.set1 hcb P4
                    refine hK.out _ _ (DZ.blk.two).1 (fun hHeld248 => ?_)
                    clear hK K hHeld247
                    try simp only [Act.put, List.setIfInBounds_toArray, List.set_cons_zero, List.set_cons_succ]
                    refine wpAnyH_done (by kernel_rfl) ?_ _
                    have HDZ := Lib.hid DZ
                    clear hHeld248 DZ P4 hib ho4 hg4
                    go_wp2_with fail
                    go_roundw
                    case rel => exact ⟨id2, m - 1, .slice o4 n4 c4, es ++ [(⟨id2, x1, x2, x3⟩ : Edg)], by omega, by omega, by omega, by go_num, by go_num, by have := HLN.out; unfold Hid; simp; omega, HDZ.out⟩
                    case measure => simp [intOf]; omega
        · obtain rfl : m = 0 := by omega
          obtain ⟨n2, hn2⟩ : ∃ n, es.length = n := ⟨_, rfl⟩
          have hn210 : n2 ≤ 10 := by have := HLN.out; omega
          obtain ⟨o2, c2, hv2⟩ := HD.out.ownE.len
          rw [hn2] at hv2
          subst hv2
          have HN2 := Lib.hid hn2
          clear hn2 HLN
          obtain ⟨q0, q1, q2, q3⟩ := HD.out.blk.two
          have HR : Hid (Blk wr w.heap.size 27 #[.slice none 0 0, .slice none 0 0]) := (HD.out.two.block w.heap.size (by omega) (by omega) (by omega)).trans RY.out
          obtain ⟨a0, a1, a2, a3⟩ := HR.out.two
          have HT := Lib.hid (HD.out.two.turn (Turn.of_since HWY.out) (by omega))
          go_wp2_with fail
          refine bodyPost_ret (v := .agg #[.slice o1 n1 c1, .slice o2 n2 c2]) (by simp [results, Try.results91, go_sem, *]) rfl ?_
          have k0 := grown_set wr w.heap.size 0 (.slice o1 n1 c1)
          have k1 := grown_set (wr.setCell ⟨w.heap.size, 0, none⟩ (.slice o1 n1 c1)) w.heap.size 1 (.slice o2 n2 c2)
          refine ⟨_, ⟨xs, es⟩, rfl, OwnG.mk (((HD.out.own.far (by simp; omega) _).far (by simp; omega) _).mono (by omega)) (((HD.out.ownE.far (by simp; omega) _).far (by simp; omega) _).mono (by omega)), ?_, ?_, ?_, ?_, ?_⟩
          · have := HN1.out; simp only; omega
          · have := HN1.out; simp only; omega
          · have := HN2.out; simp only; omega
          · exact (HD.out.cur.grown k0 (fun j e => by injection e; omega)).grown k1 (fun j e => by injection e; omega)
          · exact (HT.out.grown k0 (fun j e => by injection e; omega)).grown k1 (fun j e => by injection e; omega)
end Go.Proofs.Ytilkheclimammaa
