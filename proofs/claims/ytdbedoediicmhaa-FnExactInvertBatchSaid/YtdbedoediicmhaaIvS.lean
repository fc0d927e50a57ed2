/- The model's InvertBatch. -/
import Derived.Test.YtdbedoediicmhaaChA
namespace Go.Proofs.Ytdbedoediicmhaa
set_option maxRecDepth 100000
open Go.ChangeShapes Go.WideShapes Go.ChangeAt Go.RowKit
set_option linter.unusedVariables false
set_option linter.unusedSimpArgs false

theorem invB_get (cs : List Chg) (k j : Nat) (h : k + j + 1 = cs.length) (hj : j < cs.length) (hk : k < (invB cs).length) : (invB cs)[k] = turnC cs[j] := by
  have e : cs.length - 1 - k = j := by omega
  simp only [invB, List.getElem_reverse, List.getElem_map, List.length_map, e]
set_option maxHeartbeats 4000000 in
set_option maxRecDepth 100000 in
theorem specIV_any (v : Value) (x : List Chg) (w : World) (h : BchAt w v x) (h1 : x.length ≤ 1048577) :
    Calls Try.prog 22 #[v] w (BOut w (invB x)) := by
  obtain ⟨b, rfl, hb⟩ := h
  obtain ⟨hin, bo, bc, rfl, HS⟩ := hb
  have HXI := Lib.hid hin
  clear hin
  obtain ⟨n, hn⟩ : ∃ n, n = x.length := ⟨_, rfl⟩
  have hn9 : n ≤ 1048577 := by omega
  have HN := Lib.hid hn
  have HBL : Hid ((invB x).length = n) := by unfold Hid; rw [invB_len]; exact hn.symm
  rw [← hn]
  clear hn
  obtain ⟨w1, hw1⟩ : ∃ y, y = (w.alloc (.cells #[.slice bo n bc] 39)).alloc (.cells #[.slice none 0 0] 39) := ⟨_, rfl⟩
  have hs01 : Since w w1 := by rw [hw1]; exact ((Since.refl w).alloc _).alloc _
  have hz1 : w.heap.size + 1 + 1 = w1.heap.size := by rw [hw1]; simp
  have BW : Hid (Blk w1 w.heap.size 39 #[.slice bo n bc]) := by rw [hw1]; exact (Blk.new rfl _ _).alloc _
  have BR : Hid (Blk w1 (w.heap.size + 1) 39 #[.slice none 0 0]) := by rw [hw1]; exact Blk.new (by simp) _ _
  obtain ⟨y, hyy⟩ : ∃ y, y = w1.alloc (.cells #[.slice none 0 0] 39) := ⟨_, rfl⟩
  have hsx : Since w1 y := by rw [hyy]; exact (Since.refl w1).alloc _
  have hBX : Hid (Blk y w1.heap.size 39 #[.slice none 0 0]) := by rw [hyy]; exact Blk.new (by omega) _ _
  have hzy : w1.heap.size + 1 = y.heap.size := by rw [hyy]; simp
  go_enter Try.func22, Try.ntmps22
  go_wp2_with fail
  rw [← hw1]
  clear hw1
  obtain ⟨p0, _⟩ := (BW.out.alloc (.cells #[.slice none 0 0] 39)).one
  go_wp2_with fail
  rw [← hyy]
  clear hyy p0
  have HXB : Hid (w1.heap.size = w1.heap.size ∧ y.heap.size = w1.heap.size + 1) := ⟨rfl, by omega⟩
  have BW2 := BW
  have BR2 := BR
  clear BW BR
  go_loopw [4] (fun i wr => ∃ (k : Nat) (v : Value), k ≤ n ∧ i = .int .i64 ((n : Int) - 1 - (k : Int)) ∧ Hid (Blk wr w1.heap.size 39 #[v]) ∧ Hid (OwnC (w1.heap.size + 1) wr v ((invB x).take k)) ∧ Since w1 wr) (fun i _ => (intOf i + 1).toNat)
  case atStart => exact ⟨0, .slice none 0 0, Nat.zero_le _, by simp, hBX.out, ⟨fun x hx => by simp at hx, World.ownsRow_nil _ _ _ _⟩, hsx⟩
  case round =>
    obtain ⟨k, v, hk, rfl, HB, HOw, hsw⟩ := hrel
    obtain ⟨vo, vc, rfl⟩ := HOw.out.len
    have hs0w := hs01.trans hsw
    by_cases hlt : k < n
    · obtain ⟨j, hj⟩ : ∃ j : Nat, (n : Int) - 1 - (k : Int) = (j : Int) := ⟨n - 1 - k, by omega⟩
      have HJ : Hid (k + j + 1 = n) := by unfold Hid; omega
      have hjn : j < n := by omega
      rw [hj]
      clear hj
      have hx : j < x.length := by have := HN.out; omega
      obtain ⟨be, oe, rfl, hbe, d0, d1, d2, d3, d4⟩ := HS.out j hx
      have HTK : Hid ((invB x).take (k + 1) = (invB x).take k ++ [turnC x[j]]) := by
        have hkb : k < (invB x).length := by have := HBL.out; omega
        unfold Hid
        rw [List.take_succ_eq_append_getElem hkb, invB_get x k j (by have := HJ.out; have := HN.out; omega) hx hkb]
      have HLN : Hid (((invB x).take k).length + [turnC x[j]].length ≤ 4194304) := by unfold Hid; simp [invB_len]; have := HN.out; omega
      have HCI : Hid ((turnC x[j]).ed.In) := HXI.out x[j] (List.getElem_mem hx)
      generalize x[j] = c at d0 d1 d2 d3 d4 HTK HLN HCI
      have HKW : Hid (∀ w', Since w1 w' → w'.cell? ⟨w.heap.size, 0, none⟩ = some (.slice (some ⟨be, oe, none⟩) n bc) ∧ (w'.cell? ⟨be, oe + j * 5, none⟩ = some (.bool c.ins) ∧ w'.cell? ⟨be, oe + j * 5 + 1, none⟩ = some (.int .i64 c.ed.id) ∧ w'.cell? ⟨be, oe + j * 5 + 2, none⟩ = some (.int .i64 c.ed.fr) ∧ w'.cell? ⟨be, oe + j * 5 + 3, none⟩ = some (.int .i64 (Edg.to c.ed)) ∧ w'.cell? ⟨be, oe + j * 5 + 4, none⟩ = some (.int .i64 c.ed.lb))) := by
        intro w' hs
        obtain ⟨y0, _⟩ := (BW2.out.since hs).one
        have s1 := since_cells (hs01.trans hs) hbe
        exact ⟨y0, (s1 _).trans d0, (s1 _).trans d1, (s1 _).trans d2, (s1 _).trans d3, (s1 _).trans d4⟩
      have HKC : Hid (∀ w', Since wr w' → w'.cell? ⟨w.heap.size, 0, none⟩ = some (.slice (some ⟨be, oe, none⟩) n bc) ∧ (w'.cell? ⟨be, oe + j * 5, none⟩ = some (.bool c.ins) ∧ w'.cell? ⟨be, oe + j * 5 + 1, none⟩ = some (.int .i64 c.ed.id) ∧ w'.cell? ⟨be, oe + j * 5 + 2, none⟩ = some (.int .i64 c.ed.fr) ∧ w'.cell? ⟨be, oe + j * 5 + 3, none⟩ = some (.int .i64 (Edg.to c.ed)) ∧ w'.cell? ⟨be, oe + j * 5 + 4, none⟩ = some (.int .i64 c.ed.lb))) := fun w' hs => HKW.out w' (hsw.trans hs)
      have jj0 : (0 : Int) ≤ (j : Int) := by omega
      have jj1 : (j : Int) < (n : Int) := by omega
      generalize hvv : Value.slice vo ((invB x).take k).length vc = v at HB HOw
      clear d0 d1 d2 d3 d4
      go_wp2_with fail
      refine wp_region_held_drew (S := (fun w' => w'.cell? ⟨w.heap.size, 0, none⟩ = some (.slice (some ⟨be, oe, none⟩) n bc) ∧ (w'.cell? ⟨be, oe + j * 5, none⟩ = some (.bool c.ins) ∧ w'.cell? ⟨be, oe + j * 5 + 1, none⟩ = some (.int .i64 c.ed.id) ∧ w'.cell? ⟨be, oe + j * 5 + 2, none⟩ = some (.int .i64 c.ed.fr) ∧ w'.cell? ⟨be, oe + j * 5 + 3, none⟩ = some (.int .i64 (Edg.to c.ed)) ∧ w'.cell? ⟨be, oe + j * 5 + 4, none⟩ = some (.int .i64 c.ed.lb)))) (by kernel_rfl) (HKC.out _ (Since.refl _).drew) (fun hHeld => ?_)
      refine take_yes 0 (some 14) (v := ?_) rfl (by kernel_rfl) (by kernel_rfl) (by kernel_rfl) (by kernel_rfl) (fun _ _ _ h => h) (by rfl) (by assumption) ?_ ?_
      rotate_left
      · (intro w' hSw; (try dsimp only at hSw); go_simp; try with_reducible rfl)
      try simp only [Act.put, List.setIfInBounds_toArray, List.set_cons_zero, List.set_cons_succ]
      refine take_yes 2 (some 16) (v := ?_) rfl (by kernel_rfl) (by kernel_rfl) (by kernel_rfl) (by kernel_rfl) (fun _ _ _ h => h) (by rfl) (by assumption) ?_ ?_
      rotate_left
      · (intro w' hSw; (try dsimp only at hSw); go_simp; try with_reducible rfl)
      try simp only [Act.put, List.setIfInBounds_toArray, List.set_cons_zero, List.set_cons_succ]
      refine take_yes 3 (some 17) (v := ?_) rfl (by kernel_rfl) (by kernel_rfl) (by kernel_rfl) (by kernel_rfl) (fun _ _ _ h => h) (by rfl) (by assumption) ?_ ?_
      rotate_left
      · (intro w' hSw; (try dsimp only at hSw); go_simp; try with_reducible rfl)
      try simp only [Act.put, List.setIfInBounds_toArray, List.set_cons_zero, List.set_cons_succ]
      refine take_yes 4 (some 18) (v := ?_) rfl (by kernel_rfl) (by kernel_rfl) (by kernel_rfl) (by kernel_rfl) (fun _ _ _ h => h) (by rfl) (by assumption) ?_ ?_
      rotate_left
      · (intro w' hSw; (try dsimp only at hSw); go_simp; try with_reducible rfl)
      try simp only [Act.put, List.setIfInBounds_toArray, List.set_cons_zero, List.set_cons_succ]
      refine take_yes 5 (some 19) (v := ?_) rfl (by kernel_rfl) (by kernel_rfl) (by kernel_rfl) (by kernel_rfl) (fun _ _ _ h => h) (by rfl) (by assumption) ?_ ?_
      rotate_left
      · (intro w' hSw; (try dsimp only at hSw); go_simp; try with_reducible rfl)
      try simp only [Act.put, List.setIfInBounds_toArray, List.set_cons_zero, List.set_cons_succ]
      refine take_yes 6 (some 20) (v := ?_) rfl (by kernel_rfl) (by kernel_rfl) (by kernel_rfl) (by kernel_rfl) (fun _ _ _ h => h) (by rfl) (by assumption) ?_ ?_
      rotate_left
      · (intro w' hSw; (try dsimp only at hSw); go_simp; try with_reducible rfl)
      try simp only [Act.put, List.setIfInBounds_toArray, List.set_cons_zero, List.set_cons_succ]
      refine take_yes 7 (some 21) (v := ?_) rfl (by kernel_rfl) (by kernel_rfl) (by kernel_rfl) (by kernel_rfl) (fun _ _ _ h => h) (by rfl) (by assumption) ?_ ?_
      rotate_left
      · (intro w' hSw; (try dsimp only at hSw); go_simp; try with_reducible rfl)
      try simp only [Act.put, List.setIfInBounds_toArray, List.set_cons_zero, List.set_cons_succ]
      refine take_yes 8 (some 22) (v := ?_) rfl (by kernel_rfl) (by kernel_rfl) (by kernel_rfl) (by kernel_rfl) (fun _ _ _ h => h) (by rfl) (by assumption) ?_ ?_
      rotate_left
      · (intro w' hSw; (try dsimp only at hSw); go_simp; try with_reducible rfl)
      try simp only [Act.put, List.setIfInBounds_toArray, List.set_cons_zero, List.set_cons_succ]
      refine take_yes 9 (some 23) (v := ?_) rfl (by kernel_rfl) (by kernel_rfl) (by kernel_rfl) (by kernel_rfl) (fun _ _ _ h => h) (by rfl) (by assumption) ?_ ?_
      rotate_left
      · (intro w' hSw; (try dsimp only at hSw); go_simp; try with_reducible rfl)
      try simp only [Act.put, List.setIfInBounds_toArray, List.set_cons_zero, List.set_cons_succ]
      refine take_yes 10 (some 24) (v := ?_) rfl (by kernel_rfl) (by kernel_rfl) (by kernel_rfl) (by kernel_rfl) (fun _ _ _ h => h) (by rfl) (by assumption) ?_ ?_
      rotate_left
      · (intro w' hSw; (try dsimp only at hSw); go_simp; try with_reducible rfl)
      try simp only [Act.put, List.setIfInBounds_toArray, List.set_cons_zero, List.set_cons_succ]
      refine take_yes 11 (some 25) (v := ?_) rfl (by kernel_rfl) (by kernel_rfl) (by kernel_rfl) (by kernel_rfl) (fun _ _ _ h => h) (by rfl) (by assumption) ?_ ?_
      rotate_left
      · (intro w' hSw; (try dsimp only at hSw); go_simp; try with_reducible rfl)
      try simp only [Act.put, List.setIfInBounds_toArray, List.set_cons_zero, List.set_cons_succ]
      refine take_yes 12 (some 26) (v := ?_) rfl (by kernel_rfl) (by kernel_rfl) (by kernel_rfl) (by kernel_rfl) (fun _ _ _ h => h) (by rfl) (by assumption) ?_ ?_
      rotate_left
      · (intro w' hSw; (try dsimp only at hSw); go_simp; try with_reducible rfl)
      try simp only [Act.put, List.setIfInBounds_toArray, List.set_cons_zero, List.set_cons_succ]
      refine take_yes 13 (some 27) (v := ?_) rfl (by kernel_rfl) (by kernel_rfl) (by kernel_rfl) (by kernel_rfl) (fun _ _ _ h => h) (by rfl) (by assumption) ?_ ?_
      rotate_left
      · (intro w' hSw; (try dsimp only at hSw); go_simp; try with_reducible rfl)
      try simp only [Act.put, List.setIfInBounds_toArray, List.set_cons_zero, List.set_cons_succ]
      refine take_yes 14 (some 28) (v := ?_) rfl (by kernel_rfl) (by kernel_rfl) (by kernel_rfl) (by kernel_rfl) (fun _ _ _ h => h) (by rfl) (by assumption) ?_ ?_
      rotate_left
      · (intro w' hSw; (try dsimp only at hSw); go_simp; try with_reducible rfl)
      try simp only [Act.put, List.setIfInBounds_toArray, List.set_cons_zero, List.set_cons_succ]
      refine take_yes 15 (some 29) (v := ?_) rfl (by kernel_rfl) (by kernel_rfl) (by kernel_rfl) (by kernel_rfl) (fun _ _ _ h => h) (by rfl) (by assumption) ?_ ?_
      rotate_left
      · (intro w' hSw; (try dsimp only at hSw); go_simp; try with_reducible rfl)
      try simp only [Act.put, List.setIfInBounds_toArray, List.set_cons_zero, List.set_cons_succ]
      refine take_two 1 16 rfl rfl (by kernel_rfl) (by rfl) (by rfl) (fun K hK => ?_) (fun K hK => ?_)
      · skip
        obtain ⟨q0, q1⟩ := (HB.out.drew).one
        go_simp
        clear q0 q1
        refine hK.out _ _ (HKC.out _ ((Since.refl wr).drew)) (fun hHeld1 => ?_)
        clear hK K hHeld
        try simp only [Act.put, List.setIfInBounds_toArray, List.set_cons_zero, List.set_cons_succ]
        refine take_run 16 rfl (by kernel_rfl) (by rfl) (fun K hK => ?_)
        go_simp
        have hsb : Since wr (wr.alloc (.cells #[.bool (!c.ins), .int .i64 c.ed.id, .int .i64 c.ed.fr, .int .i64 (Edg.to c.ed), .int .i64 c.ed.lb] 64)).drew := ((Since.refl wr).alloc (.cells #[.bool (!c.ins), .int .i64 c.ed.id, .int .i64 c.ed.fr, .int .i64 (Edg.to c.ed), .int .i64 c.ed.lb] 64)).drew
        refine hK.out _ _ (HKC.out _ (hsb)) (fun hHeld2 => ?_)
        clear hK K hHeld1
        try simp only [Act.put, List.setIfInBounds_toArray, List.set_cons_zero, List.set_cons_succ]
        refine take_run 17 rfl (by kernel_rfl) (by rfl) (fun K hK => ?_)
        refine wp_append_chgs (.tmp 15) (.tmp 30) rfl (w1.heap.size + 1) _ ((invB x).take k) rfl (HOw.out.since hsb) _ _ _ rfl [turnC c] ((chg_lit wr (turnC c) HCI.out).since (Since.refl _).drew) HLN.out (by have := hsb.size; have := HB.out.lt; omega) ?_
        intro v4 w4 ho4 hg4 hb4
        rw [← HTK.out] at ho4
        have hc4 : Since w1 w4 := (hsw.trans hsb).grown hg4 (fun q hq => by have := (HOw.out.since hsb).2.lt q hq; have := HXB.out; omega)
        have HB4 : Hid (Blk w4 w1.heap.size 39 #[v]) := (HB.out.since hsb).grwC hg4 (fun e => by have := (HOw.out.since hsb).2.lt w1.heap.size e.symm; omega)
        obtain ⟨o4, c4, hv4⟩ := ho4.len
        obtain ⟨n4, hn4⟩ : ∃ n, ((invB x).take (k + 1)).length = n := ⟨_, rfl⟩
        rw [hn4] at hv4
        subst hv4
        clear hn4
        have hS4 := HKW.out _ hc4
        refine hK.out _ _ hS4 (fun hHeld3 => ?_)
        clear hK K hHeld2
        try simp only [Act.put, List.setIfInBounds_toArray, List.set_cons_zero, List.set_cons_succ]
        refine take_yes 18 (some 32) (v := ?_) rfl (by kernel_rfl) (by kernel_rfl) (by kernel_rfl) (by kernel_rfl) (fun _ _ _ h => h) (by rfl) (by assumption) ?_ ?_
        rotate_left
        · (intro w' hSw; (try dsimp only at hSw); go_simp; try with_reducible rfl)
        try simp only [Act.put, List.setIfInBounds_toArray, List.set_cons_zero, List.set_cons_succ]
        refine take_run 19 rfl (by kernel_rfl) (by rfl) (fun K hK => ?_)
        obtain ⟨q0, q1⟩ := HB4.out.one
        go_simp
        clear q0 q1
        have hcz : Since w1 (w4.setCell ⟨w1.heap.size, 0, none⟩ (.slice o4 n4 c4)) := hc4.setCell (by have := HXB.out; show w1.heap.size ≤ w1.heap.size; omega) _
        refine hK.out _ _ (HKW.out _ hcz) (fun hHeld4 => ?_)
        clear hK K hHeld3
        try simp only [Act.put, List.setIfInBounds_toArray, List.set_cons_zero, List.set_cons_succ]
        refine wpAnyH_done (by kernel_rfl) ?_ _
        clear hHeld4
        have HB5 : Hid (Blk (w4.setCell ⟨w1.heap.size, 0, none⟩ (.slice o4 n4 c4)) w1.heap.size 39 #[.slice o4 n4 c4]) := HB4.out.set 0 (.slice o4 n4 c4)
        have HO5 := Lib.hid (ho4.far (p := ⟨w1.heap.size, 0, none⟩) (by simp) (.slice o4 n4 c4))
        clear hc4 HB4 hsb hb4 hg4
        go_wp2
        go_roundw
        case rel => exact ⟨k + 1, _, by omega, by have := HJ.out; first | (congr 1; omega) | (simp; omega) | congr 1, HB5.out, HO5.out, hcz⟩
        case measure => (first | (simp [intOf]; done) | (simp [intOf]; omega))
      · skip
        go_simp
        have hsb : Since wr (wr.alloc (.cells #[.bool (!c.ins), .int .i64 c.ed.id, .int .i64 c.ed.fr, .int .i64 (Edg.to c.ed), .int .i64 c.ed.lb] 64)).drew := ((Since.refl wr).alloc (.cells #[.bool (!c.ins), .int .i64 c.ed.id, .int .i64 c.ed.fr, .int .i64 (Edg.to c.ed), .int .i64 c.ed.lb] 64)).drew
        refine hK.out _ _ (HKC.out _ (hsb)) (fun hHeld1 => ?_)
        clear hK K hHeld
        try simp only [Act.put, List.setIfInBounds_toArray, List.set_cons_zero, List.set_cons_succ]
        refine take_run 1 rfl (by kernel_rfl) (by rfl) (fun K hK => ?_)
        obtain ⟨q0, q1⟩ := (HB.out.since hsb).one
        go_simp
        clear q0 q1
        refine hK.out _ _ (HKC.out _ (hsb)) (fun hHeld2 => ?_)
        clear hK K hHeld1
        try simp only [Act.put, List.setIfInBounds_toArray, List.set_cons_zero, List.set_cons_succ]
        refine take_run 17 rfl (by kernel_rfl) (by rfl) (fun K hK => ?_)
        refine wp_append_chgs (.tmp 15) (.tmp 30) rfl (w1.heap.size + 1) _ ((invB x).take k) rfl (HOw.out.since hsb) _ _ _ rfl [turnC c] ((chg_lit wr (turnC c) HCI.out).since (Since.refl _).drew) HLN.out (by have := hsb.size; have := HB.out.lt; omega) ?_
        intro v4 w4 ho4 hg4 hb4
        rw [← HTK.out] at ho4
        have hc4 : Since w1 w4 := (hsw.trans hsb).grown hg4 (fun q hq => by have := (HOw.out.since hsb).2.lt q hq; have := HXB.out; omega)
        have HB4 : Hid (Blk w4 w1.heap.size 39 #[v]) := (HB.out.since hsb).grwC hg4 (fun e => by have := (HOw.out.since hsb).2.lt w1.heap.size e.symm; omega)
        obtain ⟨o4, c4, hv4⟩ := ho4.len
        obtain ⟨n4, hn4⟩ : ∃ n, ((invB x).take (k + 1)).length = n := ⟨_, rfl⟩
        rw [hn4] at hv4
        subst hv4
        clear hn4
        have hS4 := HKW.out _ hc4
        refine hK.out _ _ hS4 (fun hHeld3 => ?_)
        clear hK K hHeld2
        try simp only [Act.put, List.setIfInBounds_toArray, List.set_cons_zero, List.set_cons_succ]
        refine take_yes 18 (some 32) (v := ?_) rfl (by kernel_rfl) (by kernel_rfl) (by kernel_rfl) (by kernel_rfl) (fun _ _ _ h => h) (by rfl) (by assumption) ?_ ?_
        rotate_left
        · (intro w' hSw; (try dsimp only at hSw); go_simp; try with_reducible rfl)
        try simp only [Act.put, List.setIfInBounds_toArray, List.set_cons_zero, List.set_cons_succ]
        refine take_run 19 rfl (by kernel_rfl) (by rfl) (fun K hK => ?_)
        obtain ⟨q0, q1⟩ := HB4.out.one
        go_simp
        clear q0 q1
        have hcz : Since w1 (w4.setCell ⟨w1.heap.size, 0, none⟩ (.slice o4 n4 c4)) := hc4.setCell (by have := HXB.out; show w1.heap.size ≤ w1.heap.size; omega) _
        refine hK.out _ _ (HKW.out _ hcz) (fun hHeld4 => ?_)
        clear hK K hHeld3
        try simp only [Act.put, List.setIfInBounds_toArray, List.set_cons_zero, List.set_cons_succ]
        refine wpAnyH_done (by kernel_rfl) ?_ _
        clear hHeld4
        have HB5 : Hid (Blk (w4.setCell ⟨w1.heap.size, 0, none⟩ (.slice o4 n4 c4)) w1.heap.size 39 #[.slice o4 n4 c4]) := HB4.out.set 0 (.slice o4 n4 c4)
        have HO5 := Lib.hid (ho4.far (p := ⟨w1.heap.size, 0, none⟩) (by simp) (.slice o4 n4 c4))
        clear hc4 HB4 hsb hb4 hg4
        go_wp2
        go_roundw
        case rel => exact ⟨k + 1, _, by omega, by have := HJ.out; first | (congr 1; omega) | (simp; omega) | congr 1, HB5.out, HO5.out, hcz⟩
        case measure => (first | (simp [intOf]; done) | (simp [intOf]; omega))
    · obtain rfl : k = n := by omega
      have hn1 : (k : Int) - 1 - (k : Int) = -1 := by omega
      rw [hn1]
      obtain ⟨q0, q1⟩ := (BR2.out.since hsw).one
      obtain ⟨x0, _⟩ := HB.out.one
      have HOR : Hid (OwnC (w.heap.size + 1 + 1) wr (.slice vo ((invB x).take k).length vc) (invB x)) := by
        have := HOw.out
        rw [List.take_of_length_le (by have := HBL.out; omega)] at this ⊢
        exact this.mono (by have := HXB.out; omega)
      generalize ((invB x).take k).length = q at HOR x0 ⊢
      clear HB HOw hn1
      go_wp2_with fail
      refine bodyPost_ret (v := .agg #[.slice vo q vc]) (by simp [results, Try.results22, go_sem, *]) rfl ?_
      have HOZ := (HOR.out.far (p := ⟨w.heap.size + 1, 0, none⟩) (by simp) (.slice vo q vc)).mono (by omega : w.heap.size ≤ w.heap.size + 1 + 1)
      exact ⟨_, rfl, OwnB.mk HOZ, hs0w.setCell (by simp) _⟩
end Go.Proofs.Ytdbedoediicmhaa
