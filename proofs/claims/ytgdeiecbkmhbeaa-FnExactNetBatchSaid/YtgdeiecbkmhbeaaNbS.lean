/- The model's NetBatch. -/
import Derived.Test.YtgdeiecbkmhbeaaNetV
import Derived.Test.YtgdeiecbkmhbeaaEbS
import Derived.Test.YtgdeiecbkmhbeaaCtn
namespace Go.Proofs.Ytgdeiecbkmhbeaa
set_option maxRecDepth 100000
open Go.ChangeShapes Go.WideShapes Go.ChangeAt Go.RowKit
set_option linter.unusedVariables false
set_option linter.unusedSimpArgs false

set_option maxHeartbeats 4000000 in
set_option maxRecDepth 100000 in
theorem specNB_any (v : Value) (x : List Chg) (w : World) (h : BchAt w v x) (h1 : x.length ≤ 1048577) :
    Calls Try.prog 30 #[v] w (BOut w (netB x)) := by
  obtain ⟨b, rfl, hb⟩ := h
  obtain ⟨hin, bo, bc, rfl, HS⟩ := hb
  have HXI := Lib.hid hin
  clear hin
  obtain ⟨n, hn⟩ : ∃ n, n = x.length := ⟨_, rfl⟩
  have hn9 : n ≤ 1048577 := by omega
  have HN := Lib.hid hn
  have hge := guard_edge
  rw [← hn]
  clear hn
  obtain ⟨w1, hw1⟩ : ∃ y, y = (w.alloc (.cells #[.slice bo n bc] 29)).alloc (.cells #[.slice none 0 0] 29) := ⟨_, rfl⟩
  have hs01 : Since w w1 := by rw [hw1]; exact ((Since.refl w).alloc _).alloc _
  have hz1 : w.heap.size + 1 + 1 = w1.heap.size := by rw [hw1]; simp
  have BW : Hid (Blk w1 w.heap.size 29 #[.slice bo n bc]) := by rw [hw1]; exact (Blk.new rfl _ _).alloc _
  have BR : Hid (Blk w1 (w.heap.size + 1) 29 #[.slice none 0 0]) := by rw [hw1]; exact Blk.new (by simp) _ _
  obtain ⟨y, hyy⟩ : ∃ y, y = w1.alloc (.cells #[.slice none 0 0] 29) := ⟨_, rfl⟩
  have hsx : Since w1 y := by rw [hyy]; exact (Since.refl w1).alloc _
  have hBX : Hid (Blk y w1.heap.size 29 #[.slice none 0 0]) := by rw [hyy]; exact Blk.new (by omega) _ _
  have hzy : w1.heap.size + 1 = y.heap.size := by rw [hyy]; simp
  go_enter Try.func30, Try.ntmps30
  go_wp2_with fail
  rw [← hw1]
  clear hw1
  go_wp2_with fail
  rw [← hyy]
  clear hyy
  go_loopw [4] (fun i wr => ∃ (k : Nat) (v : Value), k ≤ n ∧ i = .int .i64 k ∧ Hid (Blk wr w1.heap.size 29 #[v]) ∧ Hid (OwnC (w1.heap.size + 1) wr v (netL (x.take k))) ∧ Since w1 wr) (fun i _ => n - (intOf i).toNat)
  case atStart => exact ⟨0, .slice none 0 0, Nat.zero_le _, rfl, hBX.out, ⟨fun x hx => by simp [netL] at hx, by simp [netL, ccells]; exact World.ownsRow_nil _ _ _ _⟩, hsx⟩
  case round =>
    obtain ⟨k, v, hk, rfl, HB, HOw, hsw⟩ := hrel
    obtain ⟨wq, hwq⟩ : ∃ W, W = wr := ⟨_, rfl⟩
    subst hwq
    have hs0w := hs01.trans hsw
    obtain ⟨p0, _⟩ := (BW.out.since hsw).one
    by_cases hlt : k < n
    · have hx : k < x.length := by have := HN.out; omega
      obtain ⟨be, oe, rfl, hbe, d0, d1, d2, d3, d4⟩ := HS.out k hx
      have HNX := Lib.hid (netL_step x k hx)
      have HLL := Lib.hid (netL_len x k)
      have HCI : Hid (x[k].ed.In) := HXI.out x[k] (List.getElem_mem hx)
      have HD : Hid (w.cell? ⟨be, oe + k * 5, none⟩ = some (.bool x[k].ins) ∧ w.cell? ⟨be, oe + k * 5 + 1, none⟩ = some (.int .i64 x[k].ed.id) ∧ w.cell? ⟨be, oe + k * 5 + 2, none⟩ = some (.int .i64 x[k].ed.fr) ∧ w.cell? ⟨be, oe + k * 5 + 3, none⟩ = some (.int .i64 (Edg.to x[k].ed)) ∧ w.cell? ⟨be, oe + k * 5 + 4, none⟩ = some (.int .i64 x[k].ed.lb)) := ⟨d0, d1, d2, d3, d4⟩
      clear d0 d1 d2 d3 d4
      generalize x[k] = c at HNX HCI HD
      generalize netL (x.take k) = L at HOw HNX HLL
      obtain ⟨m, hm⟩ : ∃ m, m = L.length := ⟨_, rfl⟩
      have HM := Lib.hid hm
      have hm9 : m ≤ 1048577 := by have := HLL.out; omega
      obtain ⟨_, vo, vc, hv, HLC⟩ := HOw.out.at
      rw [← hm] at hv
      subst hv
      clear hm
      obtain ⟨q0, _⟩ := HB.out.one
      have kk0 : (0 : Int) ≤ (k : Int) := by omega
      have kk1 : (k : Int) < (n : Int) := by omega
      go_wp2_with fail
      go_loopw [6, 7] (fun a q wr => ∃ j : Nat, j ≤ m ∧ q = .int .i64 j ∧ a = .int .i64 (atV (lastIx L (turnC c) j)) ∧ Since wq wr) (fun _ q _ => m - (intOf q).toNat)
      case atStart => exact ⟨0, Nat.zero_le _, rfl, rfl, Since.refl _⟩
      case round =>
        obtain ⟨j, hj, rfl, rfl, hsi⟩ := hrel
        clear p0 q0
        obtain ⟨p0, _⟩ := (BW.out.since (hsw.trans hsi)).one
        obtain ⟨q0, _⟩ := (HB.out.since hsi).one
        by_cases hjm : j < m
        · have hxj : j < L.length := by have := HM.out; omega
          obtain ⟨b2, o2, rfl, hb2, e0, e1, e2, e3, e4⟩ := HLC.out j hxj
          have s1 := since_cells hsi hb2
          rw [← s1] at e0 e1 e2 e3 e4
          have s2 := since_cells (hs0w.trans hsi) hbe
          obtain ⟨d0, d1, d2, d3, d4⟩ := HD.out
          rw [← s2] at d0 d1 d2 d3 d4
          clear s1 s2
          have jj0 : (0 : Int) ≤ (j : Int) := by omega
          have jj1 : (j : Int) < (m : Int) := by omega
          obtain ⟨a, ha⟩ : ∃ a, a = L[j] := ⟨_, rfl⟩
          rw [← ha] at e0 e1 e2 e3 e4
          have HAJ := Lib.hid ha
          clear ha
          by_cases he : a.ed = c.ed
          · cases hai : a.ins <;> cases hci : c.ins
            · have HH : Hid (lastIx L (turnC c) (j + 1) = lastIx L (turnC c) j) := lastIx_miss hxj (fun e => by have := ((turn_iff _ _).1 (HAJ.out.trans e)).2; rw [hai, hci] at this; cases this)
              rw [hai] at e0
              rw [hci] at d0
              clear hai hci
              have hnq : ∀ W : World, (binOp .eql 93 (ev a.ed) (ev c.ed)).run Try.prog W = .ok (.bool true) W := fun W => by rw [eql_edge, decide_eq_true he]
              unfold ev at hnq
              clear he
              go_wp2_with fail
              go_quiet (fail)
              go_wp2_with fail
              go_roundw
              case rel => exact ⟨j + 1, by omega, by go_num, by rw [HH.out], hsi.drewN _⟩
              case measure => simp [intOf]; omega
            · have HH : Hid (lastIx L (turnC c) (j + 1) = some j) := lastIx_hit hxj (HAJ.out.symm.trans ((turn_iff _ _).2 ⟨he, by rw [hai, hci]; rfl⟩))
              rw [hai] at e0
              rw [hci] at d0
              clear hai hci
              have hnq : ∀ W : World, (binOp .eql 93 (ev a.ed) (ev c.ed)).run Try.prog W = .ok (.bool true) W := fun W => by rw [eql_edge, decide_eq_true he]
              unfold ev at hnq
              clear he
              go_wp2_with fail
              go_quiet (fail)
              go_wp2_with fail
              go_roundw
              case rel => exact ⟨j + 1, by omega, by go_num, by rw [HH.out]; rfl, hsi.drewN _⟩
              case measure => simp [intOf]; omega
            · have HH : Hid (lastIx L (turnC c) (j + 1) = some j) := lastIx_hit hxj (HAJ.out.symm.trans ((turn_iff _ _).2 ⟨he, by rw [hai, hci]; rfl⟩))
              rw [hai] at e0
              rw [hci] at d0
              clear hai hci
              have hnq : ∀ W : World, (binOp .eql 93 (ev a.ed) (ev c.ed)).run Try.prog W = .ok (.bool true) W := fun W => by rw [eql_edge, decide_eq_true he]
              unfold ev at hnq
              clear he
              go_wp2_with fail
              go_quiet (fail)
              go_wp2_with fail
              go_roundw
              case rel => exact ⟨j + 1, by omega, by go_num, by rw [HH.out]; rfl, hsi.drewN _⟩
              case measure => simp [intOf]; omega
            · have HH : Hid (lastIx L (turnC c) (j + 1) = lastIx L (turnC c) j) := lastIx_miss hxj (fun e => by have := ((turn_iff _ _).1 (HAJ.out.trans e)).2; rw [hai, hci] at this; cases this)
              rw [hai] at e0
              rw [hci] at d0
              clear hai hci
              have hnq : ∀ W : World, (binOp .eql 93 (ev a.ed) (ev c.ed)).run Try.prog W = .ok (.bool true) W := fun W => by rw [eql_edge, decide_eq_true he]
              unfold ev at hnq
              clear he
              go_wp2_with fail
              go_quiet (fail)
              go_wp2_with fail
              go_roundw
              case rel => exact ⟨j + 1, by omega, by go_num, by rw [HH.out], hsi.drewN _⟩
              case measure => simp [intOf]; omega
          · have HH : Hid (lastIx L (turnC c) (j + 1) = lastIx L (turnC c) j) := lastIx_miss hxj (fun e => he ((turn_iff _ _).1 (HAJ.out.trans e)).1)
            have hnq : ∀ W : World, (binOp .eql 93 (ev a.ed) (ev c.ed)).run Try.prog W = .ok (.bool false) W := fun W => by rw [eql_edge, decide_eq_false he]
            unfold ev at hnq
            clear he
            go_wp2_with fail
            go_quiet (fail)
            go_wp2_with fail
            go_roundw
            case rel => exact ⟨j + 1, by omega, by go_num, by rw [HH.out], hsi.drewN _⟩
            case measure => simp [intOf]; omega
        · obtain rfl : j = m := by omega
          have HBz := Lib.hid (HB.out.since hsi)
          have HOz := Lib.hid (HOw.out.since hsi)
          have hsz := hsw.trans hsi
          have hs0z := hs0w.trans hsi
          clear HB HOw
          obtain ⟨A, hA⟩ : ∃ A, lastIx L (turnC c) j = A := ⟨_, rfl⟩
          rw [hA]
          cases A with
          | none =>
            have HTK : Hid (netL (x.take (k + 1)) = L ++ [c]) := by unfold Hid; rw [HNX.out]; exact stepN_none (by rw [← HM.out]; exact hA)
            clear hA
            have HLN : Hid (L.length + [c].length ≤ 4194304) := by unfold Hid; have := HM.out; simp; omega
            have HXB : Hid (w1.heap.size = w1.heap.size ∧ y.heap.size = w1.heap.size + 1) := ⟨rfl, by omega⟩
            simp only [atV]
            have HKW : Hid (∀ w', Since w1 w' → w'.cell? ⟨w.heap.size, 0, none⟩ = some (.slice (some ⟨be, oe, none⟩) n bc) ∧ (w'.cell? ⟨be, oe + k * 5, none⟩ = some (.bool c.ins) ∧ w'.cell? ⟨be, oe + k * 5 + 1, none⟩ = some (.int .i64 c.ed.id) ∧ w'.cell? ⟨be, oe + k * 5 + 2, none⟩ = some (.int .i64 c.ed.fr) ∧ w'.cell? ⟨be, oe + k * 5 + 3, none⟩ = some (.int .i64 (Edg.to c.ed)) ∧ w'.cell? ⟨be, oe + k * 5 + 4, none⟩ = some (.int .i64 c.ed.lb))) := by
              intro w' hs
              obtain ⟨x0, _⟩ := (BW.out.since hs).one
              have s1 := since_cells (hs01.trans hs) hbe
              obtain ⟨d0, d1, d2, d3, d4⟩ := HD.out
              exact ⟨x0, (s1 _).trans d0, (s1 _).trans d1, (s1 _).trans d2, (s1 _).trans d3, (s1 _).trans d4⟩
            have HKC : Hid (∀ w', Since wr w' → w'.cell? ⟨w.heap.size, 0, none⟩ = some (.slice (some ⟨be, oe, none⟩) n bc) ∧ (w'.cell? ⟨be, oe + k * 5, none⟩ = some (.bool c.ins) ∧ w'.cell? ⟨be, oe + k * 5 + 1, none⟩ = some (.int .i64 c.ed.id) ∧ w'.cell? ⟨be, oe + k * 5 + 2, none⟩ = some (.int .i64 c.ed.fr) ∧ w'.cell? ⟨be, oe + k * 5 + 3, none⟩ = some (.int .i64 (Edg.to c.ed)) ∧ w'.cell? ⟨be, oe + k * 5 + 4, none⟩ = some (.int .i64 c.ed.lb))) := fun w' hs => HKW.out w' (hsz.trans hs)
            generalize hvv : Value.slice vo j vc = v at HBz HOz q0
            go_wp2_with fail
            clear p0 q0
            refine wp_region_held_drew (S := (fun w' => w'.cell? ⟨w.heap.size, 0, none⟩ = some (.slice (some ⟨be, oe, none⟩) n bc) ∧ (w'.cell? ⟨be, oe + k * 5, none⟩ = some (.bool c.ins) ∧ w'.cell? ⟨be, oe + k * 5 + 1, none⟩ = some (.int .i64 c.ed.id) ∧ w'.cell? ⟨be, oe + k * 5 + 2, none⟩ = some (.int .i64 c.ed.fr) ∧ w'.cell? ⟨be, oe + k * 5 + 3, none⟩ = some (.int .i64 (Edg.to c.ed)) ∧ w'.cell? ⟨be, oe + k * 5 + 4, none⟩ = some (.int .i64 c.ed.lb)))) (by kernel_rfl) (HKC.out _ (Since.refl _).drew) (fun hHeld => ?_)
            refine take_yes 0 (some 58) (v := ?_) rfl (by kernel_rfl) (by kernel_rfl) (by kernel_rfl) (by kernel_rfl) (fun _ _ _ h => h) (by rfl) (by assumption) ?_ ?_
            rotate_left
            · (intro w' hSw; (try dsimp only at hSw); go_simp; try with_reducible rfl)
            try simp only [Act.put, List.setIfInBounds_toArray, List.set_cons_zero, List.set_cons_succ]
            refine take_yes 2 (some 60) (v := ?_) rfl (by kernel_rfl) (by kernel_rfl) (by kernel_rfl) (by kernel_rfl) (fun _ _ _ h => h) (by rfl) (by assumption) ?_ ?_
            rotate_left
            · (intro w' hSw; (try dsimp only at hSw); go_simp; try with_reducible rfl)
            try simp only [Act.put, List.setIfInBounds_toArray, List.set_cons_zero, List.set_cons_succ]
            refine take_yes 3 (some 61) (v := ?_) rfl (by kernel_rfl) (by kernel_rfl) (by kernel_rfl) (by kernel_rfl) (fun _ _ _ h => h) (by rfl) (by assumption) ?_ ?_
            rotate_left
            · (intro w' hSw; (try dsimp only at hSw); go_simp; try with_reducible rfl)
            try simp only [Act.put, List.setIfInBounds_toArray, List.set_cons_zero, List.set_cons_succ]
            refine take_yes 4 (some 62) (v := ?_) rfl (by kernel_rfl) (by kernel_rfl) (by kernel_rfl) (by kernel_rfl) (fun _ _ _ h => h) (by rfl) (by assumption) ?_ ?_
            rotate_left
            · (intro w' hSw; (try dsimp only at hSw); go_simp; try with_reducible rfl)
            try simp only [Act.put, List.setIfInBounds_toArray, List.set_cons_zero, List.set_cons_succ]
            refine take_yes 5 (some 63) (v := ?_) rfl (by kernel_rfl) (by kernel_rfl) (by kernel_rfl) (by kernel_rfl) (fun _ _ _ h => h) (by rfl) (by assumption) ?_ ?_
            rotate_left
            · (intro w' hSw; (try dsimp only at hSw); go_simp; try with_reducible rfl)
            try simp only [Act.put, List.setIfInBounds_toArray, List.set_cons_zero, List.set_cons_succ]
            refine take_yes 6 (some 64) (v := ?_) rfl (by kernel_rfl) (by kernel_rfl) (by kernel_rfl) (by kernel_rfl) (fun _ _ _ h => h) (by rfl) (by assumption) ?_ ?_
            rotate_left
            · (intro w' hSw; (try dsimp only at hSw); go_simp; try with_reducible rfl)
            try simp only [Act.put, List.setIfInBounds_toArray, List.set_cons_zero, List.set_cons_succ]
            refine take_two 1 7 rfl rfl (by kernel_rfl) (by rfl) (by rfl) (fun K hK => ?_) (fun K hK => ?_)
            · skip
              obtain ⟨q0, q1⟩ := (HBz.out.drew).one
              go_simp
              clear q0 q1
              refine hK.out _ _ (HKC.out _ ((Since.refl wr).drew)) (fun hHeld1 => ?_)
              clear hK K hHeld
              try simp only [Act.put, List.setIfInBounds_toArray, List.set_cons_zero, List.set_cons_succ]
              refine take_run 7 rfl (by kernel_rfl) (by rfl) (fun K hK => ?_)
              go_simp
              have hsb : Since wr (wr.alloc (.cells #[.bool c.ins, .int .i64 c.ed.id, .int .i64 c.ed.fr, .int .i64 (Edg.to c.ed), .int .i64 c.ed.lb] 98)).drew := ((Since.refl wr).alloc (.cells #[.bool c.ins, .int .i64 c.ed.id, .int .i64 c.ed.fr, .int .i64 (Edg.to c.ed), .int .i64 c.ed.lb] 98)).drew
              refine hK.out _ _ (HKC.out _ (hsb)) (fun hHeld2 => ?_)
              clear hK K hHeld1
              try simp only [Act.put, List.setIfInBounds_toArray, List.set_cons_zero, List.set_cons_succ]
              refine take_run 8 rfl (by kernel_rfl) (by rfl) (fun K hK => ?_)
              refine wp_append_chgs (.tmp 59) (.tmp 65) rfl (w1.heap.size + 1) _ (L) rfl (HOz.out.since hsb) _ _ _ rfl [c] ((chg_lit wr c HCI.out).since (Since.refl _).drew) HLN.out (by have := hsb.size; have := HBz.out.lt; omega) ?_
              intro v4 w4 ho4 hg4 hb4
              rw [← HTK.out] at ho4
              have hc4 : Since w1 w4 := (hsz.trans hsb).grown hg4 (fun q hq => by have := (HOz.out.since hsb).2.lt q hq; have := HXB.out; omega)
              have HB4 : Hid (Blk w4 w1.heap.size 29 #[v]) := (HBz.out.since hsb).grwC hg4 (fun e => by have := (HOz.out.since hsb).2.lt (w1.heap.size) e.symm; omega)
              obtain ⟨o4, c4, hv4⟩ := ho4.len
              obtain ⟨n4, hn4⟩ : ∃ n, (netL (x.take (k + 1))).length = n := ⟨_, rfl⟩
              rw [hn4] at hv4
              subst hv4
              clear hn4
              have hS4 := HKW.out _ hc4
              refine hK.out _ _ hS4 (fun hHeld3 => ?_)
              clear hK K hHeld2
              try simp only [Act.put, List.setIfInBounds_toArray, List.set_cons_zero, List.set_cons_succ]
              refine take_yes 9 (some 67) (v := ?_) rfl (by kernel_rfl) (by kernel_rfl) (by kernel_rfl) (by kernel_rfl) (fun _ _ _ h => h) (by rfl) (by assumption) ?_ ?_
              rotate_left
              · (intro w' hSw; (try dsimp only at hSw); go_simp; try with_reducible rfl)
              try simp only [Act.put, List.setIfInBounds_toArray, List.set_cons_zero, List.set_cons_succ]
              refine take_run 10 rfl (by kernel_rfl) (by rfl) (fun K hK => ?_)
              obtain ⟨q0, q1⟩ := HB4.out.one
              go_simp
              clear q0 q1
              have hcz : Since w1 (w4.setCell ⟨w1.heap.size, 0, none⟩ (.slice o4 n4 c4)) := hc4.setCell (by have := HXB.out; show w1.heap.size ≤ w1.heap.size; omega) _
              refine hK.out _ _ (HKW.out _ hcz) (fun hHeld4 => ?_)
              clear hK K hHeld3
              try simp only [Act.put, List.setIfInBounds_toArray, List.set_cons_zero, List.set_cons_succ]
              refine wpAnyH_done (by kernel_rfl) ?_ _
              clear hHeld4
              have HB5 : Hid (Blk (w4.setCell ⟨w1.heap.size, 0, none⟩ (.slice o4 n4 c4)) (w1.heap.size) 29 #[.slice o4 n4 c4]) := HB4.out.set 0 (.slice o4 n4 c4)
              have HO5 := Lib.hid (ho4.far (p := ⟨w1.heap.size, 0, none⟩) (by show (w1.heap.size : Nat) < w1.heap.size + 1; omega) (.slice o4 n4 c4))
              clear hc4 HB4 hsb hb4 hg4
              go_wp2
              go_roundw
              case rel => exact ⟨k + 1, _, by omega, by go_num, HB5.out, HO5.out, hcz⟩
              case measure => simp [intOf]; omega
            · skip
              go_simp
              have hsb : Since wr (wr.alloc (.cells #[.bool c.ins, .int .i64 c.ed.id, .int .i64 c.ed.fr, .int .i64 (Edg.to c.ed), .int .i64 c.ed.lb] 98)).drew := ((Since.refl wr).alloc (.cells #[.bool c.ins, .int .i64 c.ed.id, .int .i64 c.ed.fr, .int .i64 (Edg.to c.ed), .int .i64 c.ed.lb] 98)).drew
              refine hK.out _ _ (HKC.out _ (hsb)) (fun hHeld1 => ?_)
              clear hK K hHeld
              try simp only [Act.put, List.setIfInBounds_toArray, List.set_cons_zero, List.set_cons_succ]
              refine take_run 1 rfl (by kernel_rfl) (by rfl) (fun K hK => ?_)
              obtain ⟨q0, q1⟩ := (HBz.out.since hsb).one
              go_simp
              clear q0 q1
              refine hK.out _ _ (HKC.out _ (hsb)) (fun hHeld2 => ?_)
              clear hK K hHeld1
              try simp only [Act.put, List.setIfInBounds_toArray, List.set_cons_zero, List.set_cons_succ]
              refine take_run 8 rfl (by kernel_rfl) (by rfl) (fun K hK => ?_)
              refine wp_append_chgs (.tmp 59) (.tmp 65) rfl (w1.heap.size + 1) _ (L) rfl (HOz.out.since hsb) _ _ _ rfl [c] ((chg_lit wr c HCI.out).since (Since.refl _).drew) HLN.out (by have := hsb.size; have := HBz.out.lt; omega) ?_
              intro v4 w4 ho4 hg4 hb4
              rw [← HTK.out] at ho4
              have hc4 : Since w1 w4 := (hsz.trans hsb).grown hg4 (fun q hq => by have := (HOz.out.since hsb).2.lt q hq; have := HXB.out; omega)
              have HB4 : Hid (Blk w4 w1.heap.size 29 #[v]) := (HBz.out.since hsb).grwC hg4 (fun e => by have := (HOz.out.since hsb).2.lt (w1.heap.size) e.symm; omega)
              obtain ⟨o4, c4, hv4⟩ := ho4.len
              obtain ⟨n4, hn4⟩ : ∃ n, (netL (x.take (k + 1))).length = n := ⟨_, rfl⟩
              rw [hn4] at hv4
              subst hv4
              clear hn4
              have hS4 := HKW.out _ hc4
              refine hK.out _ _ hS4 (fun hHeld3 => ?_)
              clear hK K hHeld2
              try simp only [Act.put, List.setIfInBounds_toArray, List.set_cons_zero, List.set_cons_succ]
              refine take_yes 9 (some 67) (v := ?_) rfl (by kernel_rfl) (by kernel_rfl) (by kernel_rfl) (by kernel_rfl) (fun _ _ _ h => h) (by rfl) (by assumption) ?_ ?_
              rotate_left
              · (intro w' hSw; (try dsimp only at hSw); go_simp; try with_reducible rfl)
              try simp only [Act.put, List.setIfInBounds_toArray, List.set_cons_zero, List.set_cons_succ]
              refine take_run 10 rfl (by kernel_rfl) (by rfl) (fun K hK => ?_)
              obtain ⟨q0, q1⟩ := HB4.out.one
              go_simp
              clear q0 q1
              have hcz : Since w1 (w4.setCell ⟨w1.heap.size, 0, none⟩ (.slice o4 n4 c4)) := hc4.setCell (by have := HXB.out; show w1.heap.size ≤ w1.heap.size; omega) _
              refine hK.out _ _ (HKW.out _ hcz) (fun hHeld4 => ?_)
              clear hK K hHeld3
              try simp only [Act.put, List.setIfInBounds_toArray, List.set_cons_zero, List.set_cons_succ]
              refine wpAnyH_done (by kernel_rfl) ?_ _
              clear hHeld4
              have HB5 : Hid (Blk (w4.setCell ⟨w1.heap.size, 0, none⟩ (.slice o4 n4 c4)) (w1.heap.size) 29 #[.slice o4 n4 c4]) := HB4.out.set 0 (.slice o4 n4 c4)
              have HO5 := Lib.hid (ho4.far (p := ⟨w1.heap.size, 0, none⟩) (by show (w1.heap.size : Nat) < w1.heap.size + 1; omega) (.slice o4 n4 c4))
              clear hc4 HB4 hsb hb4 hg4
              go_wp2
              go_roundw
              case rel => exact ⟨k + 1, _, by omega, by go_num, HB5.out, HO5.out, hcz⟩
              case measure => simp [intOf]; omega
          | some q =>
            have HTK : Hid (netL (x.take (k + 1)) = L.take q ++ L.drop (q + 1)) := by unfold Hid; rw [HNX.out]; exact stepN_at (by rw [← HM.out]; exact hA)
            have hq0 := (lastIx_some hA).1
            clear hA
            obtain ⟨gx, xc, hvx, hgx⟩ := own_block (HOz.out.row HM.out) (by omega)
            injection hvx with e1 e2 e3
            subst e1; subst e3
            have hjc : j ≤ vc := by
              rcases HOz.out.2.2 with ⟨e, _⟩ | ⟨g, cap, cur, e, _, _, hc, _⟩
              · cases e
              · injection e with _ e1 e2; omega
            have HLA := Lib.hid HOz.out.at
            have hqm : q ≤ j := by omega
            have hqm2 : q + 1 ≤ j := by omega
            have hqc : q ≤ vc := by omega
            have hqc2 : q + 1 ≤ vc := by omega
            have iq0 : (0 : Int) ≤ (q : Int) := by omega
            have iq1 : (q : Int) ≤ (vc : Int) := by omega
            have iq2 : (0 : Int) ≤ (q : Int) + 1 := by omega
            have iq3 : (q : Int) + 1 ≤ (j : Int) := by omega
            have iqn : ¬ (q : Int) < 0 := by omega
            have hwr : IntKind.i64.wrap ((q : Int) + 1) = (q : Int) + 1 := by rw [IntKind.wrap_i64]; omega
            simp only [atV]
            have HKW : Hid (∀ w', Since w1 w' → w'.cell? ⟨w.heap.size, 0, none⟩ = some (.slice (some ⟨be, oe, none⟩) n bc)) := by
              intro w' hs
              obtain ⟨x0, _⟩ := (BW.out.since hs).one
              exact x0
            have HKC : Hid (∀ w', Since wr w' → w'.cell? ⟨w.heap.size, 0, none⟩ = some (.slice (some ⟨be, oe, none⟩) n bc)) := fun w' hs => HKW.out w' (hsz.trans hs)
            clear e2
            go_wp2_with fail
            clear p0 q0
            refine wp_region_held_drew (S := (fun w' => w'.cell? ⟨w.heap.size, 0, none⟩ = some (.slice (some ⟨be, oe, none⟩) n bc))) (by kernel_rfl) (HKC.out _ (Since.refl _).drew) (fun hHeld => ?_)
            refine take_yes 1 (some 69) (v := ?_) rfl (by kernel_rfl) (by kernel_rfl) (by kernel_rfl) (by kernel_rfl) (fun _ _ _ h => h) (by rfl) (by assumption) ?_ ?_
            rotate_left
            · (intro w' hSw; (try dsimp only at hSw); go_simp; try with_reducible rfl)
            try simp only [Act.put, List.setIfInBounds_toArray, List.set_cons_zero, List.set_cons_succ]
            refine take_yes 3 (some 71) (v := ?_) rfl (by kernel_rfl) (by kernel_rfl) (by kernel_rfl) (by kernel_rfl) (fun _ _ _ h => h) (by rfl) (by assumption) ?_ ?_
            rotate_left
            · (intro w' hSw; (try dsimp only at hSw); go_simp; try with_reducible rfl)
            try simp only [Act.put, List.setIfInBounds_toArray, List.set_cons_zero, List.set_cons_succ]
            refine take_yes 6 (some 74) (v := ?_) rfl (by kernel_rfl) (by kernel_rfl) (by kernel_rfl) (by kernel_rfl) (fun _ _ _ h => h) (by rfl) (by assumption) ?_ ?_
            rotate_left
            · (intro w' hSw; (try dsimp only at hSw); go_simp; try with_reducible rfl)
            try simp only [Act.put, List.setIfInBounds_toArray, List.set_cons_zero, List.set_cons_succ]
            refine take_yes 8 (some 76) (v := ?_) rfl (by kernel_rfl) (by kernel_rfl) (by kernel_rfl) (by kernel_rfl) (fun _ _ _ h => h) (by rfl) (by assumption) ?_ ?_
            rotate_left
            · (intro w' hSw; (try dsimp only at hSw); go_simp; try with_reducible rfl)
            try simp only [Act.put, List.setIfInBounds_toArray, List.set_cons_zero, List.set_cons_succ]
            refine take_yes 9 (some 77) (v := ?_) rfl (by kernel_rfl) (by kernel_rfl) (by kernel_rfl) (by kernel_rfl) (fun _ _ _ h => h) (by rfl) (by assumption) ?_ ?_
            rotate_left
            · (intro w' hSw; (try dsimp only at hSw); go_simp; try with_reducible rfl)
            try simp only [Act.put, List.setIfInBounds_toArray, List.set_cons_zero, List.set_cons_succ]
            refine take_three 0 2 7 rfl rfl rfl (by kernel_rfl) (by rfl) (by rfl) (by rfl) (fun K hK => ?_) (fun K hK => ?_) (fun K hK => ?_)
            · skip
              go_simp
              have hsb : Since wr (wr.alloc (.cells #[] 98)).drew := ((Since.refl wr).alloc (.cells #[] 98)).drew
              have FC0 := Lib.hid ((ownC_lit wr wr (Since.refl _) wr.heap.size rfl).since (Since.refl _).drew)
              have FC : Hid (OwnC (w1.heap.size + 1) (wr.alloc (.cells #[] 98)).drew (.slice (some ⟨wr.heap.size, 0, none⟩) 0 0) []) := ((ownC_lit wr wr (Since.refl _) wr.heap.size rfl).mono (by have := HBz.out.lt; omega)).since (Since.refl _).drew
              refine hK.out _ _ (HKC.out _ (hsb)) (fun hHeld1 => ?_)
              clear hK K hHeld
              try simp only [Act.put, List.setIfInBounds_toArray, List.set_cons_zero, List.set_cons_succ]
              refine take_two 2 7 rfl rfl (by kernel_rfl) (by rfl) (by rfl) (fun K hK => ?_) (fun K hK => ?_)
              · skip
                obtain ⟨q0, q1⟩ := (HBz.out.since hsb).one
                go_simp
                clear q0 q1
                refine hK.out _ _ (HKC.out _ (hsb)) (fun hHeld2 => ?_)
                clear hK K hHeld1
                try simp only [Act.put, List.setIfInBounds_toArray, List.set_cons_zero, List.set_cons_succ]
                refine take_yes 4 (some 72) (v := ?_) rfl (by kernel_rfl) (by kernel_rfl) (by kernel_rfl) (by kernel_rfl) (fun _ _ _ h => h) (by rfl) (by assumption) ?_ ?_
                rotate_left
                · (intro w' hSw; (try dsimp only at hSw); go_simp; try with_reducible rfl)
                try simp only [Act.put, List.setIfInBounds_toArray, List.set_cons_zero, List.set_cons_succ]
                refine take_two 5 7 rfl rfl (by kernel_rfl) (by rfl) (by rfl) (fun K hK => ?_) (fun K hK => ?_)
                · skip
                  refine wp_append_chgs (.tmp 68) (.tmp 72) rfl (w1.heap.size + 1) _ [] rfl FC.out _ _ _ rfl (L.take q) (chgs_takeO (HLA.out.since (hsb)) hqm _ _ (by intro b off e; simpa using e)) (by simp; omega) (by have := Since.lt hsb; have := HBz.out.lt; omega) ?_
                  intro v4 w4 ho4 hg4 hb4
                  rw [List.nil_append] at ho4
                  have hc4 : Since wr w4 := Since.grown hsb hg4 (fun z hz => (FC0.out.2.lt z hz).1)
                  obtain ⟨o4, c4, hv4⟩ := ho4.len
                  obtain ⟨n4, hn4⟩ : ∃ n, (L.take q).length = n := ⟨_, rfl⟩
                  rw [hn4] at hv4
                  subst hv4
                  clear hn4
                  refine hK.out _ _ (HKC.out _ hc4) (fun hHeld3 => ?_)
                  clear hK K hHeld2
                  try simp only [Act.put, List.setIfInBounds_toArray, List.set_cons_zero, List.set_cons_succ]
                  refine take_run 7 rfl (by kernel_rfl) (by rfl) (fun K hK => ?_)
                  obtain ⟨q0, q1⟩ := (HBz.out.since hc4).one
                  go_simp
                  clear q0 q1
                  refine hK.out _ _ (HKC.out _ (hc4)) (fun hHeld4 => ?_)
                  clear hK K hHeld3
                  try simp only [Act.put, List.setIfInBounds_toArray, List.set_cons_zero, List.set_cons_succ]
                  refine take_yes 10 (some 78) (v := ?_) rfl (by kernel_rfl) (by kernel_rfl) (by kernel_rfl) (by kernel_rfl) (fun _ _ _ h => h) (by rfl) (by assumption) ?_ ?_
                  rotate_left
                  · (intro w' hSw; (try dsimp only at hSw); go_simp; try with_reducible rfl)
                  try simp only [Act.put, List.setIfInBounds_toArray, List.set_cons_zero, List.set_cons_succ]
                  refine take_run 11 rfl (by kernel_rfl) (by rfl) (fun K hK => ?_)
                  refine wp_append_chgs (.tmp 73) (.tmp 78) rfl (w1.heap.size + 1) _ (L.take q) rfl (ho4) _ _ _ rfl (L.drop (q + 1)) (chgs_dropO (HLA.out.since hc4) hqm2 _ _ _ (by simp) (by intro hlt b off e; simp only [Option.some.injEq, Addr.mk.injEq] at e; obtain ⟨e1, e2, _⟩ := e; subst e1; subst e2; rw [if_neg (by omega)]; simp [Addr.add])) (by have := HM.out; simp; omega) (by have := hc4.size; have := HBz.out.lt; omega) ?_
                  intro v5 w5 ho5 hg5 hb5
                  rw [← HTK.out] at ho5
                  have hbw : Since wr w5 := hc4.grown hg5 (fun z hz => by
                    have hz2 : (Value.slice o4 n4 c4).ownBlock = some z := hz
                    rcases hb4 with h | h
                    · rw [h] at hz2; exact (FC0.out.2.lt z hz2).1
                    · rw [h] at hz2; injection hz2 with hz2; have := Since.lt hsb; omega)
                  have hc5 : Since w1 w5 := hsz.trans hbw
                  have HB4 := Lib.hid (HBz.out.since hbw)
                  obtain ⟨o5, c5, hv5⟩ := ho5.len
                  obtain ⟨n5, hn5⟩ : ∃ n, (netL (x.take (k + 1))).length = n := ⟨_, rfl⟩
                  rw [hn5] at hv5
                  subst hv5
                  clear hn5
                  refine hK.out _ _ (HKC.out _ hbw) (fun hHeld5 => ?_)
                  clear hK K hHeld4
                  try simp only [Act.put, List.setIfInBounds_toArray, List.set_cons_zero, List.set_cons_succ]
                  refine take_yes 12 (some 80) (v := ?_) rfl (by kernel_rfl) (by kernel_rfl) (by kernel_rfl) (by kernel_rfl) (fun _ _ _ h => h) (by rfl) (by assumption) ?_ ?_
                  rotate_left
                  · (intro w' hSw; (try dsimp only at hSw); go_simp; try with_reducible rfl)
                  try simp only [Act.put, List.setIfInBounds_toArray, List.set_cons_zero, List.set_cons_succ]
                  refine take_run 13 rfl (by kernel_rfl) (by rfl) (fun K hK => ?_)
                  obtain ⟨q0, q1⟩ := HB4.out.one
                  go_simp
                  clear q0 q1
                  have hcz : Since w1 (w5.setCell ⟨w1.heap.size, 0, none⟩ (.slice o5 n5 c5)) := hc5.setCell (by show w1.heap.size ≤ w1.heap.size; omega) _
                  refine hK.out _ _ (HKW.out _ hcz) (fun hHeld6 => ?_)
                  clear hK K hHeld5
                  try simp only [Act.put, List.setIfInBounds_toArray, List.set_cons_zero, List.set_cons_succ]
                  refine wpAnyH_done (by kernel_rfl) ?_ _
                  clear hHeld6
                  have HB5 : Hid (Blk (w5.setCell ⟨w1.heap.size, 0, none⟩ (.slice o5 n5 c5)) (w1.heap.size) 29 #[.slice o5 n5 c5]) := HB4.out.set 0 (.slice o5 n5 c5)
                  have HO5 := Lib.hid (ho5.far (p := ⟨w1.heap.size, 0, none⟩) (by show w1.heap.size < w1.heap.size + 1; omega) (.slice o5 n5 c5))
                  clear hc4 HB4 hsb hb4 hg4 hbw hc5 hg5 hb5 ho4
                  go_wp2
                  go_roundw
                  case rel => exact ⟨k + 1, _, by omega, by go_num, HB5.out, HO5.out, hcz⟩
                  case measure => simp [intOf]; omega
                · skip
                  obtain ⟨q0, q1⟩ := (HBz.out.since hsb).one
                  go_simp
                  clear q0 q1
                  refine hK.out _ _ (HKC.out _ (hsb)) (fun hHeld3 => ?_)
                  clear hK K hHeld2
                  try simp only [Act.put, List.setIfInBounds_toArray, List.set_cons_zero, List.set_cons_succ]
                  refine take_yes 10 (some 78) (v := ?_) rfl (by kernel_rfl) (by kernel_rfl) (by kernel_rfl) (by kernel_rfl) (fun _ _ _ h => h) (by rfl) (by assumption) ?_ ?_
                  rotate_left
                  · (intro w' hSw; (try dsimp only at hSw); go_simp; try with_reducible rfl)
                  try simp only [Act.put, List.setIfInBounds_toArray, List.set_cons_zero, List.set_cons_succ]
                  refine take_run 5 rfl (by kernel_rfl) (by rfl) (fun K hK => ?_)
                  refine wp_append_chgs (.tmp 68) (.tmp 72) rfl (w1.heap.size + 1) _ [] rfl FC.out _ _ _ rfl (L.take q) (chgs_takeO (HLA.out.since (hsb)) hqm _ _ (by intro b off e; simpa using e)) (by simp; omega) (by have := Since.lt hsb; have := HBz.out.lt; omega) ?_
                  intro v4 w4 ho4 hg4 hb4
                  rw [List.nil_append] at ho4
                  have hc4 : Since wr w4 := Since.grown hsb hg4 (fun z hz => (FC0.out.2.lt z hz).1)
                  obtain ⟨o4, c4, hv4⟩ := ho4.len
                  obtain ⟨n4, hn4⟩ : ∃ n, (L.take q).length = n := ⟨_, rfl⟩
                  rw [hn4] at hv4
                  subst hv4
                  clear hn4
                  refine hK.out _ _ (HKC.out _ hc4) (fun hHeld4 => ?_)
                  clear hK K hHeld3
                  try simp only [Act.put, List.setIfInBounds_toArray, List.set_cons_zero, List.set_cons_succ]
                  refine take_run 11 rfl (by kernel_rfl) (by rfl) (fun K hK => ?_)
                  refine wp_append_chgs (.tmp 73) (.tmp 78) rfl (w1.heap.size + 1) _ (L.take q) rfl (ho4) _ _ _ rfl (L.drop (q + 1)) (chgs_dropO (HLA.out.since hc4) hqm2 _ _ _ (by simp) (by intro hlt b off e; simp only [Option.some.injEq, Addr.mk.injEq] at e; obtain ⟨e1, e2, _⟩ := e; subst e1; subst e2; rw [if_neg (by omega)]; simp [Addr.add])) (by have := HM.out; simp; omega) (by have := hc4.size; have := HBz.out.lt; omega) ?_
                  intro v5 w5 ho5 hg5 hb5
                  rw [← HTK.out] at ho5
                  have hbw : Since wr w5 := hc4.grown hg5 (fun z hz => by
                    have hz2 : (Value.slice o4 n4 c4).ownBlock = some z := hz
                    rcases hb4 with h | h
                    · rw [h] at hz2; exact (FC0.out.2.lt z hz2).1
                    · rw [h] at hz2; injection hz2 with hz2; have := Since.lt hsb; omega)
                  have hc5 : Since w1 w5 := hsz.trans hbw
                  have HB4 := Lib.hid (HBz.out.since hbw)
                  obtain ⟨o5, c5, hv5⟩ := ho5.len
                  obtain ⟨n5, hn5⟩ : ∃ n, (netL (x.take (k + 1))).length = n := ⟨_, rfl⟩
                  rw [hn5] at hv5
                  subst hv5
                  clear hn5
                  refine hK.out _ _ (HKC.out _ hbw) (fun hHeld5 => ?_)
                  clear hK K hHeld4
                  try simp only [Act.put, List.setIfInBounds_toArray, List.set_cons_zero, List.set_cons_succ]
                  refine take_yes 12 (some 80) (v := ?_) rfl (by kernel_rfl) (by kernel_rfl) (by kernel_rfl) (by kernel_rfl) (fun _ _ _ h => h) (by rfl) (by assumption) ?_ ?_
                  rotate_left
                  · (intro w' hSw; (try dsimp only at hSw); go_simp; try with_reducible rfl)
                  try simp only [Act.put, List.setIfInBounds_toArray, List.set_cons_zero, List.set_cons_succ]
                  refine take_run 13 rfl (by kernel_rfl) (by rfl) (fun K hK => ?_)
                  obtain ⟨q0, q1⟩ := HB4.out.one
                  go_simp
                  clear q0 q1
                  have hcz : Since w1 (w5.setCell ⟨w1.heap.size, 0, none⟩ (.slice o5 n5 c5)) := hc5.setCell (by show w1.heap.size ≤ w1.heap.size; omega) _
                  refine hK.out _ _ (HKW.out _ hcz) (fun hHeld6 => ?_)
                  clear hK K hHeld5
                  try simp only [Act.put, List.setIfInBounds_toArray, List.set_cons_zero, List.set_cons_succ]
                  refine wpAnyH_done (by kernel_rfl) ?_ _
                  clear hHeld6
                  have HB5 : Hid (Blk (w5.setCell ⟨w1.heap.size, 0, none⟩ (.slice o5 n5 c5)) (w1.heap.size) 29 #[.slice o5 n5 c5]) := HB4.out.set 0 (.slice o5 n5 c5)
                  have HO5 := Lib.hid (ho5.far (p := ⟨w1.heap.size, 0, none⟩) (by show w1.heap.size < w1.heap.size + 1; omega) (.slice o5 n5 c5))
                  clear hc4 HB4 hsb hb4 hg4 hbw hc5 hg5 hb5 ho4
                  go_wp2
                  go_roundw
                  case rel => exact ⟨k + 1, _, by omega, by go_num, HB5.out, HO5.out, hcz⟩
                  case measure => simp [intOf]; omega
              · skip
                obtain ⟨q0, q1⟩ := (HBz.out.since hsb).one
                go_simp
                clear q0 q1
                refine hK.out _ _ (HKC.out _ (hsb)) (fun hHeld2 => ?_)
                clear hK K hHeld1
                try simp only [Act.put, List.setIfInBounds_toArray, List.set_cons_zero, List.set_cons_succ]
                refine take_yes 10 (some 78) (v := ?_) rfl (by kernel_rfl) (by kernel_rfl) (by kernel_rfl) (by kernel_rfl) (fun _ _ _ h => h) (by rfl) (by assumption) ?_ ?_
                rotate_left
                · (intro w' hSw; (try dsimp only at hSw); go_simp; try with_reducible rfl)
                try simp only [Act.put, List.setIfInBounds_toArray, List.set_cons_zero, List.set_cons_succ]
                refine take_run 2 rfl (by kernel_rfl) (by rfl) (fun K hK => ?_)
                obtain ⟨q0, q1⟩ := (HBz.out.since hsb).one
                go_simp
                clear q0 q1
                refine hK.out _ _ (HKC.out _ (hsb)) (fun hHeld3 => ?_)
                clear hK K hHeld2
                try simp only [Act.put, List.setIfInBounds_toArray, List.set_cons_zero, List.set_cons_succ]
                refine take_yes 4 (some 72) (v := ?_) rfl (by kernel_rfl) (by kernel_rfl) (by kernel_rfl) (by kernel_rfl) (fun _ _ _ h => h) (by rfl) (by assumption) ?_ ?_
                rotate_left
                · (intro w' hSw; (try dsimp only at hSw); go_simp; try with_reducible rfl)
                try simp only [Act.put, List.setIfInBounds_toArray, List.set_cons_zero, List.set_cons_succ]
                refine take_run 5 rfl (by kernel_rfl) (by rfl) (fun K hK => ?_)
                refine wp_append_chgs (.tmp 68) (.tmp 72) rfl (w1.heap.size + 1) _ [] rfl FC.out _ _ _ rfl (L.take q) (chgs_takeO (HLA.out.since (hsb)) hqm _ _ (by intro b off e; simpa using e)) (by simp; omega) (by have := Since.lt hsb; have := HBz.out.lt; omega) ?_
                intro v4 w4 ho4 hg4 hb4
                rw [List.nil_append] at ho4
                have hc4 : Since wr w4 := Since.grown hsb hg4 (fun z hz => (FC0.out.2.lt z hz).1)
                obtain ⟨o4, c4, hv4⟩ := ho4.len
                obtain ⟨n4, hn4⟩ : ∃ n, (L.take q).length = n := ⟨_, rfl⟩
                rw [hn4] at hv4
                subst hv4
                clear hn4
                refine hK.out _ _ (HKC.out _ hc4) (fun hHeld4 => ?_)
                clear hK K hHeld3
                try simp only [Act.put, List.setIfInBounds_toArray, List.set_cons_zero, List.set_cons_succ]
                refine take_run 11 rfl (by kernel_rfl) (by rfl) (fun K hK => ?_)
                refine wp_append_chgs (.tmp 73) (.tmp 78) rfl (w1.heap.size + 1) _ (L.take q) rfl (ho4) _ _ _ rfl (L.drop (q + 1)) (chgs_dropO (HLA.out.since hc4) hqm2 _ _ _ (by simp) (by intro hlt b off e; simp only [Option.some.injEq, Addr.mk.injEq] at e; obtain ⟨e1, e2, _⟩ := e; subst e1; subst e2; rw [if_neg (by omega)]; simp [Addr.add])) (by have := HM.out; simp; omega) (by have := hc4.size; have := HBz.out.lt; omega) ?_
                intro v5 w5 ho5 hg5 hb5
                rw [← HTK.out] at ho5
                have hbw : Since wr w5 := hc4.grown hg5 (fun z hz => by
                  have hz2 : (Value.slice o4 n4 c4).ownBlock = some z := hz
                  rcases hb4 with h | h
                  · rw [h] at hz2; exact (FC0.out.2.lt z hz2).1
                  · rw [h] at hz2; injection hz2 with hz2; have := Since.lt hsb; omega)
                have hc5 : Since w1 w5 := hsz.trans hbw
                have HB4 := Lib.hid (HBz.out.since hbw)
                obtain ⟨o5, c5, hv5⟩ := ho5.len
                obtain ⟨n5, hn5⟩ : ∃ n, (netL (x.take (k + 1))).length = n := ⟨_, rfl⟩
                rw [hn5] at hv5
                subst hv5
                clear hn5
                refine hK.out _ _ (HKC.out _ hbw) (fun hHeld5 => ?_)
                clear hK K hHeld4
                try simp only [Act.put, List.setIfInBounds_toArray, List.set_cons_zero, List.set_cons_succ]
                refine take_yes 12 (some 80) (v := ?_) rfl (by kernel_rfl) (by kernel_rfl) (by kernel_rfl) (by kernel_rfl) (fun _ _ _ h => h) (by rfl) (by assumption) ?_ ?_
                rotate_left
                · (intro w' hSw; (try dsimp only at hSw); go_simp; try with_reducible rfl)
                try simp only [Act.put, List.setIfInBounds_toArray, List.set_cons_zero, List.set_cons_succ]
                refine take_run 13 rfl (by kernel_rfl) (by rfl) (fun K hK => ?_)
                obtain ⟨q0, q1⟩ := HB4.out.one
                go_simp
                clear q0 q1
                have hcz : Since w1 (w5.setCell ⟨w1.heap.size, 0, none⟩ (.slice o5 n5 c5)) := hc5.setCell (by show w1.heap.size ≤ w1.heap.size; omega) _
                refine hK.out _ _ (HKW.out _ hcz) (fun hHeld6 => ?_)
                clear hK K hHeld5
                try simp only [Act.put, List.setIfInBounds_toArray, List.set_cons_zero, List.set_cons_succ]
                refine wpAnyH_done (by kernel_rfl) ?_ _
                clear hHeld6
                have HB5 : Hid (Blk (w5.setCell ⟨w1.heap.size, 0, none⟩ (.slice o5 n5 c5)) (w1.heap.size) 29 #[.slice o5 n5 c5]) := HB4.out.set 0 (.slice o5 n5 c5)
                have HO5 := Lib.hid (ho5.far (p := ⟨w1.heap.size, 0, none⟩) (by show w1.heap.size < w1.heap.size + 1; omega) (.slice o5 n5 c5))
                clear hc4 HB4 hsb hb4 hg4 hbw hc5 hg5 hb5 ho4
                go_wp2
                go_roundw
                case rel => exact ⟨k + 1, _, by omega, by go_num, HB5.out, HO5.out, hcz⟩
                case measure => simp [intOf]; omega
            · skip
              obtain ⟨q0, q1⟩ := (HBz.out.since (Since.refl wr).drew).one
              go_simp
              clear q0 q1
              refine hK.out _ _ (HKC.out _ ((Since.refl wr).drew)) (fun hHeld1 => ?_)
              clear hK K hHeld
              try simp only [Act.put, List.setIfInBounds_toArray, List.set_cons_zero, List.set_cons_succ]
              refine take_yes 4 (some 72) (v := ?_) rfl (by kernel_rfl) (by kernel_rfl) (by kernel_rfl) (by kernel_rfl) (fun _ _ _ h => h) (by rfl) (by assumption) ?_ ?_
              rotate_left
              · (intro w' hSw; (try dsimp only at hSw); go_simp; try with_reducible rfl)
              try simp only [Act.put, List.setIfInBounds_toArray, List.set_cons_zero, List.set_cons_succ]
              refine take_two 0 7 rfl rfl (by kernel_rfl) (by rfl) (by rfl) (fun K hK => ?_) (fun K hK => ?_)
              · skip
                go_simp
                have hsb : Since wr (wr.alloc (.cells #[] 98)).drew := ((Since.refl wr).alloc (.cells #[] 98)).drew
                have FC0 := Lib.hid ((ownC_lit wr wr (Since.refl _) wr.heap.size rfl).since (Since.refl _).drew)
                have FC : Hid (OwnC (w1.heap.size + 1) (wr.alloc (.cells #[] 98)).drew (.slice (some ⟨wr.heap.size, 0, none⟩) 0 0) []) := ((ownC_lit wr wr (Since.refl _) wr.heap.size rfl).mono (by have := HBz.out.lt; omega)).since (Since.refl _).drew
                refine hK.out _ _ (HKC.out _ (hsb)) (fun hHeld2 => ?_)
                clear hK K hHeld1
                try simp only [Act.put, List.setIfInBounds_toArray, List.set_cons_zero, List.set_cons_succ]
                refine take_two 5 7 rfl rfl (by kernel_rfl) (by rfl) (by rfl) (fun K hK => ?_) (fun K hK => ?_)
                · skip
                  refine wp_append_chgs (.tmp 68) (.tmp 72) rfl (w1.heap.size + 1) _ [] rfl FC.out _ _ _ rfl (L.take q) (chgs_takeO (HLA.out.since (hsb)) hqm _ _ (by intro b off e; simpa using e)) (by simp; omega) (by have := Since.lt hsb; have := HBz.out.lt; omega) ?_
                  intro v4 w4 ho4 hg4 hb4
                  rw [List.nil_append] at ho4
                  have hc4 : Since wr w4 := Since.grown hsb hg4 (fun z hz => (FC0.out.2.lt z hz).1)
                  obtain ⟨o4, c4, hv4⟩ := ho4.len
                  obtain ⟨n4, hn4⟩ : ∃ n, (L.take q).length = n := ⟨_, rfl⟩
                  rw [hn4] at hv4
                  subst hv4
                  clear hn4
                  refine hK.out _ _ (HKC.out _ hc4) (fun hHeld3 => ?_)
                  clear hK K hHeld2
                  try simp only [Act.put, List.setIfInBounds_toArray, List.set_cons_zero, List.set_cons_succ]
                  refine take_run 7 rfl (by kernel_rfl) (by rfl) (fun K hK => ?_)
                  obtain ⟨q0, q1⟩ := (HBz.out.since hc4).one
                  go_simp
                  clear q0 q1
                  refine hK.out _ _ (HKC.out _ (hc4)) (fun hHeld4 => ?_)
                  clear hK K hHeld3
                  try simp only [Act.put, List.setIfInBounds_toArray, List.set_cons_zero, List.set_cons_succ]
                  refine take_yes 10 (some 78) (v := ?_) rfl (by kernel_rfl) (by kernel_rfl) (by kernel_rfl) (by kernel_rfl) (fun _ _ _ h => h) (by rfl) (by assumption) ?_ ?_
                  rotate_left
                  · (intro w' hSw; (try dsimp only at hSw); go_simp; try with_reducible rfl)
                  try simp only [Act.put, List.setIfInBounds_toArray, List.set_cons_zero, List.set_cons_succ]
                  refine take_run 11 rfl (by kernel_rfl) (by rfl) (fun K hK => ?_)
                  refine wp_append_chgs (.tmp 73) (.tmp 78) rfl (w1.heap.size + 1) _ (L.take q) rfl (ho4) _ _ _ rfl (L.drop (q + 1)) (chgs_dropO (HLA.out.since hc4) hqm2 _ _ _ (by simp) (by intro hlt b off e; simp only [Option.some.injEq, Addr.mk.injEq] at e; obtain ⟨e1, e2, _⟩ := e; subst e1; subst e2; rw [if_neg (by omega)]; simp [Addr.add])) (by have := HM.out; simp; omega) (by have := hc4.size; have := HBz.out.lt; omega) ?_
                  intro v5 w5 ho5 hg5 hb5
                  rw [← HTK.out] at ho5
                  have hbw : Since wr w5 := hc4.grown hg5 (fun z hz => by
                    have hz2 : (Value.slice o4 n4 c4).ownBlock = some z := hz
                    rcases hb4 with h | h
                    · rw [h] at hz2; exact (FC0.out.2.lt z hz2).1
                    · rw [h] at hz2; injection hz2 with hz2; have := Since.lt hsb; omega)
                  have hc5 : Since w1 w5 := hsz.trans hbw
                  have HB4 := Lib.hid (HBz.out.since hbw)
                  obtain ⟨o5, c5, hv5⟩ := ho5.len
                  obtain ⟨n5, hn5⟩ : ∃ n, (netL (x.take (k + 1))).length = n := ⟨_, rfl⟩
                  rw [hn5] at hv5
                  subst hv5
                  clear hn5
                  refine hK.out _ _ (HKC.out _ hbw) (fun hHeld5 => ?_)
                  clear hK K hHeld4
                  try simp only [Act.put, List.setIfInBounds_toArray, List.set_cons_zero, List.set_cons_succ]
                  refine take_yes 12 (some 80) (v := ?_) rfl (by kernel_rfl) (by kernel_rfl) (by kernel_rfl) (by kernel_rfl) (fun _ _ _ h => h) (by rfl) (by assumption) ?_ ?_
                  rotate_left
                  · (intro w' hSw; (try dsimp only at hSw); go_simp; try with_reducible rfl)
                  try simp only [Act.put, List.setIfInBounds_toArray, List.set_cons_zero, List.set_cons_succ]
                  refine take_run 13 rfl (by kernel_rfl) (by rfl) (fun K hK => ?_)
                  obtain ⟨q0, q1⟩ := HB4.out.one
                  go_simp
                  clear q0 q1
                  have hcz : Since w1 (w5.setCell ⟨w1.heap.size, 0, none⟩ (.slice o5 n5 c5)) := hc5.setCell (by show w1.heap.size ≤ w1.heap.size; omega) _
                  refine hK.out _ _ (HKW.out _ hcz) (fun hHeld6 => ?_)
                  clear hK K hHeld5
                  try simp only [Act.put, List.setIfInBounds_toArray, List.set_cons_zero, List.set_cons_succ]
                  refine wpAnyH_done (by kernel_rfl) ?_ _
                  clear hHeld6
                  have HB5 : Hid (Blk (w5.setCell ⟨w1.heap.size, 0, none⟩ (.slice o5 n5 c5)) (w1.heap.size) 29 #[.slice o5 n5 c5]) := HB4.out.set 0 (.slice o5 n5 c5)
                  have HO5 := Lib.hid (ho5.far (p := ⟨w1.heap.size, 0, none⟩) (by show w1.heap.size < w1.heap.size + 1; omega) (.slice o5 n5 c5))
                  clear hc4 HB4 hsb hb4 hg4 hbw hc5 hg5 hb5 ho4
                  go_wp2
                  go_roundw
                  case rel => exact ⟨k + 1, _, by omega, by go_num, HB5.out, HO5.out, hcz⟩
                  case measure => simp [intOf]; omega
                · skip
                  obtain ⟨q0, q1⟩ := (HBz.out.since hsb).one
                  go_simp
                  clear q0 q1
                  refine hK.out _ _ (HKC.out _ (hsb)) (fun hHeld3 => ?_)
                  clear hK K hHeld2
                  try simp only [Act.put, List.setIfInBounds_toArray, List.set_cons_zero, List.set_cons_succ]
                  refine take_yes 10 (some 78) (v := ?_) rfl (by kernel_rfl) (by kernel_rfl) (by kernel_rfl) (by kernel_rfl) (fun _ _ _ h => h) (by rfl) (by assumption) ?_ ?_
                  rotate_left
                  · (intro w' hSw; (try dsimp only at hSw); go_simp; try with_reducible rfl)
                  try simp only [Act.put, List.setIfInBounds_toArray, List.set_cons_zero, List.set_cons_succ]
                  refine take_run 5 rfl (by kernel_rfl) (by rfl) (fun K hK => ?_)
                  refine wp_append_chgs (.tmp 68) (.tmp 72) rfl (w1.heap.size + 1) _ [] rfl FC.out _ _ _ rfl (L.take q) (chgs_takeO (HLA.out.since (hsb)) hqm _ _ (by intro b off e; simpa using e)) (by simp; omega) (by have := Since.lt hsb; have := HBz.out.lt; omega) ?_
                  intro v4 w4 ho4 hg4 hb4
                  rw [List.nil_append] at ho4
                  have hc4 : Since wr w4 := Since.grown hsb hg4 (fun z hz => (FC0.out.2.lt z hz).1)
                  obtain ⟨o4, c4, hv4⟩ := ho4.len
                  obtain ⟨n4, hn4⟩ : ∃ n, (L.take q).length = n := ⟨_, rfl⟩
                  rw [hn4] at hv4
                  subst hv4
                  clear hn4
                  refine hK.out _ _ (HKC.out _ hc4) (fun hHeld4 => ?_)
                  clear hK K hHeld3
                  try simp only [Act.put, List.setIfInBounds_toArray, List.set_cons_zero, List.set_cons_succ]
                  refine take_run 11 rfl (by kernel_rfl) (by rfl) (fun K hK => ?_)
                  refine wp_append_chgs (.tmp 73) (.tmp 78) rfl (w1.heap.size + 1) _ (L.take q) rfl (ho4) _ _ _ rfl (L.drop (q + 1)) (chgs_dropO (HLA.out.since hc4) hqm2 _ _ _ (by simp) (by intro hlt b off e; simp only [Option.some.injEq, Addr.mk.injEq] at e; obtain ⟨e1, e2, _⟩ := e; subst e1; subst e2; rw [if_neg (by omega)]; simp [Addr.add])) (by have := HM.out; simp; omega) (by have := hc4.size; have := HBz.out.lt; omega) ?_
                  intro v5 w5 ho5 hg5 hb5
                  rw [← HTK.out] at ho5
                  have hbw : Since wr w5 := hc4.grown hg5 (fun z hz => by
                    have hz2 : (Value.slice o4 n4 c4).ownBlock = some z := hz
                    rcases hb4 with h | h
                    · rw [h] at hz2; exact (FC0.out.2.lt z hz2).1
                    · rw [h] at hz2; injection hz2 with hz2; have := Since.lt hsb; omega)
                  have hc5 : Since w1 w5 := hsz.trans hbw
                  have HB4 := Lib.hid (HBz.out.since hbw)
                  obtain ⟨o5, c5, hv5⟩ := ho5.len
                  obtain ⟨n5, hn5⟩ : ∃ n, (netL (x.take (k + 1))).length = n := ⟨_, rfl⟩
                  rw [hn5] at hv5
                  subst hv5
                  clear hn5
                  refine hK.out _ _ (HKC.out _ hbw) (fun hHeld5 => ?_)
                  clear hK K hHeld4
                  try simp only [Act.put, List.setIfInBounds_toArray, List.set_cons_zero, List.set_cons_succ]
                  refine take_yes 12 (some 80) (v := ?_) rfl (by kernel_rfl) (by kernel_rfl) (by kernel_rfl) (by kernel_rfl) (fun _ _ _ h => h) (by rfl) (by assumption) ?_ ?_
                  rotate_left
                  · (intro w' hSw; (try dsimp only at hSw); go_simp; try with_reducible rfl)
                  try simp only [Act.put, List.setIfInBounds_toArray, List.set_cons_zero, List.set_cons_succ]
                  refine take_run 13 rfl (by kernel_rfl) (by rfl) (fun K hK => ?_)
                  obtain ⟨q0, q1⟩ := HB4.out.one
                  go_simp
                  clear q0 q1
                  have hcz : Since w1 (w5.setCell ⟨w1.heap.size, 0, none⟩ (.slice o5 n5 c5)) := hc5.setCell (by show w1.heap.size ≤ w1.heap.size; omega) _
                  refine hK.out _ _ (HKW.out _ hcz) (fun hHeld6 => ?_)
                  clear hK K hHeld5
                  try simp only [Act.put, List.setIfInBounds_toArray, List.set_cons_zero, List.set_cons_succ]
                  refine wpAnyH_done (by kernel_rfl) ?_ _
                  clear hHeld6
                  have HB5 : Hid (Blk (w5.setCell ⟨w1.heap.size, 0, none⟩ (.slice o5 n5 c5)) (w1.heap.size) 29 #[.slice o5 n5 c5]) := HB4.out.set 0 (.slice o5 n5 c5)
                  have HO5 := Lib.hid (ho5.far (p := ⟨w1.heap.size, 0, none⟩) (by show w1.heap.size < w1.heap.size + 1; omega) (.slice o5 n5 c5))
                  clear hc4 HB4 hsb hb4 hg4 hbw hc5 hg5 hb5 ho4
                  go_wp2
                  go_roundw
                  case rel => exact ⟨k + 1, _, by omega, by go_num, HB5.out, HO5.out, hcz⟩
                  case measure => simp [intOf]; omega
              · skip
                obtain ⟨q0, q1⟩ := (HBz.out.since (Since.refl wr).drew).one
                go_simp
                clear q0 q1
                refine hK.out _ _ (HKC.out _ ((Since.refl wr).drew)) (fun hHeld2 => ?_)
                clear hK K hHeld1
                try simp only [Act.put, List.setIfInBounds_toArray, List.set_cons_zero, List.set_cons_succ]
                refine take_yes 10 (some 78) (v := ?_) rfl (by kernel_rfl) (by kernel_rfl) (by kernel_rfl) (by kernel_rfl) (fun _ _ _ h => h) (by rfl) (by assumption) ?_ ?_
                rotate_left
                · (intro w' hSw; (try dsimp only at hSw); go_simp; try with_reducible rfl)
                try simp only [Act.put, List.setIfInBounds_toArray, List.set_cons_zero, List.set_cons_succ]
                refine take_run 0 rfl (by kernel_rfl) (by rfl) (fun K hK => ?_)
                go_simp
                have hsb : Since wr (wr.alloc (.cells #[] 98)).drew := ((Since.refl wr).alloc (.cells #[] 98)).drew
                have FC0 := Lib.hid ((ownC_lit wr wr (Since.refl _) wr.heap.size rfl).since (Since.refl _).drew)
                have FC : Hid (OwnC (w1.heap.size + 1) (wr.alloc (.cells #[] 98)).drew (.slice (some ⟨wr.heap.size, 0, none⟩) 0 0) []) := ((ownC_lit wr wr (Since.refl _) wr.heap.size rfl).mono (by have := HBz.out.lt; omega)).since (Since.refl _).drew
                refine hK.out _ _ (HKC.out _ (hsb)) (fun hHeld3 => ?_)
                clear hK K hHeld2
                try simp only [Act.put, List.setIfInBounds_toArray, List.set_cons_zero, List.set_cons_succ]
                refine take_run 5 rfl (by kernel_rfl) (by rfl) (fun K hK => ?_)
                refine wp_append_chgs (.tmp 68) (.tmp 72) rfl (w1.heap.size + 1) _ [] rfl FC.out _ _ _ rfl (L.take q) (chgs_takeO (HLA.out.since (hsb)) hqm _ _ (by intro b off e; simpa using e)) (by simp; omega) (by have := Since.lt hsb; have := HBz.out.lt; omega) ?_
                intro v4 w4 ho4 hg4 hb4
                rw [List.nil_append] at ho4
                have hc4 : Since wr w4 := Since.grown hsb hg4 (fun z hz => (FC0.out.2.lt z hz).1)
                obtain ⟨o4, c4, hv4⟩ := ho4.len
                obtain ⟨n4, hn4⟩ : ∃ n, (L.take q).length = n := ⟨_, rfl⟩
                rw [hn4] at hv4
                subst hv4
                clear hn4
                refine hK.out _ _ (HKC.out _ hc4) (fun hHeld4 => ?_)
                clear hK K hHeld3
                try simp only [Act.put, List.setIfInBounds_toArray, List.set_cons_zero, List.set_cons_succ]
                refine take_run 11 rfl (by kernel_rfl) (by rfl) (fun K hK => ?_)
                refine wp_append_chgs (.tmp 73) (.tmp 78) rfl (w1.heap.size + 1) _ (L.take q) rfl (ho4) _ _ _ rfl (L.drop (q + 1)) (chgs_dropO (HLA.out.since hc4) hqm2 _ _ _ (by simp) (by intro hlt b off e; simp only [Option.some.injEq, Addr.mk.injEq] at e; obtain ⟨e1, e2, _⟩ := e; subst e1; subst e2; rw [if_neg (by omega)]; simp [Addr.add])) (by have := HM.out; simp; omega) (by have := hc4.size; have := HBz.out.lt; omega) ?_
                intro v5 w5 ho5 hg5 hb5
                rw [← HTK.out] at ho5
                have hbw : Since wr w5 := hc4.grown hg5 (fun z hz => by
                  have hz2 : (Value.slice o4 n4 c4).ownBlock = some z := hz
                  rcases hb4 with h | h
                  · rw [h] at hz2; exact (FC0.out.2.lt z hz2).1
                  · rw [h] at hz2; injection hz2 with hz2; have := Since.lt hsb; omega)
                have hc5 : Since w1 w5 := hsz.trans hbw
                have HB4 := Lib.hid (HBz.out.since hbw)
                obtain ⟨o5, c5, hv5⟩ := ho5.len
                obtain ⟨n5, hn5⟩ : ∃ n, (netL (x.take (k + 1))).length = n := ⟨_, rfl⟩
                rw [hn5] at hv5
                subst hv5
                clear hn5
                refine hK.out _ _ (HKC.out _ hbw) (fun hHeld5 => ?_)
                clear hK K hHeld4
                try simp only [Act.put, List.setIfInBounds_toArray, List.set_cons_zero, List.set_cons_succ]
                refine take_yes 12 (some 80) (v := ?_) rfl (by kernel_rfl) (by kernel_rfl) (by kernel_rfl) (by kernel_rfl) (fun _ _ _ h => h) (by rfl) (by assumption) ?_ ?_
                rotate_left
                · (intro w' hSw; (try dsimp only at hSw); go_simp; try with_reducible rfl)
                try simp only [Act.put, List.setIfInBounds_toArray, List.set_cons_zero, List.set_cons_succ]
                refine take_run 13 rfl (by kernel_rfl) (by rfl) (fun K hK => ?_)
                obtain ⟨q0, q1⟩ := HB4.out.one
                go_simp
                clear q0 q1
                have hcz : Since w1 (w5.setCell ⟨w1.heap.size, 0, none⟩ (.slice o5 n5 c5)) := hc5.setCell (by show w1.heap.size ≤ w1.heap.size; omega) _
                refine hK.out _ _ (HKW.out _ hcz) (fun hHeld6 => ?_)
                clear hK K hHeld5
                try simp only [Act.put, List.setIfInBounds_toArray, List.set_cons_zero, List.set_cons_succ]
                refine wpAnyH_done (by kernel_rfl) ?_ _
                clear hHeld6
                have HB5 : Hid (Blk (w5.setCell ⟨w1.heap.size, 0, none⟩ (.slice o5 n5 c5)) (w1.heap.size) 29 #[.slice o5 n5 c5]) := HB4.out.set 0 (.slice o5 n5 c5)
                have HO5 := Lib.hid (ho5.far (p := ⟨w1.heap.size, 0, none⟩) (by show w1.heap.size < w1.heap.size + 1; omega) (.slice o5 n5 c5))
                clear hc4 HB4 hsb hb4 hg4 hbw hc5 hg5 hb5 ho4
                go_wp2
                go_roundw
                case rel => exact ⟨k + 1, _, by omega, by go_num, HB5.out, HO5.out, hcz⟩
                case measure => simp [intOf]; omega
            · skip
              obtain ⟨q0, q1⟩ := (HBz.out.since (Since.refl wr).drew).one
              go_simp
              clear q0 q1
              refine hK.out _ _ (HKC.out _ ((Since.refl wr).drew)) (fun hHeld1 => ?_)
              clear hK K hHeld
              try simp only [Act.put, List.setIfInBounds_toArray, List.set_cons_zero, List.set_cons_succ]
              refine take_yes 10 (some 78) (v := ?_) rfl (by kernel_rfl) (by kernel_rfl) (by kernel_rfl) (by kernel_rfl) (fun _ _ _ h => h) (by rfl) (by assumption) ?_ ?_
              rotate_left
              · (intro w' hSw; (try dsimp only at hSw); go_simp; try with_reducible rfl)
              try simp only [Act.put, List.setIfInBounds_toArray, List.set_cons_zero, List.set_cons_succ]
              refine take_two 0 2 rfl rfl (by kernel_rfl) (by rfl) (by rfl) (fun K hK => ?_) (fun K hK => ?_)
              · skip
                go_simp
                have hsb : Since wr (wr.alloc (.cells #[] 98)).drew := ((Since.refl wr).alloc (.cells #[] 98)).drew
                have FC0 := Lib.hid ((ownC_lit wr wr (Since.refl _) wr.heap.size rfl).since (Since.refl _).drew)
                have FC : Hid (OwnC (w1.heap.size + 1) (wr.alloc (.cells #[] 98)).drew (.slice (some ⟨wr.heap.size, 0, none⟩) 0 0) []) := ((ownC_lit wr wr (Since.refl _) wr.heap.size rfl).mono (by have := HBz.out.lt; omega)).since (Since.refl _).drew
                refine hK.out _ _ (HKC.out _ (hsb)) (fun hHeld2 => ?_)
                clear hK K hHeld1
                try simp only [Act.put, List.setIfInBounds_toArray, List.set_cons_zero, List.set_cons_succ]
                refine take_run 2 rfl (by kernel_rfl) (by rfl) (fun K hK => ?_)
                obtain ⟨q0, q1⟩ := (HBz.out.since hsb).one
                go_simp
                clear q0 q1
                refine hK.out _ _ (HKC.out _ (hsb)) (fun hHeld3 => ?_)
                clear hK K hHeld2
                try simp only [Act.put, List.setIfInBounds_toArray, List.set_cons_zero, List.set_cons_succ]
                refine take_yes 4 (some 72) (v := ?_) rfl (by kernel_rfl) (by kernel_rfl) (by kernel_rfl) (by kernel_rfl) (fun _ _ _ h => h) (by rfl) (by assumption) ?_ ?_
                rotate_left
                · (intro w' hSw; (try dsimp only at hSw); go_simp; try with_reducible rfl)
                try simp only [Act.put, List.setIfInBounds_toArray, List.set_cons_zero, List.set_cons_succ]
                refine take_run 5 rfl (by kernel_rfl) (by rfl) (fun K hK => ?_)
                refine wp_append_chgs (.tmp 68) (.tmp 72) rfl (w1.heap.size + 1) _ [] rfl FC.out _ _ _ rfl (L.take q) (chgs_takeO (HLA.out.since (hsb)) hqm _ _ (by intro b off e; simpa using e)) (by simp; omega) (by have := Since.lt hsb; have := HBz.out.lt; omega) ?_
                intro v4 w4 ho4 hg4 hb4
                rw [List.nil_append] at ho4
                have hc4 : Since wr w4 := Since.grown hsb hg4 (fun z hz => (FC0.out.2.lt z hz).1)
                obtain ⟨o4, c4, hv4⟩ := ho4.len
                obtain ⟨n4, hn4⟩ : ∃ n, (L.take q).length = n := ⟨_, rfl⟩
                rw [hn4] at hv4
                subst hv4
                clear hn4
                refine hK.out _ _ (HKC.out _ hc4) (fun hHeld4 => ?_)
                clear hK K hHeld3
                try simp only [Act.put, List.setIfInBounds_toArray, List.set_cons_zero, List.set_cons_succ]
                refine take_run 11 rfl (by kernel_rfl) (by rfl) (fun K hK => ?_)
                refine wp_append_chgs (.tmp 73) (.tmp 78) rfl (w1.heap.size + 1) _ (L.take q) rfl (ho4) _ _ _ rfl (L.drop (q + 1)) (chgs_dropO (HLA.out.since hc4) hqm2 _ _ _ (by simp) (by intro hlt b off e; simp only [Option.some.injEq, Addr.mk.injEq] at e; obtain ⟨e1, e2, _⟩ := e; subst e1; subst e2; rw [if_neg (by omega)]; simp [Addr.add])) (by have := HM.out; simp; omega) (by have := hc4.size; have := HBz.out.lt; omega) ?_
                intro v5 w5 ho5 hg5 hb5
                rw [← HTK.out] at ho5
                have hbw : Since wr w5 := hc4.grown hg5 (fun z hz => by
                  have hz2 : (Value.slice o4 n4 c4).ownBlock = some z := hz
                  rcases hb4 with h | h
                  · rw [h] at hz2; exact (FC0.out.2.lt z hz2).1
                  · rw [h] at hz2; injection hz2 with hz2; have := Since.lt hsb; omega)
                have hc5 : Since w1 w5 := hsz.trans hbw
                have HB4 := Lib.hid (HBz.out.since hbw)
                obtain ⟨o5, c5, hv5⟩ := ho5.len
                obtain ⟨n5, hn5⟩ : ∃ n, (netL (x.take (k + 1))).length = n := ⟨_, rfl⟩
                rw [hn5] at hv5
                subst hv5
                clear hn5
                refine hK.out _ _ (HKC.out _ hbw) (fun hHeld5 => ?_)
                clear hK K hHeld4
                try simp only [Act.put, List.setIfInBounds_toArray, List.set_cons_zero, List.set_cons_succ]
                refine take_yes 12 (some 80) (v := ?_) rfl (by kernel_rfl) (by kernel_rfl) (by kernel_rfl) (by kernel_rfl) (fun _ _ _ h => h) (by rfl) (by assumption) ?_ ?_
                rotate_left
                · (intro w' hSw; (try dsimp only at hSw); go_simp; try with_reducible rfl)
                try simp only [Act.put, List.setIfInBounds_toArray, List.set_cons_zero, List.set_cons_succ]
                refine take_run 13 rfl (by kernel_rfl) (by rfl) (fun K hK => ?_)
                obtain ⟨q0, q1⟩ := HB4.out.one
                go_simp
                clear q0 q1
                have hcz : Since w1 (w5.setCell ⟨w1.heap.size, 0, none⟩ (.slice o5 n5 c5)) := hc5.setCell (by show w1.heap.size ≤ w1.heap.size; omega) _
                refine hK.out _ _ (HKW.out _ hcz) (fun hHeld6 => ?_)
                clear hK K hHeld5
                try simp only [Act.put, List.setIfInBounds_toArray, List.set_cons_zero, List.set_cons_succ]
                refine wpAnyH_done (by kernel_rfl) ?_ _
                clear hHeld6
                have HB5 : Hid (Blk (w5.setCell ⟨w1.heap.size, 0, none⟩ (.slice o5 n5 c5)) (w1.heap.size) 29 #[.slice o5 n5 c5]) := HB4.out.set 0 (.slice o5 n5 c5)
                have HO5 := Lib.hid (ho5.far (p := ⟨w1.heap.size, 0, none⟩) (by show w1.heap.size < w1.heap.size + 1; omega) (.slice o5 n5 c5))
                clear hc4 HB4 hsb hb4 hg4 hbw hc5 hg5 hb5 ho4
                go_wp2
                go_roundw
                case rel => exact ⟨k + 1, _, by omega, by go_num, HB5.out, HO5.out, hcz⟩
                case measure => simp [intOf]; omega
              · skip
                obtain ⟨q0, q1⟩ := (HBz.out.since (Since.refl wr).drew).one
                go_simp
                clear q0 q1
                refine hK.out _ _ (HKC.out _ ((Since.refl wr).drew)) (fun hHeld2 => ?_)
                clear hK K hHeld1
                try simp only [Act.put, List.setIfInBounds_toArray, List.set_cons_zero, List.set_cons_succ]
                refine take_yes 4 (some 72) (v := ?_) rfl (by kernel_rfl) (by kernel_rfl) (by kernel_rfl) (by kernel_rfl) (fun _ _ _ h => h) (by rfl) (by assumption) ?_ ?_
                rotate_left
                · (intro w' hSw; (try dsimp only at hSw); go_simp; try with_reducible rfl)
                try simp only [Act.put, List.setIfInBounds_toArray, List.set_cons_zero, List.set_cons_succ]
                refine take_run 0 rfl (by kernel_rfl) (by rfl) (fun K hK => ?_)
                go_simp
                have hsb : Since wr (wr.alloc (.cells #[] 98)).drew := ((Since.refl wr).alloc (.cells #[] 98)).drew
                have FC0 := Lib.hid ((ownC_lit wr wr (Since.refl _) wr.heap.size rfl).since (Since.refl _).drew)
                have FC : Hid (OwnC (w1.heap.size + 1) (wr.alloc (.cells #[] 98)).drew (.slice (some ⟨wr.heap.size, 0, none⟩) 0 0) []) := ((ownC_lit wr wr (Since.refl _) wr.heap.size rfl).mono (by have := HBz.out.lt; omega)).since (Since.refl _).drew
                refine hK.out _ _ (HKC.out _ (hsb)) (fun hHeld3 => ?_)
                clear hK K hHeld2
                try simp only [Act.put, List.setIfInBounds_toArray, List.set_cons_zero, List.set_cons_succ]
                refine take_run 5 rfl (by kernel_rfl) (by rfl) (fun K hK => ?_)
                refine wp_append_chgs (.tmp 68) (.tmp 72) rfl (w1.heap.size + 1) _ [] rfl FC.out _ _ _ rfl (L.take q) (chgs_takeO (HLA.out.since (hsb)) hqm _ _ (by intro b off e; simpa using e)) (by simp; omega) (by have := Since.lt hsb; have := HBz.out.lt; omega) ?_
                intro v4 w4 ho4 hg4 hb4
                rw [List.nil_append] at ho4
                have hc4 : Since wr w4 := Since.grown hsb hg4 (fun z hz => (FC0.out.2.lt z hz).1)
                obtain ⟨o4, c4, hv4⟩ := ho4.len
                obtain ⟨n4, hn4⟩ : ∃ n, (L.take q).length = n := ⟨_, rfl⟩
                rw [hn4] at hv4
                subst hv4
                clear hn4
                refine hK.out _ _ (HKC.out _ hc4) (fun hHeld4 => ?_)
                clear hK K hHeld3
                try simp only [Act.put, List.setIfInBounds_toArray, List.set_cons_zero, List.set_cons_succ]
                refine take_run 11 rfl (by kernel_rfl) (by rfl) (fun K hK => ?_)
                refine wp_append_chgs (.tmp 73) (.tmp 78) rfl (w1.heap.size + 1) _ (L.take q) rfl (ho4) _ _ _ rfl (L.drop (q + 1)) (chgs_dropO (HLA.out.since hc4) hqm2 _ _ _ (by simp) (by intro hlt b off e; simp only [Option.some.injEq, Addr.mk.injEq] at e; obtain ⟨e1, e2, _⟩ := e; subst e1; subst e2; rw [if_neg (by omega)]; simp [Addr.add])) (by have := HM.out; simp; omega) (by have := hc4.size; have := HBz.out.lt; omega) ?_
                intro v5 w5 ho5 hg5 hb5
                rw [← HTK.out] at ho5
                have hbw : Since wr w5 := hc4.grown hg5 (fun z hz => by
                  have hz2 : (Value.slice o4 n4 c4).ownBlock = some z := hz
                  rcases hb4 with h | h
                  · rw [h] at hz2; exact (FC0.out.2.lt z hz2).1
                  · rw [h] at hz2; injection hz2 with hz2; have := Since.lt hsb; omega)
                have hc5 : Since w1 w5 := hsz.trans hbw
                have HB4 := Lib.hid (HBz.out.since hbw)
                obtain ⟨o5, c5, hv5⟩ := ho5.len
                obtain ⟨n5, hn5⟩ : ∃ n, (netL (x.take (k + 1))).length = n := ⟨_, rfl⟩
                rw [hn5] at hv5
                subst hv5
                clear hn5
                refine hK.out _ _ (HKC.out _ hbw) (fun hHeld5 => ?_)
                clear hK K hHeld4
                try simp only [Act.put, List.setIfInBounds_toArray, List.set_cons_zero, List.set_cons_succ]
                refine take_yes 12 (some 80) (v := ?_) rfl (by kernel_rfl) (by kernel_rfl) (by kernel_rfl) (by kernel_rfl) (fun _ _ _ h => h) (by rfl) (by assumption) ?_ ?_
                rotate_left
                · (intro w' hSw; (try dsimp only at hSw); go_simp; try with_reducible rfl)
                try simp only [Act.put, List.setIfInBounds_toArray, List.set_cons_zero, List.set_cons_succ]
                refine take_run 13 rfl (by kernel_rfl) (by rfl) (fun K hK => ?_)
                obtain ⟨q0, q1⟩ := HB4.out.one
                go_simp
                clear q0 q1
                have hcz : Since w1 (w5.setCell ⟨w1.heap.size, 0, none⟩ (.slice o5 n5 c5)) := hc5.setCell (by show w1.heap.size ≤ w1.heap.size; omega) _
                refine hK.out _ _ (HKW.out _ hcz) (fun hHeld6 => ?_)
                clear hK K hHeld5
                try simp only [Act.put, List.setIfInBounds_toArray, List.set_cons_zero, List.set_cons_succ]
                refine wpAnyH_done (by kernel_rfl) ?_ _
                clear hHeld6
                have HB5 : Hid (Blk (w5.setCell ⟨w1.heap.size, 0, none⟩ (.slice o5 n5 c5)) (w1.heap.size) 29 #[.slice o5 n5 c5]) := HB4.out.set 0 (.slice o5 n5 c5)
                have HO5 := Lib.hid (ho5.far (p := ⟨w1.heap.size, 0, none⟩) (by show w1.heap.size < w1.heap.size + 1; omega) (.slice o5 n5 c5))
                clear hc4 HB4 hsb hb4 hg4 hbw hc5 hg5 hb5 ho4
                go_wp2
                go_roundw
                case rel => exact ⟨k + 1, _, by omega, by go_num, HB5.out, HO5.out, hcz⟩
                case measure => simp [intOf]; omega
    · obtain rfl : k = n := by omega
      have HNL0 : Hid (netL (x.take k) = netL x) := by unfold Hid; rw [List.take_of_length_le (by have := HN.out; omega)]
      rw [HNL0.out] at HOw
      have HLL : Hid ((netL x).length ≤ k) := by have := netL_len x k; rw [HNL0.out] at this; exact this
      obtain ⟨m, hm⟩ : ∃ m, m = (netL x).length := ⟨_, rfl⟩
      have HNL := Lib.hid hm
      have hm9 : m ≤ 1048577 := by have := HLL.out; omega
      obtain ⟨O, hO⟩ : ∃ O, O = wq.heap.size := ⟨_, rfl⟩
      obtain ⟨y2, hy2⟩ : ∃ y2, y2 = wq.alloc (.cells #[.slice none 0 0] 29) := ⟨_, rfl⟩
      have hsy : Since wq y2 := by rw [hy2]; exact (Since.refl wq).alloc _
      have HBO : Hid (Blk y2 O 29 #[.slice none 0 0]) := by rw [hy2]; exact Blk.new hO _ _
      obtain ⟨hxi, xo, xc, hv, HXC⟩ := HOw.out.at
      have HXCI := Lib.hid hxi
      rw [← hm] at hv
      subst hv
      have HXX := HB
      have hXO : w1.heap.size < O := by rw [hO]; exact HB.out.lt
      obtain ⟨q0, _⟩ := HB.out.one
      clear hm hxi
      go_wp2_with fail
      rw [← hy2, ← hO]
      have HOY := Lib.hid hO
      have hs1q := hsw
      clear hy2 q0 p0 HB HOw hO hsw
      go_loopw [9] (fun i wr => ∃ (k : Nat) (v : Value), k ≤ m ∧ i = .int .i64 k ∧ Hid (Blk wr O 29 #[v]) ∧ Hid (OwnC (O + 1) wr v (kindL false ((netL x).take k))) ∧ Since wq wr) (fun i _ => m - (intOf i).toNat)
      case atStart => exact ⟨0, _, Nat.zero_le _, rfl, HBO.out, ⟨fun x hx => by simp [kindL] at hx, by simp [kindL, ccells]; exact World.ownsRow_nil _ _ _ _⟩, hsy⟩
      case round =>
        obtain ⟨k, v, hk, rfl, HBx, HOx, hsw⟩ := hrel
        obtain ⟨q0, _⟩ := (HXX.out.since hsw).one
        by_cases hlt : k < m
        · have hx : k < (netL x).length := by have := HNL.out; omega
          obtain ⟨be, oe, rfl, hbe, d0, d1, d2, d3, d4⟩ := HXC.out k hx
          have HKS := Lib.hid (kindL_step (b := false) hx)
          have HCI : Hid ((netL x)[k].ed.In) := HXCI.out _ (List.getElem_mem hx)
          have HLN0 := Lib.hid (kindL_len false (netL x) k)
          skip
          generalize (netL x)[k] = c at d0 d1 d2 d3 d4 HKS HCI
          have HKW : Hid (∀ w', Since wq w' → w'.cell? ⟨w1.heap.size, 0, none⟩ = some (.slice (some ⟨be, oe, none⟩) m xc) ∧ (w'.cell? ⟨be, oe + k * 5, none⟩ = some (.bool c.ins) ∧ w'.cell? ⟨be, oe + k * 5 + 1, none⟩ = some (.int .i64 c.ed.id) ∧ w'.cell? ⟨be, oe + k * 5 + 2, none⟩ = some (.int .i64 c.ed.fr) ∧ w'.cell? ⟨be, oe + k * 5 + 3, none⟩ = some (.int .i64 (Edg.to c.ed)) ∧ w'.cell? ⟨be, oe + k * 5 + 4, none⟩ = some (.int .i64 c.ed.lb))) := by
            intro w' hs
            obtain ⟨x0, _⟩ := (HXX.out.since hs).one
            have s1 := since_cells hs hbe
            exact ⟨x0, (s1 _).trans d0, (s1 _).trans d1, (s1 _).trans d2, (s1 _).trans d3, (s1 _).trans d4⟩
          have HKC : Hid (∀ w', Since wr w' → w'.cell? ⟨w1.heap.size, 0, none⟩ = some (.slice (some ⟨be, oe, none⟩) m xc) ∧ (w'.cell? ⟨be, oe + k * 5, none⟩ = some (.bool c.ins) ∧ w'.cell? ⟨be, oe + k * 5 + 1, none⟩ = some (.int .i64 c.ed.id) ∧ w'.cell? ⟨be, oe + k * 5 + 2, none⟩ = some (.int .i64 c.ed.fr) ∧ w'.cell? ⟨be, oe + k * 5 + 3, none⟩ = some (.int .i64 (Edg.to c.ed)) ∧ w'.cell? ⟨be, oe + k * 5 + 4, none⟩ = some (.int .i64 c.ed.lb))) := fun w' hs => HKW.out w' (hsw.trans hs)
          have kk0 : (0 : Int) ≤ (k : Int) := by omega
          have kk1 : (k : Int) < (m : Int) := by omega
          obtain ⟨f0, f1, f2, f3, f4, f5⟩ := HKC.out _ (Since.refl _)
          clear d0 d1 d2 d3 d4 q0
          cases hci : c.ins
          · rw [hci] at f1
            have HTK : Hid ((kindL false ((netL x).take (k + 1))) = (kindL false ((netL x).take k)) ++ [c]) := by unfold Hid; rw [HKS.out, if_pos hci]
            have HLN : Hid (((kindL false ((netL x).take k))).length + [c].length ≤ 4194304) := by unfold Hid; have := HLN0.out; simp; omega
            have HXB : Hid (O = wq.heap.size ∧ w.heap.size ≤ w.heap.size) := ⟨HOY.out, Nat.le_refl _⟩
            clear hci
            go_wp2_with fail
            clear f0 f1 f2 f3 f4 f5
            refine wp_region_held_drew (S := (fun w' => w'.cell? ⟨w1.heap.size, 0, none⟩ = some (.slice (some ⟨be, oe, none⟩) m xc) ∧ (w'.cell? ⟨be, oe + k * 5, none⟩ = some (.bool c.ins) ∧ w'.cell? ⟨be, oe + k * 5 + 1, none⟩ = some (.int .i64 c.ed.id) ∧ w'.cell? ⟨be, oe + k * 5 + 2, none⟩ = some (.int .i64 c.ed.fr) ∧ w'.cell? ⟨be, oe + k * 5 + 3, none⟩ = some (.int .i64 (Edg.to c.ed)) ∧ w'.cell? ⟨be, oe + k * 5 + 4, none⟩ = some (.int .i64 c.ed.lb)))) (by kernel_rfl) (HKC.out _ (Since.refl _).drew) (fun hHeld => ?_)
            refine take_yes 0 (some 96) (v := ?_) rfl (by kernel_rfl) (by kernel_rfl) (by kernel_rfl) (by kernel_rfl) (fun _ _ _ h => h) (by rfl) (by assumption) ?_ ?_
            rotate_left
            · (intro w' hSw; (try dsimp only at hSw); go_simp; try with_reducible rfl)
            try simp only [Act.put, List.setIfInBounds_toArray, List.set_cons_zero, List.set_cons_succ]
            refine take_yes 2 (some 98) (v := ?_) rfl (by kernel_rfl) (by kernel_rfl) (by kernel_rfl) (by kernel_rfl) (fun _ _ _ h => h) (by rfl) (by assumption) ?_ ?_
            rotate_left
            · (intro w' hSw; (try dsimp only at hSw); go_simp; try with_reducible rfl)
            try simp only [Act.put, List.setIfInBounds_toArray, List.set_cons_zero, List.set_cons_succ]
            refine take_yes 3 (some 99) (v := ?_) rfl (by kernel_rfl) (by kernel_rfl) (by kernel_rfl) (by kernel_rfl) (fun _ _ _ h => h) (by rfl) (by assumption) ?_ ?_
            rotate_left
            · (intro w' hSw; (try dsimp only at hSw); go_simp; try with_reducible rfl)
            try simp only [Act.put, List.setIfInBounds_toArray, List.set_cons_zero, List.set_cons_succ]
            refine take_yes 4 (some 100) (v := ?_) rfl (by kernel_rfl) (by kernel_rfl) (by kernel_rfl) (by kernel_rfl) (fun _ _ _ h => h) (by rfl) (by assumption) ?_ ?_
            rotate_left
            · (intro w' hSw; (try dsimp only at hSw); go_simp; try with_reducible rfl)
            try simp only [Act.put, List.setIfInBounds_toArray, List.set_cons_zero, List.set_cons_succ]
            refine take_yes 5 (some 101) (v := ?_) rfl (by kernel_rfl) (by kernel_rfl) (by kernel_rfl) (by kernel_rfl) (fun _ _ _ h => h) (by rfl) (by assumption) ?_ ?_
            rotate_left
            · (intro w' hSw; (try dsimp only at hSw); go_simp; try with_reducible rfl)
            try simp only [Act.put, List.setIfInBounds_toArray, List.set_cons_zero, List.set_cons_succ]
            refine take_yes 6 (some 102) (v := ?_) rfl (by kernel_rfl) (by kernel_rfl) (by kernel_rfl) (by kernel_rfl) (fun _ _ _ h => h) (by rfl) (by assumption) ?_ ?_
            rotate_left
            · (intro w' hSw; (try dsimp only at hSw); go_simp; try with_reducible rfl)
            try simp only [Act.put, List.setIfInBounds_toArray, List.set_cons_zero, List.set_cons_succ]
            refine take_two 1 7 rfl rfl (by kernel_rfl) (by rfl) (by rfl) (fun K hK => ?_) (fun K hK => ?_)
            · skip
              obtain ⟨q0, q1⟩ := (HBx.out.drew).one
              go_simp
              clear q0 q1
              refine hK.out _ _ (HKC.out _ ((Since.refl wr).drew)) (fun hHeld1 => ?_)
              clear hK K hHeld
              try simp only [Act.put, List.setIfInBounds_toArray, List.set_cons_zero, List.set_cons_succ]
              refine take_run 7 rfl (by kernel_rfl) (by rfl) (fun K hK => ?_)
              go_simp
              have hsb : Since wr (wr.alloc (.cells #[.bool c.ins, .int .i64 c.ed.id, .int .i64 c.ed.fr, .int .i64 (Edg.to c.ed), .int .i64 c.ed.lb] 98)).drew := ((Since.refl wr).alloc (.cells #[.bool c.ins, .int .i64 c.ed.id, .int .i64 c.ed.fr, .int .i64 (Edg.to c.ed), .int .i64 c.ed.lb] 98)).drew
              refine hK.out _ _ (HKC.out _ (hsb)) (fun hHeld2 => ?_)
              clear hK K hHeld1
              try simp only [Act.put, List.setIfInBounds_toArray, List.set_cons_zero, List.set_cons_succ]
              refine take_run 8 rfl (by kernel_rfl) (by rfl) (fun K hK => ?_)
              refine wp_append_chgs (.tmp 97) (.tmp 103) rfl (O + 1) _ ((kindL false ((netL x).take k))) rfl (HOx.out.since hsb) _ _ _ rfl [c] ((chg_lit wr c HCI.out).since (Since.refl _).drew) HLN.out (by have := hsb.size; have := HBx.out.lt; omega) ?_
              intro v4 w4 ho4 hg4 hb4
              rw [← HTK.out] at ho4
              have hc4 : Since wq w4 := (hsw.trans hsb).grown hg4 (fun q hq => by have := (HOx.out.since hsb).2.lt q hq; have := HXB.out; omega)
              have HB4 : Hid (Blk w4 O 29 #[v]) := (HBx.out.since hsb).grwC hg4 (fun e => by have := (HOx.out.since hsb).2.lt (O) e.symm; omega)
              obtain ⟨o4, c4, hv4⟩ := ho4.len
              obtain ⟨n4, hn4⟩ : ∃ n, ((kindL false ((netL x).take (k + 1)))).length = n := ⟨_, rfl⟩
              rw [hn4] at hv4
              subst hv4
              clear hn4
              have hS4 := HKW.out _ hc4
              refine hK.out _ _ hS4 (fun hHeld3 => ?_)
              clear hK K hHeld2
              try simp only [Act.put, List.setIfInBounds_toArray, List.set_cons_zero, List.set_cons_succ]
              refine take_yes 9 (some 105) (v := ?_) rfl (by kernel_rfl) (by kernel_rfl) (by kernel_rfl) (by kernel_rfl) (fun _ _ _ h => h) (by rfl) (by assumption) ?_ ?_
              rotate_left
              · (intro w' hSw; (try dsimp only at hSw); go_simp; try with_reducible rfl)
              try simp only [Act.put, List.setIfInBounds_toArray, List.set_cons_zero, List.set_cons_succ]
              refine take_run 10 rfl (by kernel_rfl) (by rfl) (fun K hK => ?_)
              obtain ⟨q0, q1⟩ := HB4.out.one
              go_simp
              clear q0 q1
              have hcz : Since wq (w4.setCell ⟨O, 0, none⟩ (.slice o4 n4 c4)) := hc4.setCell (by have := HXB.out; show wq.heap.size ≤ O; omega) _
              refine hK.out _ _ (HKW.out _ hcz) (fun hHeld4 => ?_)
              clear hK K hHeld3
              try simp only [Act.put, List.setIfInBounds_toArray, List.set_cons_zero, List.set_cons_succ]
              refine wpAnyH_done (by kernel_rfl) ?_ _
              clear hHeld4
              have HB5 : Hid (Blk (w4.setCell ⟨O, 0, none⟩ (.slice o4 n4 c4)) (O) 29 #[.slice o4 n4 c4]) := HB4.out.set 0 (.slice o4 n4 c4)
              have HO5 := Lib.hid (ho4.far (p := ⟨O, 0, none⟩) (by show (O : Nat) < O + 1; omega) (.slice o4 n4 c4))
              clear hc4 HB4 hsb hb4 hg4
              go_wp2
              go_roundw
              case rel => exact ⟨k + 1, _, by omega, by go_num, HB5.out, HO5.out, hcz⟩
              case measure => simp [intOf]; omega
            · skip
              go_simp
              have hsb : Since wr (wr.alloc (.cells #[.bool c.ins, .int .i64 c.ed.id, .int .i64 c.ed.fr, .int .i64 (Edg.to c.ed), .int .i64 c.ed.lb] 98)).drew := ((Since.refl wr).alloc (.cells #[.bool c.ins, .int .i64 c.ed.id, .int .i64 c.ed.fr, .int .i64 (Edg.to c.ed), .int .i64 c.ed.lb] 98)).drew
              refine hK.out _ _ (HKC.out _ (hsb)) (fun hHeld1 => ?_)
              clear hK K hHeld
              try simp only [Act.put, List.setIfInBounds_toArray, List.set_cons_zero, List.set_cons_succ]
              refine take_run 1 rfl (by kernel_rfl) (by rfl) (fun K hK => ?_)
              obtain ⟨q0, q1⟩ := (HBx.out.since hsb).one
              go_simp
              clear q0 q1
              refine hK.out _ _ (HKC.out _ (hsb)) (fun hHeld2 => ?_)
              clear hK K hHeld1
              try simp only [Act.put, List.setIfInBounds_toArray, List.set_cons_zero, List.set_cons_succ]
              refine take_run 8 rfl (by kernel_rfl) (by rfl) (fun K hK => ?_)
              refine wp_append_chgs (.tmp 97) (.tmp 103) rfl (O + 1) _ ((kindL false ((netL x).take k))) rfl (HOx.out.since hsb) _ _ _ rfl [c] ((chg_lit wr c HCI.out).since (Since.refl _).drew) HLN.out (by have := hsb.size; have := HBx.out.lt; omega) ?_
              intro v4 w4 ho4 hg4 hb4
              rw [← HTK.out] at ho4
              have hc4 : Since wq w4 := (hsw.trans hsb).grown hg4 (fun q hq => by have := (HOx.out.since hsb).2.lt q hq; have := HXB.out; omega)
              have HB4 : Hid (Blk w4 O 29 #[v]) := (HBx.out.since hsb).grwC hg4 (fun e => by have := (HOx.out.since hsb).2.lt (O) e.symm; omega)
              obtain ⟨o4, c4, hv4⟩ := ho4.len
              obtain ⟨n4, hn4⟩ : ∃ n, ((kindL false ((netL x).take (k + 1)))).length = n := ⟨_, rfl⟩
              rw [hn4] at hv4
              subst hv4
              clear hn4
              have hS4 := HKW.out _ hc4
              refine hK.out _ _ hS4 (fun hHeld3 => ?_)
              clear hK K hHeld2
              try simp only [Act.put, List.setIfInBounds_toArray, List.set_cons_zero, List.set_cons_succ]
              refine take_yes 9 (some 105) (v := ?_) rfl (by kernel_rfl) (by kernel_rfl) (by kernel_rfl) (by kernel_rfl) (fun _ _ _ h => h) (by rfl) (by assumption) ?_ ?_
              rotate_left
              · (intro w' hSw; (try dsimp only at hSw); go_simp; try with_reducible rfl)
              try simp only [Act.put, List.setIfInBounds_toArray, List.set_cons_zero, List.set_cons_succ]
              refine take_run 10 rfl (by kernel_rfl) (by rfl) (fun K hK => ?_)
              obtain ⟨q0, q1⟩ := HB4.out.one
              go_simp
              clear q0 q1
              have hcz : Since wq (w4.setCell ⟨O, 0, none⟩ (.slice o4 n4 c4)) := hc4.setCell (by have := HXB.out; show wq.heap.size ≤ O; omega) _
              refine hK.out _ _ (HKW.out _ hcz) (fun hHeld4 => ?_)
              clear hK K hHeld3
              try simp only [Act.put, List.setIfInBounds_toArray, List.set_cons_zero, List.set_cons_succ]
              refine wpAnyH_done (by kernel_rfl) ?_ _
              clear hHeld4
              have HB5 : Hid (Blk (w4.setCell ⟨O, 0, none⟩ (.slice o4 n4 c4)) (O) 29 #[.slice o4 n4 c4]) := HB4.out.set 0 (.slice o4 n4 c4)
              have HO5 := Lib.hid (ho4.far (p := ⟨O, 0, none⟩) (by show (O : Nat) < O + 1; omega) (.slice o4 n4 c4))
              clear hc4 HB4 hsb hb4 hg4
              go_wp2
              go_roundw
              case rel => exact ⟨k + 1, _, by omega, by go_num, HB5.out, HO5.out, hcz⟩
              case measure => simp [intOf]; omega
          · rw [hci] at f1
            have HTK : Hid ((kindL false ((netL x).take (k + 1))) = (kindL false ((netL x).take k))) := by unfold Hid; rw [HKS.out, if_neg (by rw [hci]; decide), List.append_nil]
            rw [← HTK.out] at HOx
            clear hci
            go_wp2_with fail
            go_roundw
            case rel => exact ⟨k + 1, _, by omega, by go_num, HBx.out, HOx.out, hsw⟩
            case measure => simp [intOf]; omega
        · have hkm : m = k := by omega
          subst hkm
          have B1 := HBx
          have O1 : Hid (OwnC (O + 1) wr v (kindL false (netL x) ++ kindL true ((netL x).take 0))) := by
            have := HOx.out
            rw [List.take_of_length_le (by have := HNL.out; omega)] at this
            unfold Hid; simp only [List.take_zero]; rw [show kindL true [] = [] from rfl, List.append_nil]; exact this
          clear HBx HOx
          obtain ⟨wp, hwp⟩ : ∃ W, W = wr := ⟨_, rfl⟩
          subst hwp
          go_wp2_with fail
          clear q0
          go_loopw [10] (fun i wr => ∃ (k : Nat) (v : Value), k ≤ m ∧ i = .int .i64 k ∧ Hid (Blk wr O 29 #[v]) ∧ Hid (OwnC (O + 1) wr v (kindL false (netL x) ++ kindL true ((netL x).take k))) ∧ Since wq wr) (fun i _ => m - (intOf i).toNat)
          case atStart => exact ⟨0, _, Nat.zero_le _, rfl, B1.out, O1.out, hsw⟩
          case round =>
            obtain ⟨k, v, hk, rfl, HBx, HOx, hsw⟩ := hrel
            obtain ⟨q0, _⟩ := (HXX.out.since hsw).one
            by_cases hlt : k < m
            · have hx : k < (netL x).length := by have := HNL.out; omega
              obtain ⟨be, oe, rfl, hbe, d0, d1, d2, d3, d4⟩ := HXC.out k hx
              have HKS := Lib.hid (kindL_step (b := true) hx)
              have HCI : Hid ((netL x)[k].ed.In) := HXCI.out _ (List.getElem_mem hx)
              have HLN0 := Lib.hid (kindL_len false (netL x) (netL x).length)
              have HLN1 := Lib.hid (kindL_len true (netL x) k)
              generalize (netL x)[k] = c at d0 d1 d2 d3 d4 HKS HCI
              have HKW : Hid (∀ w', Since wq w' → w'.cell? ⟨w1.heap.size, 0, none⟩ = some (.slice (some ⟨be, oe, none⟩) m xc) ∧ (w'.cell? ⟨be, oe + k * 5, none⟩ = some (.bool c.ins) ∧ w'.cell? ⟨be, oe + k * 5 + 1, none⟩ = some (.int .i64 c.ed.id) ∧ w'.cell? ⟨be, oe + k * 5 + 2, none⟩ = some (.int .i64 c.ed.fr) ∧ w'.cell? ⟨be, oe + k * 5 + 3, none⟩ = some (.int .i64 (Edg.to c.ed)) ∧ w'.cell? ⟨be, oe + k * 5 + 4, none⟩ = some (.int .i64 c.ed.lb))) := by
                intro w' hs
                obtain ⟨x0, _⟩ := (HXX.out.since hs).one
                have s1 := since_cells hs hbe
                exact ⟨x0, (s1 _).trans d0, (s1 _).trans d1, (s1 _).trans d2, (s1 _).trans d3, (s1 _).trans d4⟩
              have HKC : Hid (∀ w', Since wr w' → w'.cell? ⟨w1.heap.size, 0, none⟩ = some (.slice (some ⟨be, oe, none⟩) m xc) ∧ (w'.cell? ⟨be, oe + k * 5, none⟩ = some (.bool c.ins) ∧ w'.cell? ⟨be, oe + k * 5 + 1, none⟩ = some (.int .i64 c.ed.id) ∧ w'.cell? ⟨be, oe + k * 5 + 2, none⟩ = some (.int .i64 c.ed.fr) ∧ w'.cell? ⟨be, oe + k * 5 + 3, none⟩ = some (.int .i64 (Edg.to c.ed)) ∧ w'.cell? ⟨be, oe + k * 5 + 4, none⟩ = some (.int .i64 c.ed.lb))) := fun w' hs => HKW.out w' (hsw.trans hs)
              have kk0 : (0 : Int) ≤ (k : Int) := by omega
              have kk1 : (k : Int) < (m : Int) := by omega
              obtain ⟨f0, f1, f2, f3, f4, f5⟩ := HKC.out _ (Since.refl _)
              clear d0 d1 d2 d3 d4 q0
              cases hci : c.ins
              · rw [hci] at f1
                have HTK : Hid ((kindL false (netL x) ++ kindL true ((netL x).take (k + 1))) = (kindL false (netL x) ++ kindL true ((netL x).take k))) := by unfold Hid; rw [HKS.out, if_neg (by rw [hci]; decide), List.append_nil]
                rw [← HTK.out] at HOx
                clear hci
                go_wp2_with fail
                go_roundw
                case rel => exact ⟨k + 1, _, by omega, by go_num, HBx.out, HOx.out, hsw⟩
                case measure => simp [intOf]; omega
              · rw [hci] at f1
                have HTK : Hid ((kindL false (netL x) ++ kindL true ((netL x).take (k + 1))) = (kindL false (netL x) ++ kindL true ((netL x).take k)) ++ [c]) := by unfold Hid; rw [HKS.out, if_pos hci, ← List.append_assoc]
                have HLN : Hid (((kindL false (netL x) ++ kindL true ((netL x).take k))).length + [c].length ≤ 4194304) := by unfold Hid; have := HLN0.out; have := HLN1.out; have := HNL.out; rw [List.take_of_length_le (Nat.le_refl _)] at HLN0; have := HLN0.out; simp; omega
                have HXB : Hid (O = wq.heap.size ∧ w.heap.size ≤ w.heap.size) := ⟨HOY.out, Nat.le_refl _⟩
                clear hci
                go_wp2_with fail
                clear f0 f1 f2 f3 f4 f5
                refine wp_region_held_drew (S := (fun w' => w'.cell? ⟨w1.heap.size, 0, none⟩ = some (.slice (some ⟨be, oe, none⟩) m xc) ∧ (w'.cell? ⟨be, oe + k * 5, none⟩ = some (.bool c.ins) ∧ w'.cell? ⟨be, oe + k * 5 + 1, none⟩ = some (.int .i64 c.ed.id) ∧ w'.cell? ⟨be, oe + k * 5 + 2, none⟩ = some (.int .i64 c.ed.fr) ∧ w'.cell? ⟨be, oe + k * 5 + 3, none⟩ = some (.int .i64 (Edg.to c.ed)) ∧ w'.cell? ⟨be, oe + k * 5 + 4, none⟩ = some (.int .i64 c.ed.lb)))) (by kernel_rfl) (HKC.out _ (Since.refl _).drew) (fun hHeld => ?_)
                refine take_yes 0 (some 119) (v := ?_) rfl (by kernel_rfl) (by kernel_rfl) (by kernel_rfl) (by kernel_rfl) (fun _ _ _ h => h) (by rfl) (by assumption) ?_ ?_
                rotate_left
                · (intro w' hSw; (try dsimp only at hSw); go_simp; try with_reducible rfl)
                try simp only [Act.put, List.setIfInBounds_toArray, List.set_cons_zero, List.set_cons_succ]
                refine take_yes 2 (some 121) (v := ?_) rfl (by kernel_rfl) (by kernel_rfl) (by kernel_rfl) (by kernel_rfl) (fun _ _ _ h => h) (by rfl) (by assumption) ?_ ?_
                rotate_left
                · (intro w' hSw; (try dsimp only at hSw); go_simp; try with_reducible rfl)
                try simp only [Act.put, List.setIfInBounds_toArray, List.set_cons_zero, List.set_cons_succ]
                refine take_yes 3 (some 122) (v := ?_) rfl (by kernel_rfl) (by kernel_rfl) (by kernel_rfl) (by kernel_rfl) (fun _ _ _ h => h) (by rfl) (by assumption) ?_ ?_
                rotate_left
                · (intro w' hSw; (try dsimp only at hSw); go_simp; try with_reducible rfl)
                try simp only [Act.put, List.setIfInBounds_toArray, List.set_cons_zero, List.set_cons_succ]
                refine take_yes 4 (some 123) (v := ?_) rfl (by kernel_rfl) (by kernel_rfl) (by kernel_rfl) (by kernel_rfl) (fun _ _ _ h => h) (by rfl) (by assumption) ?_ ?_
                rotate_left
                · (intro w' hSw; (try dsimp only at hSw); go_simp; try with_reducible rfl)
                try simp only [Act.put, List.setIfInBounds_toArray, List.set_cons_zero, List.set_cons_succ]
                refine take_yes 5 (some 124) (v := ?_) rfl (by kernel_rfl) (by kernel_rfl) (by kernel_rfl) (by kernel_rfl) (fun _ _ _ h => h) (by rfl) (by assumption) ?_ ?_
                rotate_left
                · (intro w' hSw; (try dsimp only at hSw); go_simp; try with_reducible rfl)
                try simp only [Act.put, List.setIfInBounds_toArray, List.set_cons_zero, List.set_cons_succ]
                refine take_yes 6 (some 125) (v := ?_) rfl (by kernel_rfl) (by kernel_rfl) (by kernel_rfl) (by kernel_rfl) (fun _ _ _ h => h) (by rfl) (by assumption) ?_ ?_
                rotate_left
                · (intro w' hSw; (try dsimp only at hSw); go_simp; try with_reducible rfl)
                try simp only [Act.put, List.setIfInBounds_toArray, List.set_cons_zero, List.set_cons_succ]
                refine take_two 1 7 rfl rfl (by kernel_rfl) (by rfl) (by rfl) (fun K hK => ?_) (fun K hK => ?_)
                · skip
                  obtain ⟨q0, q1⟩ := (HBx.out.drew).one
                  go_simp
                  clear q0 q1
                  refine hK.out _ _ (HKC.out _ ((Since.refl wr).drew)) (fun hHeld1 => ?_)
                  clear hK K hHeld
                  try simp only [Act.put, List.setIfInBounds_toArray, List.set_cons_zero, List.set_cons_succ]
                  refine take_run 7 rfl (by kernel_rfl) (by rfl) (fun K hK => ?_)
                  go_simp
                  have hsb : Since wr (wr.alloc (.cells #[.bool c.ins, .int .i64 c.ed.id, .int .i64 c.ed.fr, .int .i64 (Edg.to c.ed), .int .i64 c.ed.lb] 98)).drew := ((Since.refl wr).alloc (.cells #[.bool c.ins, .int .i64 c.ed.id, .int .i64 c.ed.fr, .int .i64 (Edg.to c.ed), .int .i64 c.ed.lb] 98)).drew
                  refine hK.out _ _ (HKC.out _ (hsb)) (fun hHeld2 => ?_)
                  clear hK K hHeld1
                  try simp only [Act.put, List.setIfInBounds_toArray, List.set_cons_zero, List.set_cons_succ]
                  refine take_run 8 rfl (by kernel_rfl) (by rfl) (fun K hK => ?_)
                  refine wp_append_chgs (.tmp 120) (.tmp 126) rfl (O + 1) _ ((kindL false (netL x) ++ kindL true ((netL x).take k))) rfl (HOx.out.since hsb) _ _ _ rfl [c] ((chg_lit wr c HCI.out).since (Since.refl _).drew) HLN.out (by have := hsb.size; have := HBx.out.lt; omega) ?_
                  intro v4 w4 ho4 hg4 hb4
                  rw [← HTK.out] at ho4
                  have hc4 : Since wq w4 := (hsw.trans hsb).grown hg4 (fun q hq => by have := (HOx.out.since hsb).2.lt q hq; have := HXB.out; omega)
                  have HB4 : Hid (Blk w4 O 29 #[v]) := (HBx.out.since hsb).grwC hg4 (fun e => by have := (HOx.out.since hsb).2.lt (O) e.symm; omega)
                  obtain ⟨o4, c4, hv4⟩ := ho4.len
                  obtain ⟨n4, hn4⟩ : ∃ n, ((kindL false (netL x) ++ kindL true ((netL x).take (k + 1)))).length = n := ⟨_, rfl⟩
                  rw [hn4] at hv4
                  subst hv4
                  clear hn4
                  have hS4 := HKW.out _ hc4
                  refine hK.out _ _ hS4 (fun hHeld3 => ?_)
                  clear hK K hHeld2
                  try simp only [Act.put, List.setIfInBounds_toArray, List.set_cons_zero, List.set_cons_succ]
                  refine take_yes 9 (some 128) (v := ?_) rfl (by kernel_rfl) (by kernel_rfl) (by kernel_rfl) (by kernel_rfl) (fun _ _ _ h => h) (by rfl) (by assumption) ?_ ?_
                  rotate_left
                  · (intro w' hSw; (try dsimp only at hSw); go_simp; try with_reducible rfl)
                  try simp only [Act.put, List.setIfInBounds_toArray, List.set_cons_zero, List.set_cons_succ]
                  refine take_run 10 rfl (by kernel_rfl) (by rfl) (fun K hK => ?_)
                  obtain ⟨q0, q1⟩ := HB4.out.one
                  go_simp
                  clear q0 q1
                  have hcz : Since wq (w4.setCell ⟨O, 0, none⟩ (.slice o4 n4 c4)) := hc4.setCell (by have := HXB.out; show wq.heap.size ≤ O; omega) _
                  refine hK.out _ _ (HKW.out _ hcz) (fun hHeld4 => ?_)
                  clear hK K hHeld3
                  try simp only [Act.put, List.setIfInBounds_toArray, List.set_cons_zero, List.set_cons_succ]
                  refine wpAnyH_done (by kernel_rfl) ?_ _
                  clear hHeld4
                  have HB5 : Hid (Blk (w4.setCell ⟨O, 0, none⟩ (.slice o4 n4 c4)) (O) 29 #[.slice o4 n4 c4]) := HB4.out.set 0 (.slice o4 n4 c4)
                  have HO5 := Lib.hid (ho4.far (p := ⟨O, 0, none⟩) (by show (O : Nat) < O + 1; omega) (.slice o4 n4 c4))
                  clear hc4 HB4 hsb hb4 hg4
                  go_wp2
                  go_roundw
                  case rel => exact ⟨k + 1, _, by omega, by go_num, HB5.out, HO5.out, hcz⟩
                  case measure => simp [intOf]; omega
                · skip
                  go_simp
                  have hsb : Since wr (wr.alloc (.cells #[.bool c.ins, .int .i64 c.ed.id, .int .i64 c.ed.fr, .int .i64 (Edg.to c.ed), .int .i64 c.ed.lb] 98)).drew := ((Since.refl wr).alloc (.cells #[.bool c.ins, .int .i64 c.ed.id, .int .i64 c.ed.fr, .int .i64 (Edg.to c.ed), .int .i64 c.ed.lb] 98)).drew
                  refine hK.out _ _ (HKC.out _ (hsb)) (fun hHeld1 => ?_)
                  clear hK K hHeld
                  try simp only [Act.put, List.setIfInBounds_toArray, List.set_cons_zero, List.set_cons_succ]
                  refine take_run 1 rfl (by kernel_rfl) (by rfl) (fun K hK => ?_)
                  obtain ⟨q0, q1⟩ := (HBx.out.since hsb).one
                  go_simp
                  clear q0 q1
                  refine hK.out _ _ (HKC.out _ (hsb)) (fun hHeld2 => ?_)
                  clear hK K hHeld1
                  try simp only [Act.put, List.setIfInBounds_toArray, List.set_cons_zero, List.set_cons_succ]
                  refine take_run 8 rfl (by kernel_rfl) (by rfl) (fun K hK => ?_)
                  refine wp_append_chgs (.tmp 120) (.tmp 126) rfl (O + 1) _ ((kindL false (netL x) ++ kindL true ((netL x).take k))) rfl (HOx.out.since hsb) _ _ _ rfl [c] ((chg_lit wr c HCI.out).since (Since.refl _).drew) HLN.out (by have := hsb.size; have := HBx.out.lt; omega) ?_
                  intro v4 w4 ho4 hg4 hb4
                  rw [← HTK.out] at ho4
                  have hc4 : Since wq w4 := (hsw.trans hsb).grown hg4 (fun q hq => by have := (HOx.out.since hsb).2.lt q hq; have := HXB.out; omega)
                  have HB4 : Hid (Blk w4 O 29 #[v]) := (HBx.out.since hsb).grwC hg4 (fun e => by have := (HOx.out.since hsb).2.lt (O) e.symm; omega)
                  obtain ⟨o4, c4, hv4⟩ := ho4.len
                  obtain ⟨n4, hn4⟩ : ∃ n, ((kindL false (netL x) ++ kindL true ((netL x).take (k + 1)))).length = n := ⟨_, rfl⟩
                  rw [hn4] at hv4
                  subst hv4
                  clear hn4
                  have hS4 := HKW.out _ hc4
                  refine hK.out _ _ hS4 (fun hHeld3 => ?_)
                  clear hK K hHeld2
                  try simp only [Act.put, List.setIfInBounds_toArray, List.set_cons_zero, List.set_cons_succ]
                  refine take_yes 9 (some 128) (v := ?_) rfl (by kernel_rfl) (by kernel_rfl) (by kernel_rfl) (by kernel_rfl) (fun _ _ _ h => h) (by rfl) (by assumption) ?_ ?_
                  rotate_left
                  · (intro w' hSw; (try dsimp only at hSw); go_simp; try with_reducible rfl)
                  try simp only [Act.put, List.setIfInBounds_toArray, List.set_cons_zero, List.set_cons_succ]
                  refine take_run 10 rfl (by kernel_rfl) (by rfl) (fun K hK => ?_)
                  obtain ⟨q0, q1⟩ := HB4.out.one
                  go_simp
                  clear q0 q1
                  have hcz : Since wq (w4.setCell ⟨O, 0, none⟩ (.slice o4 n4 c4)) := hc4.setCell (by have := HXB.out; show wq.heap.size ≤ O; omega) _
                  refine hK.out _ _ (HKW.out _ hcz) (fun hHeld4 => ?_)
                  clear hK K hHeld3
                  try simp only [Act.put, List.setIfInBounds_toArray, List.set_cons_zero, List.set_cons_succ]
                  refine wpAnyH_done (by kernel_rfl) ?_ _
                  clear hHeld4
                  have HB5 : Hid (Blk (w4.setCell ⟨O, 0, none⟩ (.slice o4 n4 c4)) (O) 29 #[.slice o4 n4 c4]) := HB4.out.set 0 (.slice o4 n4 c4)
                  have HO5 := Lib.hid (ho4.far (p := ⟨O, 0, none⟩) (by show (O : Nat) < O + 1; omega) (.slice o4 n4 c4))
                  clear hc4 HB4 hsb hb4 hg4
                  go_wp2
                  go_roundw
                  case rel => exact ⟨k + 1, _, by omega, by go_num, HB5.out, HO5.out, hcz⟩
                  case measure => simp [intOf]; omega
            · have hkm : m = k := by omega
              subst hkm
              have HOF : Hid (OwnC (O + 1) wr v (netB x)) := by
                have := HOx.out
                rw [List.take_of_length_le (by have := HNL.out; omega)] at this
                unfold Hid; rw [kindL_net]; exact this
              obtain ⟨so, sc, rfl⟩ := HOF.out.len
              obtain ⟨r0, r1⟩ := (BR.out.since (hs1q.trans hsw)).one
              obtain ⟨s0, s1⟩ := HBx.out.one
              have hs0e := (hs01.trans hs1q).trans hsw
              generalize (netB x).length = ln at s0 HOF
              clear HOx
              go_wp2_with fail
              refine bodyPost_ret (v := .agg #[.slice so ln sc]) (by simp [results, Try.results30, go_sem, *]) rfl ?_
              have HOZ := (HOF.out.far (p := ⟨w.heap.size + 1, 0, none⟩) (by simp; omega) (.slice so ln sc)).mono (by omega : w.heap.size ≤ O + 1)
              exact ⟨_, rfl, OwnB.mk HOZ, hs0e.setCell (by simp) _⟩
end Go.Proofs.Ytgdeiecbkmhbeaa
