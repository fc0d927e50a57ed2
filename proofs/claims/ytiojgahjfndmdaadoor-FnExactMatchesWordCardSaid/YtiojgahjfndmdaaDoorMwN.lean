/- findEnds by kinds of tokens; the program's matching of words. -/
import Derived.Test.YtiojgahjfndmdaaDoorMwF
import Derived.Test.YtiojgahjfndmdaaDoorNul
import Derived.Test.YtiojgahjfndmdaaDoorMwA
import Derived.Test.YtiojgahjfndmdaaDoorK1
namespace Go.Proofs.YtiojgahjfndmdaaDoor
set_option maxRecDepth 100000
open Go.ChangeShapes Go.WideShapes Go.ChangeAt Go.RowKit
set_option linter.unusedVariables false
set_option linter.unusedSimpArgs false

set_option maxHeartbeats 4000000 in
set_option maxRecDepth 100000 in
theorem find_none (W : List Int) (lr low high : Int) (l r : Tr) (hW : W.length ≤ 8) : FindC W (.node ⟨1, lr, low, high⟩ l r) := by
  intro b lo hi a0 b0 wv v i w hok ha hb hhb ht hm hw hiW
  obtain ⟨htok, hcase⟩ := hok
  have HWD := Lib.hid hw
  have HM := Lib.hid hm
  have hbw := hm.lt
  obtain ⟨htin, g, lv, rv, a, bb, c, d, rfl, hg, hB, hab, _, _, _, hL, hR⟩ := ht
  have HL := Lib.hid hL
  have HR := Lib.hid hR
  obtain ⟨pl, rfl⟩ := hL.isPtr
  obtain ⟨pr, rfl⟩ := hR.isPtr
  have BX := Lib.hid hB
  rw [opN_of] at hcase
  unfold ncells at BX
  dsimp only at BX
  obtain ⟨wo, wc, rfl, HWC⟩ := hw
  obtain ⟨n, hn⟩ : ∃ n, n = W.length := ⟨_, rfl⟩
  rw [← hn] at HWD hW hiW ⊢
  have HN := Lib.hid hn
  have hgb : g < b := by omega
  clear hn hL hR hm htin
  obtain ⟨y, hy⟩ : ∃ y, y = w.alloc (.cells #[.slice wo n wc, .map (some b)] 109) := ⟨_, rfl⟩
  have al : Since w y := by rw [hy]; exact (Since.refl w).alloc _
  have BM : Hid (Blk y w.heap.size 109 #[.slice wo n wc, .map (some b)]) := by rw [hy]; exact Blk.new rfl _ _
  have BN := Lib.hid (BX.out.since al)
  have HM0 := Lib.hid (HM.out.since al)
  have HY := Lib.hid hy
  have hi0 : (0 : Int) ≤ (i : Int) := by omega
  obtain ⟨⟨x0, x1, x2, x3, x4, x5⟩, _⟩ := BN.out.all6
  rw [hy] at x0 x1 x2 x3 x4 x5
  obtain ⟨m0, m1, _, _⟩ := BM.out.two
  rw [hy] at m0 m1
  clear hy hB
  have HV : Hid (endT W (Tr.node ⟨1, lr, low, high⟩ l r) i = 0) := by unfold Hid; simp [endT]
  go_enter Tryd.func118, Tryd.ntmps118
  go_wp2
  go_ret
  exact ⟨ret_int (by rw [HV.out]; rfl), by first | exact HM0.out | exact (HY.out ▸ HM0.out), by first | exact Within.of_since al | exact (HY.out ▸ Within.of_since al)⟩
set_option maxHeartbeats 4000000 in
set_option maxRecDepth 100000 in
theorem find_empty (W : List Int) (lr low high : Int) (l r : Tr) (hW : W.length ≤ 8) : FindC W (.node ⟨2, lr, low, high⟩ l r) := by
  intro b lo hi a0 b0 wv v i w hok ha hb hhb ht hm hw hiW
  obtain ⟨htok, hcase⟩ := hok
  have HWD := Lib.hid hw
  have HM := Lib.hid hm
  have hbw := hm.lt
  obtain ⟨htin, g, lv, rv, a, bb, c, d, rfl, hg, hB, hab, _, _, _, hL, hR⟩ := ht
  have HL := Lib.hid hL
  have HR := Lib.hid hR
  obtain ⟨pl, rfl⟩ := hL.isPtr
  obtain ⟨pr, rfl⟩ := hR.isPtr
  have BX := Lib.hid hB
  rw [opN_of] at hcase
  unfold ncells at BX
  dsimp only at BX
  obtain ⟨wo, wc, rfl, HWC⟩ := hw
  obtain ⟨n, hn⟩ : ∃ n, n = W.length := ⟨_, rfl⟩
  rw [← hn] at HWD hW hiW ⊢
  have HN := Lib.hid hn
  have hgb : g < b := by omega
  clear hn hL hR hm htin
  obtain ⟨y, hy⟩ : ∃ y, y = w.alloc (.cells #[.slice wo n wc, .map (some b)] 109) := ⟨_, rfl⟩
  have al : Since w y := by rw [hy]; exact (Since.refl w).alloc _
  have BM : Hid (Blk y w.heap.size 109 #[.slice wo n wc, .map (some b)]) := by rw [hy]; exact Blk.new rfl _ _
  have BN := Lib.hid (BX.out.since al)
  have HM0 := Lib.hid (HM.out.since al)
  have HY := Lib.hid hy
  have hi0 : (0 : Int) ≤ (i : Int) := by omega
  obtain ⟨⟨x0, x1, x2, x3, x4, x5⟩, _⟩ := BN.out.all6
  rw [hy] at x0 x1 x2 x3 x4 x5
  obtain ⟨m0, m1, _, _⟩ := BM.out.two
  rw [hy] at m0 m1
  clear hy hB
  have HV : Hid (endT W (Tr.node ⟨2, lr, low, high⟩ l r) i = 2 ^ i) := by unfold Hid; simp [endT]
  have hwp := shl_one i (by omega)
  go_enter Tryd.func118, Tryd.ntmps118
  go_wp2
  go_ret
  exact ⟨ret_int (by rw [HV.out]; rw [Int.natCast_pow]; first | exact hwp | rfl), by first | exact HM0.out | exact (HY.out ▸ HM0.out), by first | exact Within.of_since al | exact (HY.out ▸ Within.of_since al)⟩
set_option maxHeartbeats 4000000 in
set_option maxRecDepth 100000 in
theorem find_letter (W : List Int) (lr low high : Int) (l r : Tr) (hW : W.length ≤ 8) : FindC W (.node ⟨3, lr, low, high⟩ l r) := by
  intro b lo hi a0 b0 wv v i w hok ha hb hhb ht hm hw hiW
  obtain ⟨htok, hcase⟩ := hok
  have HWD := Lib.hid hw
  have HM := Lib.hid hm
  have hbw := hm.lt
  obtain ⟨htin, g, lv, rv, a, bb, c, d, rfl, hg, hB, hab, _, _, _, hL, hR⟩ := ht
  have HL := Lib.hid hL
  have HR := Lib.hid hR
  obtain ⟨pl, rfl⟩ := hL.isPtr
  obtain ⟨pr, rfl⟩ := hR.isPtr
  have BX := Lib.hid hB
  rw [opN_of] at hcase
  unfold ncells at BX
  dsimp only at BX
  obtain ⟨wo, wc, rfl, HWC⟩ := hw
  obtain ⟨n, hn⟩ : ∃ n, n = W.length := ⟨_, rfl⟩
  rw [← hn] at HWD hW hiW ⊢
  have HN := Lib.hid hn
  have hgb : g < b := by omega
  clear hn hL hR hm htin
  obtain ⟨y, hy⟩ : ∃ y, y = w.alloc (.cells #[.slice wo n wc, .map (some b)] 109) := ⟨_, rfl⟩
  have al : Since w y := by rw [hy]; exact (Since.refl w).alloc _
  have BM : Hid (Blk y w.heap.size 109 #[.slice wo n wc, .map (some b)]) := by rw [hy]; exact Blk.new rfl _ _
  have BN := Lib.hid (BX.out.since al)
  have HM0 := Lib.hid (HM.out.since al)
  have HY := Lib.hid hy
  have hi0 : (0 : Int) ≤ (i : Int) := by omega
  obtain ⟨⟨x0, x1, x2, x3, x4, x5⟩, _⟩ := BN.out.all6
  rw [hy] at x0 x1 x2 x3 x4 x5
  obtain ⟨m0, m1, _, _⟩ := BM.out.two
  rw [hy] at m0 m1
  clear hy hB
  by_cases hin : i < n
  · have hini : (i : Int) < (n : Int) := by omega
    have hx : i < W.length := by rw [← HN.out]; exact hin
    obtain ⟨k, off, rfl, hkb, hkw, hc0⟩ := HWC.out i hx
    obtain ⟨c0, hcc⟩ : ∃ c0, c0 = W[i] := ⟨_, rfl⟩
    rw [← hcc] at hc0
    have hcy : y.drew.cell? ⟨k, off + i, none⟩ = some (.int .i64 c0) := (since_cells al hkw _).trans hc0
    have HCC : Hid (W[i]? = some c0) := by unfold Hid; rw [List.getElem?_eq_getElem hx, hcc]
    clear hcc hc0 hin
    have hwp := shl_one (i + 1) (by omega)
    by_cases hlr : c0 = lr
    · have el : (c0 == lr) = true := by simp [hlr]
      have HV : Hid (endT W (Tr.node ⟨3, lr, low, high⟩ l r) i = 2 ^ (i + 1)) := by unfold Hid; simp [endT, HCC.out, hlr]
      clear hlr
      go_enter Tryd.func118, Tryd.ntmps118
      go_upto_region 5 with fail
      rw [← HY.out]
      clear x0 x1 x2 x3 x4 x5 m0 m1
      have HKC : Hid (∀ w', Blk w' w.heap.size 109 #[.slice (some ⟨k, off, none⟩) n wc, .map (some b)] → Blk w' g 103 #[.int .i64 3, .int .i64 lr, .int .i64 low, .int .i64 high, .pointer pl, .pointer pr] → w'.cell? ⟨k, off + i, none⟩ = some (.int .i64 c0) → w'.cell? ⟨w.heap.size, 0, none⟩ = some (.slice (some ⟨k, off, none⟩) n wc) ∧ w'.cell? ⟨w.heap.size, 1, none⟩ = some (.map (some b)) ∧ w'.cell? ⟨g, 0, none⟩ = some (.int .i64 3) ∧ w'.cell? ⟨g, 1, none⟩ = some (.int .i64 lr) ∧ w'.cell? ⟨g, 2, none⟩ = some (.int .i64 low) ∧ w'.cell? ⟨g, 3, none⟩ = some (.int .i64 high) ∧ w'.cell? ⟨g, 4, none⟩ = some (.pointer pl) ∧ w'.cell? ⟨g, 5, none⟩ = some (.pointer pr) ∧ w'.cell? ⟨k, off + i, none⟩ = some (.int .i64 c0)) := by
        intro w' hb0 hb1 hc
        obtain ⟨r0, r1, _, _⟩ := hb0.two
        obtain ⟨⟨n0, n1, n2, n3, n4, n5⟩, _⟩ := hb1.all6
        exact ⟨r0, r1, n0, n1, n2, n3, n4, n5, hc⟩
      refine wp_region_held_drew (S := (fun w' => w'.cell? ⟨w.heap.size, 0, none⟩ = some (.slice (some ⟨k, off, none⟩) n wc) ∧ w'.cell? ⟨w.heap.size, 1, none⟩ = some (.map (some b)) ∧ w'.cell? ⟨g, 0, none⟩ = some (.int .i64 3) ∧ w'.cell? ⟨g, 1, none⟩ = some (.int .i64 lr) ∧ w'.cell? ⟨g, 2, none⟩ = some (.int .i64 low) ∧ w'.cell? ⟨g, 3, none⟩ = some (.int .i64 high) ∧ w'.cell? ⟨g, 4, none⟩ = some (.pointer pl) ∧ w'.cell? ⟨g, 5, none⟩ = some (.pointer pr) ∧ w'.cell? ⟨k, off + i, none⟩ = some (.int .i64 c0))) (by kernel_rfl) (HKC.out _ BM.out.drew BN.out.drew hcy) (fun hHeld => ?_)
      refine take_yes 0 (some 18) (v := ?_) rfl (by kernel_rfl) (by kernel_rfl) (by kernel_rfl) (by kernel_rfl) (fun _ _ _ h => h) (by rfl) (by assumption) ?_ ?_
      rotate_left
      · (intro w' hSw; (try dsimp only at hSw); go_simp; try with_reducible rfl)
      try simp only [Act.put, List.setIfInBounds_toArray, List.set_cons_zero, List.set_cons_succ]
      refine take_yes 1 (some 19) (v := ?_) rfl (by kernel_rfl) (by kernel_rfl) (by kernel_rfl) (by kernel_rfl) (fun _ _ _ h => h) (by rfl) (by assumption) ?_ ?_
      rotate_left
      · (intro w' hSw; (try dsimp only at hSw); go_simp; try with_reducible rfl)
      try simp only [Act.put, List.setIfInBounds_toArray, List.set_cons_zero, List.set_cons_succ]
      refine take_yes 2 (some 20) (v := ?_) rfl (by kernel_rfl) (by kernel_rfl) (by kernel_rfl) (by kernel_rfl) (fun _ _ _ h => h) (by rfl) (by assumption) ?_ ?_
      rotate_left
      · (intro w' hSw; (try dsimp only at hSw); go_simp; try with_reducible rfl)
      try simp only [Act.put, List.setIfInBounds_toArray, List.set_cons_zero, List.set_cons_succ]
      refine take_yes 3 (some 21) (v := ?_) rfl (by kernel_rfl) (by kernel_rfl) (by kernel_rfl) (by kernel_rfl) (fun _ _ _ h => h) (by rfl) (by assumption) ?_ ?_
      rotate_left
      · (intro w' hSw; (try dsimp only at hSw); go_simp; try with_reducible rfl)
      try simp only [Act.put, List.setIfInBounds_toArray, List.set_cons_zero, List.set_cons_succ]
      refine take_yes 4 (some 22) (v := ?_) rfl (by kernel_rfl) (by kernel_rfl) (by kernel_rfl) (by kernel_rfl) (fun _ _ _ h => h) (by rfl) (by assumption) ?_ ?_
      rotate_left
      · (intro w' hSw; (try dsimp only at hSw); go_simp; try with_reducible rfl)
      try simp only [Act.put, List.setIfInBounds_toArray, List.set_cons_zero, List.set_cons_succ]
      refine take_yes 5 (some 23) (v := ?_) rfl (by kernel_rfl) (by kernel_rfl) (by kernel_rfl) (by kernel_rfl) (fun _ _ _ h => h) (by rfl) (by assumption) ?_ ?_
      rotate_left
      · (intro w' hSw; (try dsimp only at hSw); go_simp; try with_reducible rfl)
      try simp only [Act.put, List.setIfInBounds_toArray, List.set_cons_zero, List.set_cons_succ]
      refine take_yes 6 (some 24) (v := ?_) rfl (by kernel_rfl) (by kernel_rfl) (by kernel_rfl) (by kernel_rfl) (fun _ _ _ h => h) (by rfl) (by assumption) ?_ ?_
      rotate_left
      · (intro w' hSw; (try dsimp only at hSw); go_simp; try with_reducible rfl)
      try simp only [Act.put, List.setIfInBounds_toArray, List.set_cons_zero, List.set_cons_succ]
      refine take_yes 7 (some 25) (v := ?_) rfl (by kernel_rfl) (by kernel_rfl) (by kernel_rfl) (by kernel_rfl) (fun _ _ _ h => h) (by rfl) (by assumption) ?_ ?_
      rotate_left
      · (intro w' hSw; (try dsimp only at hSw); go_simp; try with_reducible rfl)
      try simp only [Act.put, List.setIfInBounds_toArray, List.set_cons_zero, List.set_cons_succ]
      refine take_yes 8 (some 26) (v := ?_) rfl (by kernel_rfl) (by kernel_rfl) (by kernel_rfl) (by kernel_rfl) (fun _ _ _ h => h) (by rfl) (by assumption) ?_ ?_
      rotate_left
      · (intro w' hSw; (try dsimp only at hSw); go_simp; try with_reducible rfl)
      try simp only [Act.put, List.setIfInBounds_toArray, List.set_cons_zero, List.set_cons_succ]
      refine take_yes 9 (some 27) (v := ?_) rfl (by kernel_rfl) (by kernel_rfl) (by kernel_rfl) (by kernel_rfl) (fun _ _ _ h => h) (by rfl) (by assumption) ?_ ?_
      rotate_left
      · (intro w' hSw; (try dsimp only at hSw); go_simp; try with_reducible rfl)
      try simp only [Act.put, List.setIfInBounds_toArray, List.set_cons_zero, List.set_cons_succ]
      refine take_yes 10 (some 28) (v := ?_) rfl (by kernel_rfl) (by kernel_rfl) (by kernel_rfl) (by kernel_rfl) (fun _ _ _ h => h) (by rfl) (by assumption) ?_ ?_
      rotate_left
      · (intro w' hSw; (try dsimp only at hSw); go_simp; try with_reducible rfl)
      try simp only [Act.put, List.setIfInBounds_toArray, List.set_cons_zero, List.set_cons_succ]
      refine take_yes 11 (some 29) (v := ?_) rfl (by kernel_rfl) (by kernel_rfl) (by kernel_rfl) (by kernel_rfl) (fun _ _ _ h => h) (by rfl) (by assumption) ?_ ?_
      rotate_left
      · (intro w' hSw; (try dsimp only at hSw); go_simp; try with_reducible rfl)
      try simp only [Act.put, List.setIfInBounds_toArray, List.set_cons_zero, List.set_cons_succ]
      refine take_yes 12 (some 30) (v := ?_) rfl (by kernel_rfl) (by kernel_rfl) (by kernel_rfl) (by kernel_rfl) (fun _ _ _ h => h) (by rfl) (by assumption) ?_ ?_
      rotate_left
      · (intro w' hSw; (try dsimp only at hSw); go_simp; try with_reducible rfl)
      try simp only [Act.put, List.setIfInBounds_toArray, List.set_cons_zero, List.set_cons_succ]
      refine take_yes 13 (some 31) (v := ?_) rfl (by kernel_rfl) (by kernel_rfl) (by kernel_rfl) (by kernel_rfl) (fun _ _ _ h => h) (by rfl) (by assumption) ?_ ?_
      rotate_left
      · (intro w' hSw; (try dsimp only at hSw); go_simp; try with_reducible rfl)
      try simp only [Act.put, List.setIfInBounds_toArray, List.set_cons_zero, List.set_cons_succ]
      refine take_yes 14 (some 32) (v := ?_) rfl (by kernel_rfl) (by kernel_rfl) (by kernel_rfl) (by kernel_rfl) (fun _ _ _ h => h) (by rfl) (by assumption) ?_ ?_
      rotate_left
      · (intro w' hSw; (try dsimp only at hSw); go_simp; try with_reducible rfl)
      try simp only [Act.put, List.setIfInBounds_toArray, List.set_cons_zero, List.set_cons_succ]
      refine take_yes 15 (some 33) (v := ?_) rfl (by kernel_rfl) (by kernel_rfl) (by kernel_rfl) (by kernel_rfl) (fun _ _ _ h => h) (by rfl) (by assumption) ?_ ?_
      rotate_left
      · (intro w' hSw; (try dsimp only at hSw); go_simp; try with_reducible rfl)
      try simp only [Act.put, List.setIfInBounds_toArray, List.set_cons_zero, List.set_cons_succ]
      refine take_yes 16 (some 34) (v := ?_) rfl (by kernel_rfl) (by kernel_rfl) (by kernel_rfl) (by kernel_rfl) (fun _ _ _ h => h) (by rfl) (by assumption) ?_ ?_
      rotate_left
      · (intro w' hSw; (try dsimp only at hSw); go_simp; try with_reducible rfl)
      try simp only [Act.put, List.setIfInBounds_toArray, List.set_cons_zero, List.set_cons_succ]
      refine take_yes 17 (some 35) (v := ?_) rfl (by kernel_rfl) (by kernel_rfl) (by kernel_rfl) (by kernel_rfl) (fun _ _ _ h => h) (by rfl) (by assumption) ?_ ?_
      rotate_left
      · (intro w' hSw; (try dsimp only at hSw); go_simp; try with_reducible rfl)
      try simp only [Act.put, List.setIfInBounds_toArray, List.set_cons_zero, List.set_cons_succ]
      refine wpAnyH_done (by kernel_rfl) ?_ _
      clear hHeld HKC
      go_wp2
      go_ret
      exact ⟨ret_int (by rw [HV.out]; rw [Int.natCast_pow]; first | exact hwp | rfl), by first | exact HM0.out | exact HM0.out.since (Since.refl _).drew, by first | exact Within.of_since al | exact Within.of_since al.drew⟩
    · have el : (c0 == lr) = false := by simp [hlr]
      have HV : Hid (endT W (Tr.node ⟨3, lr, low, high⟩ l r) i = 0) := by unfold Hid; simp [endT, HCC.out, hlr]
      clear hlr hwp
      go_enter Tryd.func118, Tryd.ntmps118
      go_upto_region 5 with fail
      rw [← HY.out]
      clear x0 x1 x2 x3 x4 x5 m0 m1
      have HKC : Hid (∀ w', Blk w' w.heap.size 109 #[.slice (some ⟨k, off, none⟩) n wc, .map (some b)] → Blk w' g 103 #[.int .i64 3, .int .i64 lr, .int .i64 low, .int .i64 high, .pointer pl, .pointer pr] → w'.cell? ⟨k, off + i, none⟩ = some (.int .i64 c0) → w'.cell? ⟨w.heap.size, 0, none⟩ = some (.slice (some ⟨k, off, none⟩) n wc) ∧ w'.cell? ⟨w.heap.size, 1, none⟩ = some (.map (some b)) ∧ w'.cell? ⟨g, 0, none⟩ = some (.int .i64 3) ∧ w'.cell? ⟨g, 1, none⟩ = some (.int .i64 lr) ∧ w'.cell? ⟨g, 2, none⟩ = some (.int .i64 low) ∧ w'.cell? ⟨g, 3, none⟩ = some (.int .i64 high) ∧ w'.cell? ⟨g, 4, none⟩ = some (.pointer pl) ∧ w'.cell? ⟨g, 5, none⟩ = some (.pointer pr) ∧ w'.cell? ⟨k, off + i, none⟩ = some (.int .i64 c0)) := by
        intro w' hb0 hb1 hc
        obtain ⟨r0, r1, _, _⟩ := hb0.two
        obtain ⟨⟨n0, n1, n2, n3, n4, n5⟩, _⟩ := hb1.all6
        exact ⟨r0, r1, n0, n1, n2, n3, n4, n5, hc⟩
      refine wp_region_held_drew (S := (fun w' => w'.cell? ⟨w.heap.size, 0, none⟩ = some (.slice (some ⟨k, off, none⟩) n wc) ∧ w'.cell? ⟨w.heap.size, 1, none⟩ = some (.map (some b)) ∧ w'.cell? ⟨g, 0, none⟩ = some (.int .i64 3) ∧ w'.cell? ⟨g, 1, none⟩ = some (.int .i64 lr) ∧ w'.cell? ⟨g, 2, none⟩ = some (.int .i64 low) ∧ w'.cell? ⟨g, 3, none⟩ = some (.int .i64 high) ∧ w'.cell? ⟨g, 4, none⟩ = some (.pointer pl) ∧ w'.cell? ⟨g, 5, none⟩ = some (.pointer pr) ∧ w'.cell? ⟨k, off + i, none⟩ = some (.int .i64 c0))) (by kernel_rfl) (HKC.out _ BM.out.drew BN.out.drew hcy) (fun hHeld => ?_)
      refine take_yes 0 (some 18) (v := ?_) rfl (by kernel_rfl) (by kernel_rfl) (by kernel_rfl) (by kernel_rfl) (fun _ _ _ h => h) (by rfl) (by assumption) ?_ ?_
      rotate_left
      · (intro w' hSw; (try dsimp only at hSw); go_simp; try with_reducible rfl)
      try simp only [Act.put, List.setIfInBounds_toArray, List.set_cons_zero, List.set_cons_succ]
      refine take_yes 1 (some 19) (v := ?_) rfl (by kernel_rfl) (by kernel_rfl) (by kernel_rfl) (by kernel_rfl) (fun _ _ _ h => h) (by rfl) (by assumption) ?_ ?_
      rotate_left
      · (intro w' hSw; (try dsimp only at hSw); go_simp; try with_reducible rfl)
      try simp only [Act.put, List.setIfInBounds_toArray, List.set_cons_zero, List.set_cons_succ]
      refine take_yes 2 (some 20) (v := ?_) rfl (by kernel_rfl) (by kernel_rfl) (by kernel_rfl) (by kernel_rfl) (fun _ _ _ h => h) (by rfl) (by assumption) ?_ ?_
      rotate_left
      · (intro w' hSw; (try dsimp only at hSw); go_simp; try with_reducible rfl)
      try simp only [Act.put, List.setIfInBounds_toArray, List.set_cons_zero, List.set_cons_succ]
      refine take_yes 3 (some 21) (v := ?_) rfl (by kernel_rfl) (by kernel_rfl) (by kernel_rfl) (by kernel_rfl) (fun _ _ _ h => h) (by rfl) (by assumption) ?_ ?_
      rotate_left
      · (intro w' hSw; (try dsimp only at hSw); go_simp; try with_reducible rfl)
      try simp only [Act.put, List.setIfInBounds_toArray, List.set_cons_zero, List.set_cons_succ]
      refine take_yes 4 (some 22) (v := ?_) rfl (by kernel_rfl) (by kernel_rfl) (by kernel_rfl) (by kernel_rfl) (fun _ _ _ h => h) (by rfl) (by assumption) ?_ ?_
      rotate_left
      · (intro w' hSw; (try dsimp only at hSw); go_simp; try with_reducible rfl)
      try simp only [Act.put, List.setIfInBounds_toArray, List.set_cons_zero, List.set_cons_succ]
      refine take_yes 5 (some 23) (v := ?_) rfl (by kernel_rfl) (by kernel_rfl) (by kernel_rfl) (by kernel_rfl) (fun _ _ _ h => h) (by rfl) (by assumption) ?_ ?_
      rotate_left
      · (intro w' hSw; (try dsimp only at hSw); go_simp; try with_reducible rfl)
      try simp only [Act.put, List.setIfInBounds_toArray, List.set_cons_zero, List.set_cons_succ]
      refine take_yes 6 (some 24) (v := ?_) rfl (by kernel_rfl) (by kernel_rfl) (by kernel_rfl) (by kernel_rfl) (fun _ _ _ h => h) (by rfl) (by assumption) ?_ ?_
      rotate_left
      · (intro w' hSw; (try dsimp only at hSw); go_simp; try with_reducible rfl)
      try simp only [Act.put, List.setIfInBounds_toArray, List.set_cons_zero, List.set_cons_succ]
      refine take_yes 7 (some 25) (v := ?_) rfl (by kernel_rfl) (by kernel_rfl) (by kernel_rfl) (by kernel_rfl) (fun _ _ _ h => h) (by rfl) (by assumption) ?_ ?_
      rotate_left
      · (intro w' hSw; (try dsimp only at hSw); go_simp; try with_reducible rfl)
      try simp only [Act.put, List.setIfInBounds_toArray, List.set_cons_zero, List.set_cons_succ]
      refine take_yes 8 (some 26) (v := ?_) rfl (by kernel_rfl) (by kernel_rfl) (by kernel_rfl) (by kernel_rfl) (fun _ _ _ h => h) (by rfl) (by assumption) ?_ ?_
      rotate_left
      · (intro w' hSw; (try dsimp only at hSw); go_simp; try with_reducible rfl)
      try simp only [Act.put, List.setIfInBounds_toArray, List.set_cons_zero, List.set_cons_succ]
      refine take_yes 9 (some 27) (v := ?_) rfl (by kernel_rfl) (by kernel_rfl) (by kernel_rfl) (by kernel_rfl) (fun _ _ _ h => h) (by rfl) (by assumption) ?_ ?_
      rotate_left
      · (intro w' hSw; (try dsimp only at hSw); go_simp; try with_reducible rfl)
      try simp only [Act.put, List.setIfInBounds_toArray, List.set_cons_zero, List.set_cons_succ]
      refine take_yes 10 (some 28) (v := ?_) rfl (by kernel_rfl) (by kernel_rfl) (by kernel_rfl) (by kernel_rfl) (fun _ _ _ h => h) (by rfl) (by assumption) ?_ ?_
      rotate_left
      · (intro w' hSw; (try dsimp only at hSw); go_simp; try with_reducible rfl)
      try simp only [Act.put, List.setIfInBounds_toArray, List.set_cons_zero, List.set_cons_succ]
      refine take_yes 11 (some 29) (v := ?_) rfl (by kernel_rfl) (by kernel_rfl) (by kernel_rfl) (by kernel_rfl) (fun _ _ _ h => h) (by rfl) (by assumption) ?_ ?_
      rotate_left
      · (intro w' hSw; (try dsimp only at hSw); go_simp; try with_reducible rfl)
      try simp only [Act.put, List.setIfInBounds_toArray, List.set_cons_zero, List.set_cons_succ]
      refine take_yes 12 (some 30) (v := ?_) rfl (by kernel_rfl) (by kernel_rfl) (by kernel_rfl) (by kernel_rfl) (fun _ _ _ h => h) (by rfl) (by assumption) ?_ ?_
      rotate_left
      · (intro w' hSw; (try dsimp only at hSw); go_simp; try with_reducible rfl)
      try simp only [Act.put, List.setIfInBounds_toArray, List.set_cons_zero, List.set_cons_succ]
      refine take_yes 13 (some 31) (v := ?_) rfl (by kernel_rfl) (by kernel_rfl) (by kernel_rfl) (by kernel_rfl) (fun _ _ _ h => h) (by rfl) (by assumption) ?_ ?_
      rotate_left
      · (intro w' hSw; (try dsimp only at hSw); go_simp; try with_reducible rfl)
      try simp only [Act.put, List.setIfInBounds_toArray, List.set_cons_zero, List.set_cons_succ]
      refine take_yes 14 (some 32) (v := ?_) rfl (by kernel_rfl) (by kernel_rfl) (by kernel_rfl) (by kernel_rfl) (fun _ _ _ h => h) (by rfl) (by assumption) ?_ ?_
      rotate_left
      · (intro w' hSw; (try dsimp only at hSw); go_simp; try with_reducible rfl)
      try simp only [Act.put, List.setIfInBounds_toArray, List.set_cons_zero, List.set_cons_succ]
      refine take_yes 15 (some 33) (v := ?_) rfl (by kernel_rfl) (by kernel_rfl) (by kernel_rfl) (by kernel_rfl) (fun _ _ _ h => h) (by rfl) (by assumption) ?_ ?_
      rotate_left
      · (intro w' hSw; (try dsimp only at hSw); go_simp; try with_reducible rfl)
      try simp only [Act.put, List.setIfInBounds_toArray, List.set_cons_zero, List.set_cons_succ]
      refine take_yes 16 (some 34) (v := ?_) rfl (by kernel_rfl) (by kernel_rfl) (by kernel_rfl) (by kernel_rfl) (fun _ _ _ h => h) (by rfl) (by assumption) ?_ ?_
      rotate_left
      · (intro w' hSw; (try dsimp only at hSw); go_simp; try with_reducible rfl)
      try simp only [Act.put, List.setIfInBounds_toArray, List.set_cons_zero, List.set_cons_succ]
      refine take_yes 17 (some 35) (v := ?_) rfl (by kernel_rfl) (by kernel_rfl) (by kernel_rfl) (by kernel_rfl) (fun _ _ _ h => h) (by rfl) (by assumption) ?_ ?_
      rotate_left
      · (intro w' hSw; (try dsimp only at hSw); go_simp; try with_reducible rfl)
      try simp only [Act.put, List.setIfInBounds_toArray, List.set_cons_zero, List.set_cons_succ]
      refine wpAnyH_done (by kernel_rfl) ?_ _
      clear hHeld HKC
      go_wp2
      go_ret
      exact ⟨ret_int (by rw [HV.out]; rfl), by first | exact HM0.out | exact HM0.out.since (Since.refl _).drew, by first | exact Within.of_since al | exact Within.of_since al.drew⟩
  · have hini : ¬ ((i : Int) < (n : Int)) := by omega
    have HV : Hid (endT W (Tr.node ⟨3, lr, low, high⟩ l r) i = 0) := by unfold Hid; simp [endT, List.getElem?_eq_none (show W.length ≤ i by rw [← HN.out]; omega)]
    clear hin
    go_enter Tryd.func118, Tryd.ntmps118
    go_upto_region 5 with fail
    rw [← HY.out]
    clear x0 x1 x2 x3 x4 x5 m0 m1
    have HKC : Hid (∀ w', Blk w' w.heap.size 109 #[.slice wo n wc, .map (some b)] → Blk w' g 103 #[.int .i64 3, .int .i64 lr, .int .i64 low, .int .i64 high, .pointer pl, .pointer pr] → w'.cell? ⟨w.heap.size, 0, none⟩ = some (.slice wo n wc) ∧ w'.cell? ⟨w.heap.size, 1, none⟩ = some (.map (some b)) ∧ w'.cell? ⟨g, 0, none⟩ = some (.int .i64 3) ∧ w'.cell? ⟨g, 1, none⟩ = some (.int .i64 lr) ∧ w'.cell? ⟨g, 2, none⟩ = some (.int .i64 low) ∧ w'.cell? ⟨g, 3, none⟩ = some (.int .i64 high) ∧ w'.cell? ⟨g, 4, none⟩ = some (.pointer pl) ∧ w'.cell? ⟨g, 5, none⟩ = some (.pointer pr)) := by
      intro w' hb0 hb1
      obtain ⟨r0, r1, _, _⟩ := hb0.two
      obtain ⟨⟨n0, n1, n2, n3, n4, n5⟩, _⟩ := hb1.all6
      exact ⟨r0, r1, n0, n1, n2, n3, n4, n5⟩
    refine wp_region_held_drew (S := (fun w' => w'.cell? ⟨w.heap.size, 0, none⟩ = some (.slice wo n wc) ∧ w'.cell? ⟨w.heap.size, 1, none⟩ = some (.map (some b)) ∧ w'.cell? ⟨g, 0, none⟩ = some (.int .i64 3) ∧ w'.cell? ⟨g, 1, none⟩ = some (.int .i64 lr) ∧ w'.cell? ⟨g, 2, none⟩ = some (.int .i64 low) ∧ w'.cell? ⟨g, 3, none⟩ = some (.int .i64 high) ∧ w'.cell? ⟨g, 4, none⟩ = some (.pointer pl) ∧ w'.cell? ⟨g, 5, none⟩ = some (.pointer pr))) (by kernel_rfl) (HKC.out _ BM.out.drew BN.out.drew) (fun hHeld => ?_)
    refine take_yes 0 (some 18) (v := ?_) rfl (by kernel_rfl) (by kernel_rfl) (by kernel_rfl) (by kernel_rfl) (fun _ _ _ h => h) (by rfl) (by assumption) ?_ ?_
    rotate_left
    · (intro w' hSw; (try dsimp only at hSw); go_simp; try with_reducible rfl)
    try simp only [Act.put, List.setIfInBounds_toArray, List.set_cons_zero, List.set_cons_succ]
    refine take_yes 1 (some 19) (v := ?_) rfl (by kernel_rfl) (by kernel_rfl) (by kernel_rfl) (by kernel_rfl) (fun _ _ _ h => h) (by rfl) (by assumption) ?_ ?_
    rotate_left
    · (intro w' hSw; (try dsimp only at hSw); go_simp; try with_reducible rfl)
    try simp only [Act.put, List.setIfInBounds_toArray, List.set_cons_zero, List.set_cons_succ]
    refine take_yes 2 (some 20) (v := ?_) rfl (by kernel_rfl) (by kernel_rfl) (by kernel_rfl) (by kernel_rfl) (fun _ _ _ h => h) (by rfl) (by assumption) ?_ ?_
    rotate_left
    · (intro w' hSw; (try dsimp only at hSw); go_simp; try with_reducible rfl)
    try simp only [Act.put, List.setIfInBounds_toArray, List.set_cons_zero, List.set_cons_succ]
    refine take_yes 3 (some 21) (v := ?_) rfl (by kernel_rfl) (by kernel_rfl) (by kernel_rfl) (by kernel_rfl) (fun _ _ _ h => h) (by rfl) (by assumption) ?_ ?_
    rotate_left
    · (intro w' hSw; (try dsimp only at hSw); go_simp; try with_reducible rfl)
    try simp only [Act.put, List.setIfInBounds_toArray, List.set_cons_zero, List.set_cons_succ]
    refine take_yes 4 (some 22) (v := ?_) rfl (by kernel_rfl) (by kernel_rfl) (by kernel_rfl) (by kernel_rfl) (fun _ _ _ h => h) (by rfl) (by assumption) ?_ ?_
    rotate_left
    · (intro w' hSw; (try dsimp only at hSw); go_simp; try with_reducible rfl)
    try simp only [Act.put, List.setIfInBounds_toArray, List.set_cons_zero, List.set_cons_succ]
    refine take_yes 5 (some 23) (v := ?_) rfl (by kernel_rfl) (by kernel_rfl) (by kernel_rfl) (by kernel_rfl) (fun _ _ _ h => h) (by rfl) (by assumption) ?_ ?_
    rotate_left
    · (intro w' hSw; (try dsimp only at hSw); go_simp; try with_reducible rfl)
    try simp only [Act.put, List.setIfInBounds_toArray, List.set_cons_zero, List.set_cons_succ]
    refine take_no 6 (some 24) rfl (by kernel_rfl) (by kernel_rfl) (by kernel_rfl) (by kernel_rfl) (fun _ _ _ h => h) (by rfl) (by assumption) ?_
    try simp only [Act.put, List.setIfInBounds_toArray, List.set_cons_zero, List.set_cons_succ]
    refine take_no 7 (some 25) rfl (by kernel_rfl) (by kernel_rfl) (by kernel_rfl) (by kernel_rfl) (fun _ _ _ h => h) (by rfl) (by assumption) ?_
    try simp only [Act.put, List.setIfInBounds_toArray, List.set_cons_zero, List.set_cons_succ]
    refine take_no 8 (some 26) rfl (by kernel_rfl) (by kernel_rfl) (by kernel_rfl) (by kernel_rfl) (fun _ _ _ h => h) (by rfl) (by assumption) ?_
    try simp only [Act.put, List.setIfInBounds_toArray, List.set_cons_zero, List.set_cons_succ]
    refine take_no 9 (some 27) rfl (by kernel_rfl) (by kernel_rfl) (by kernel_rfl) (by kernel_rfl) (fun _ _ _ h => h) (by rfl) (by assumption) ?_
    try simp only [Act.put, List.setIfInBounds_toArray, List.set_cons_zero, List.set_cons_succ]
    refine take_no 10 (some 28) rfl (by kernel_rfl) (by kernel_rfl) (by kernel_rfl) (by kernel_rfl) (fun _ _ _ h => h) (by rfl) (by assumption) ?_
    try simp only [Act.put, List.setIfInBounds_toArray, List.set_cons_zero, List.set_cons_succ]
    refine take_no 11 (some 29) rfl (by kernel_rfl) (by kernel_rfl) (by kernel_rfl) (by kernel_rfl) (fun _ _ _ h => h) (by rfl) (by assumption) ?_
    try simp only [Act.put, List.setIfInBounds_toArray, List.set_cons_zero, List.set_cons_succ]
    refine take_no 12 (some 30) rfl (by kernel_rfl) (by kernel_rfl) (by kernel_rfl) (by kernel_rfl) (fun _ _ _ h => h) (by rfl) (by assumption) ?_
    try simp only [Act.put, List.setIfInBounds_toArray, List.set_cons_zero, List.set_cons_succ]
    refine take_no 13 (some 31) rfl (by kernel_rfl) (by kernel_rfl) (by kernel_rfl) (by kernel_rfl) (fun _ _ _ h => h) (by rfl) (by assumption) ?_
    try simp only [Act.put, List.setIfInBounds_toArray, List.set_cons_zero, List.set_cons_succ]
    refine take_no 14 (some 32) rfl (by kernel_rfl) (by kernel_rfl) (by kernel_rfl) (by kernel_rfl) (fun _ _ _ h => h) (by rfl) (by assumption) ?_
    try simp only [Act.put, List.setIfInBounds_toArray, List.set_cons_zero, List.set_cons_succ]
    refine take_no 15 (some 33) rfl (by kernel_rfl) (by kernel_rfl) (by kernel_rfl) (by kernel_rfl) (fun _ _ _ h => h) (by rfl) (by assumption) ?_
    try simp only [Act.put, List.setIfInBounds_toArray, List.set_cons_zero, List.set_cons_succ]
    refine take_no 16 (some 34) rfl (by kernel_rfl) (by kernel_rfl) (by kernel_rfl) (by kernel_rfl) (fun _ _ _ h => h) (by rfl) (by assumption) ?_
    try simp only [Act.put, List.setIfInBounds_toArray, List.set_cons_zero, List.set_cons_succ]
    refine take_yes 17 (some 35) (v := ?_) rfl (by kernel_rfl) (by kernel_rfl) (by kernel_rfl) (by kernel_rfl) (fun _ _ _ h => h) (by rfl) (by assumption) ?_ ?_
    rotate_left
    · (intro w' hSw; (try dsimp only at hSw); go_simp; try with_reducible rfl)
    try simp only [Act.put, List.setIfInBounds_toArray, List.set_cons_zero, List.set_cons_succ]
    refine wpAnyH_done (by kernel_rfl) ?_ _
    clear hHeld HKC
    go_wp2
    go_ret
    exact ⟨ret_int (by rw [HV.out]; rfl), by first | exact HM0.out | exact HM0.out.since (Since.refl _).drew, by first | exact Within.of_since al | exact Within.of_since al.drew⟩
set_option maxHeartbeats 4000000 in
set_option maxRecDepth 100000 in
theorem find_cat (W : List Int) (lr low high : Int) (l r : Tr) (hW : W.length ≤ 8) (HfL : FromC W l) (HaR : AllC W r) : FindC W (.node ⟨4, lr, low, high⟩ l r) := by
  intro b lo hi a0 b0 wv v i w hok ha hb hhb ht hm hw hiW
  obtain ⟨htok, hcase⟩ := hok
  have HWD := Lib.hid hw
  have HM := Lib.hid hm
  have hbw := hm.lt
  obtain ⟨htin, g, lv, rv, a, bb, c, d, rfl, hg, hB, hab, _, _, _, hL, hR⟩ := ht
  have HL := Lib.hid hL
  have HR := Lib.hid hR
  obtain ⟨pl, rfl⟩ := hL.isPtr
  obtain ⟨pr, rfl⟩ := hR.isPtr
  have BX := Lib.hid hB
  rw [opN_of] at hcase
  unfold ncells at BX
  dsimp only at BX
  obtain ⟨wo, wc, rfl, HWC⟩ := hw
  obtain ⟨n, hn⟩ : ∃ n, n = W.length := ⟨_, rfl⟩
  rw [← hn] at HWD hW hiW ⊢
  have HN := Lib.hid hn
  have hgb : g < b := by omega
  clear hn hL hR hm htin
  obtain ⟨y, hy⟩ : ∃ y, y = w.alloc (.cells #[.slice wo n wc, .map (some b)] 109) := ⟨_, rfl⟩
  have al : Since w y := by rw [hy]; exact (Since.refl w).alloc _
  have BM : Hid (Blk y w.heap.size 109 #[.slice wo n wc, .map (some b)]) := by rw [hy]; exact Blk.new rfl _ _
  have BN := Lib.hid (BX.out.since al)
  have HM0 := Lib.hid (HM.out.since al)
  have HY := Lib.hid hy
  have hi0 : (0 : Int) ≤ (i : Int) := by omega
  obtain ⟨⟨x0, x1, x2, x3, x4, x5⟩, _⟩ := BN.out.all6
  rw [hy] at x0 x1 x2 x3 x4 x5
  obtain ⟨m0, m1, _, _⟩ := BM.out.two
  rw [hy] at m0 m1
  clear hy hB
  obtain ⟨hlo, hro⟩ : l.ok ∧ r.ok := by
    rcases hcase with ⟨h0, _⟩ | ⟨h1, _⟩ | ⟨_, a, b⟩
    · simp at h0
    · simp at h1
    · exact ⟨a, b⟩
  clear hcase
  have hWl : W.length ≤ 8 := by rw [← HN.out]; exact hW
  have hiW2 : i ≤ W.length := by rw [← HN.out]; exact hiW
  have HV : Hid (endT W (Tr.node ⟨4, lr, low, high⟩ l r) i = allE (endT W r) (endT W l i) (W.length + 1)) := by unfold Hid; simp [endT]
  have hEl := end_lt hWl hlo hiW2
  go_enter Tryd.func118, Tryd.ntmps118
  go_upto_region 8 with fail
  rw [← HY.out]
  clear x0 x1 x2 x3 x4 x5 m0 m1
  have HKC : Hid (∀ w', Blk w' w.heap.size 109 #[.slice wo n wc, .map (some b)] → Blk w' g 103 #[.int .i64 4, .int .i64 lr, .int .i64 low, .int .i64 high, .pointer pl, .pointer pr] → w'.cell? ⟨w.heap.size, 0, none⟩ = some (.slice wo n wc) ∧ w'.cell? ⟨w.heap.size, 1, none⟩ = some (.map (some b)) ∧ w'.cell? ⟨g, 0, none⟩ = some (.int .i64 4) ∧ w'.cell? ⟨g, 1, none⟩ = some (.int .i64 lr) ∧ w'.cell? ⟨g, 2, none⟩ = some (.int .i64 low) ∧ w'.cell? ⟨g, 3, none⟩ = some (.int .i64 high) ∧ w'.cell? ⟨g, 4, none⟩ = some (.pointer pl) ∧ w'.cell? ⟨g, 5, none⟩ = some (.pointer pr)) := by
    intro w' hb0 hb1
    obtain ⟨r0, r1, _, _⟩ := hb0.two
    obtain ⟨⟨n0, n1, n2, n3, n4, n5⟩, _⟩ := hb1.all6
    exact ⟨r0, r1, n0, n1, n2, n3, n4, n5⟩
  refine wp_region_held_drew (S := (fun w' => w'.cell? ⟨w.heap.size, 0, none⟩ = some (.slice wo n wc) ∧ w'.cell? ⟨w.heap.size, 1, none⟩ = some (.map (some b)) ∧ w'.cell? ⟨g, 0, none⟩ = some (.int .i64 4) ∧ w'.cell? ⟨g, 1, none⟩ = some (.int .i64 lr) ∧ w'.cell? ⟨g, 2, none⟩ = some (.int .i64 low) ∧ w'.cell? ⟨g, 3, none⟩ = some (.int .i64 high) ∧ w'.cell? ⟨g, 4, none⟩ = some (.pointer pl) ∧ w'.cell? ⟨g, 5, none⟩ = some (.pointer pr))) (by kernel_rfl) (HKC.out _ BM.out.drew BN.out.drew) (fun hHeld => ?_)
  have W0 : Within b (b + 1) w y.drew := Within.of_since al.drew
  have BMd := Lib.hid BM.out.drew
  have BNd := Lib.hid BN.out.drew
  have HMd := Lib.hid (HM0.out.since (Since.refl y).drew)

  refine take_yes 0 (some 41) (v := ?_) rfl (by kernel_rfl) (by kernel_rfl) (by kernel_rfl) (by kernel_rfl) (fun _ _ _ h => h) (by rfl) (by assumption) ?_ ?_
  rotate_left
  · (intro w' hSw; (try dsimp only at hSw); go_simp; try with_reducible rfl)
  try simp only [Act.put, List.setIfInBounds_toArray, List.set_cons_zero, List.set_cons_succ]
  refine take_yes 1 (some 42) (v := ?_) rfl (by kernel_rfl) (by kernel_rfl) (by kernel_rfl) (by kernel_rfl) (fun _ _ _ h => h) (by rfl) (by assumption) ?_ ?_
  rotate_left
  · (intro w' hSw; (try dsimp only at hSw); go_simp; try with_reducible rfl)
  try simp only [Act.put, List.setIfInBounds_toArray, List.set_cons_zero, List.set_cons_succ]
  refine take_yes 2 (some 43) (v := ?_) rfl (by kernel_rfl) (by kernel_rfl) (by kernel_rfl) (by kernel_rfl) (fun _ _ _ h => h) (by rfl) (by assumption) ?_ ?_
  rotate_left
  · (intro w' hSw; (try dsimp only at hSw); go_simp; try with_reducible rfl)
  try simp only [Act.put, List.setIfInBounds_toArray, List.set_cons_zero, List.set_cons_succ]
  refine take_yes 3 (some 44) (v := ?_) rfl (by kernel_rfl) (by kernel_rfl) (by kernel_rfl) (by kernel_rfl) (fun _ _ _ h => h) (by rfl) (by assumption) ?_ ?_
  rotate_left
  · (intro w' hSw; (try dsimp only at hSw); go_simp; try with_reducible rfl)
  try simp only [Act.put, List.setIfInBounds_toArray, List.set_cons_zero, List.set_cons_succ]
  refine take_yes 4 (some 45) (v := ?_) rfl (by kernel_rfl) (by kernel_rfl) (by kernel_rfl) (by kernel_rfl) (fun _ _ _ h => h) (by rfl) (by assumption) ?_ ?_
  rotate_left
  · (intro w' hSw; (try dsimp only at hSw); go_simp; try with_reducible rfl)
  try simp only [Act.put, List.setIfInBounds_toArray, List.set_cons_zero, List.set_cons_succ]
  refine take_yes 5 (some 46) (v := ?_) rfl (by kernel_rfl) (by kernel_rfl) (by kernel_rfl) (by kernel_rfl) (fun _ _ _ h => h) (by rfl) (by assumption) ?_ ?_
  rotate_left
  · (intro w' hSw; (try dsimp only at hSw); go_simp; try with_reducible rfl)
  try simp only [Act.put, List.setIfInBounds_toArray, List.set_cons_zero, List.set_cons_succ]
  refine take_yes 6 (some 47) (v := ?_) rfl (by kernel_rfl) (by kernel_rfl) (by kernel_rfl) (by kernel_rfl) (fun _ _ _ h => h) (by rfl) (by assumption) ?_ ?_
  rotate_left
  · (intro w' hSw; (try dsimp only at hSw); go_simp; try with_reducible rfl)
  try simp only [Act.put, List.setIfInBounds_toArray, List.set_cons_zero, List.set_cons_succ]
  refine take_yes 7 (some 48) (v := ?_) rfl (by kernel_rfl) (by kernel_rfl) (by kernel_rfl) (by kernel_rfl) (fun _ _ _ h => h) (by rfl) (by assumption) ?_ ?_
  rotate_left
  · (intro w' hSw; (try dsimp only at hSw); go_simp; try with_reducible rfl)
  try simp only [Act.put, List.setIfInBounds_toArray, List.set_cons_zero, List.set_cons_succ]
  refine take_yes 8 (some 49) (v := ?_) rfl (by kernel_rfl) (by kernel_rfl) (by kernel_rfl) (by kernel_rfl) (fun _ _ _ h => h) (by rfl) (by assumption) ?_ ?_
  rotate_left
  · (intro w' hSw; (try dsimp only at hSw); go_simp; try with_reducible rfl)
  try simp only [Act.put, List.setIfInBounds_toArray, List.set_cons_zero, List.set_cons_succ]
  refine take_yes 9 (some 50) (v := ?_) rfl (by kernel_rfl) (by kernel_rfl) (by kernel_rfl) (by kernel_rfl) (fun _ _ _ h => h) (by rfl) (by assumption) ?_ ?_
  rotate_left
  · (intro w' hSw; (try dsimp only at hSw); go_simp; try with_reducible rfl)
  try simp only [Act.put, List.setIfInBounds_toArray, List.set_cons_zero, List.set_cons_succ]
  refine take_yes 10 (some 51) (v := ?_) rfl (by kernel_rfl) (by kernel_rfl) (by kernel_rfl) (by kernel_rfl) (fun _ _ _ h => h) (by rfl) (by assumption) ?_ ?_
  rotate_left
  · (intro w' hSw; (try dsimp only at hSw); go_simp; try with_reducible rfl)
  try simp only [Act.put, List.setIfInBounds_toArray, List.set_cons_zero, List.set_cons_succ]
  refine take_run 11 rfl (by kernel_rfl) (by rfl) (fun K hK => ?_)
  go_simp
  refine (HfL b lo hi a bb _ _ i _ hlo (by omega) (by omega) hhb (HL.out.within W0 (by omega)) HMd.out (HWD.out.within W0) hiW2).mono ?_
  rintro en q_1 ⟨rfl, hm_3, hw_2⟩
  have M_4 := Lib.hid hm_3
  have W_5 := W0.trans hw_2
  have B_6 := Lib.hid (BMd.out.within hw_2 (by omega))
  have N_7 := Lib.hid (BNd.out.within hw_2 (by omega))
  clear hm_3 hw_2
  refine hK.out _ _ (HKC.out _ B_6.out N_7.out) (fun hHeld_8 => ?_)
  clear hK K hHeld
  try simp only [Act.put, List.setIfInBounds_toArray, List.set_cons_zero, List.set_cons_succ]
  refine take_run 12 rfl (by kernel_rfl) (by rfl) (fun K hK => ?_)
  go_simp
  refine (HaR b lo hi c d _ _ (endT W l i) _ hro (by omega) (by omega) hhb (HR.out.within W_5 (by omega)) M_4.out (HWD.out.within W_5) hEl).mono ?_
  rintro en q_9 ⟨rfl, hm_11, hw_10⟩
  have M_12 := Lib.hid hm_11
  have W_13 := W_5.trans hw_10
  have B_14 := Lib.hid (B_6.out.within hw_10 (by omega))
  have N_15 := Lib.hid (N_7.out.within hw_10 (by omega))
  clear hm_11 hw_10
  refine hK.out _ _ (HKC.out _ B_14.out N_15.out) (fun hHeld_16 => ?_)
  clear hK K hHeld_8
  try simp only [Act.put, List.setIfInBounds_toArray, List.set_cons_zero, List.set_cons_succ]
  refine take_yes 13 (some 6) (v := ?_) rfl (by kernel_rfl) (by kernel_rfl) (by kernel_rfl) (by kernel_rfl) (fun _ _ _ h => h) (by rfl) (by assumption) ?_ ?_
  rotate_left
  · (intro w' hSw; (try dsimp only at hSw); go_simp; try with_reducible rfl)
  try simp only [Act.put, List.setIfInBounds_toArray, List.set_cons_zero, List.set_cons_succ]
  refine wpAnyH_done (by kernel_rfl) ?_ _
  clear hHeld_16 HKC
  go_wp2
  go_ret
  exact ⟨ret_int (by first | rw [HV.out] | (rw [HV.out]; rfl)), M_12.out, W_13⟩
set_option maxHeartbeats 4000000 in
set_option maxRecDepth 100000 in
theorem find_uni (W : List Int) (lr low high : Int) (l r : Tr) (hW : W.length ≤ 8) (HfL : FromC W l) (HfR : FromC W r) : FindC W (.node ⟨5, lr, low, high⟩ l r) := by
  intro b lo hi a0 b0 wv v i w hok ha hb hhb ht hm hw hiW
  obtain ⟨htok, hcase⟩ := hok
  have HWD := Lib.hid hw
  have HM := Lib.hid hm
  have hbw := hm.lt
  obtain ⟨htin, g, lv, rv, a, bb, c, d, rfl, hg, hB, hab, _, _, _, hL, hR⟩ := ht
  have HL := Lib.hid hL
  have HR := Lib.hid hR
  obtain ⟨pl, rfl⟩ := hL.isPtr
  obtain ⟨pr, rfl⟩ := hR.isPtr
  have BX := Lib.hid hB
  rw [opN_of] at hcase
  unfold ncells at BX
  dsimp only at BX
  obtain ⟨wo, wc, rfl, HWC⟩ := hw
  obtain ⟨n, hn⟩ : ∃ n, n = W.length := ⟨_, rfl⟩
  rw [← hn] at HWD hW hiW ⊢
  have HN := Lib.hid hn
  have hgb : g < b := by omega
  clear hn hL hR hm htin
  obtain ⟨y, hy⟩ : ∃ y, y = w.alloc (.cells #[.slice wo n wc, .map (some b)] 109) := ⟨_, rfl⟩
  have al : Since w y := by rw [hy]; exact (Since.refl w).alloc _
  have BM : Hid (Blk y w.heap.size 109 #[.slice wo n wc, .map (some b)]) := by rw [hy]; exact Blk.new rfl _ _
  have BN := Lib.hid (BX.out.since al)
  have HM0 := Lib.hid (HM.out.since al)
  have HY := Lib.hid hy
  have hi0 : (0 : Int) ≤ (i : Int) := by omega
  obtain ⟨⟨x0, x1, x2, x3, x4, x5⟩, _⟩ := BN.out.all6
  rw [hy] at x0 x1 x2 x3 x4 x5
  obtain ⟨m0, m1, _, _⟩ := BM.out.two
  rw [hy] at m0 m1
  clear hy hB
  obtain ⟨hlo, hro⟩ : l.ok ∧ r.ok := by
    rcases hcase with ⟨h0, _⟩ | ⟨h1, _⟩ | ⟨_, a, b⟩
    · simp at h0
    · simp at h1
    · exact ⟨a, b⟩
  clear hcase
  have hWl : W.length ≤ 8 := by rw [← HN.out]; exact hW
  have hiW2 : i ≤ W.length := by rw [← HN.out]; exact hiW
  have hEl := end_lt hWl hlo hiW2
  have hEr := end_lt hWl hro hiW2
  have HV : Hid (endT W (Tr.node ⟨5, lr, low, high⟩ l r) i = endT W l i ||| endT W r i) := by unfold Hid; simp [endT]
  have HOR := Lib.hid (or_nat (endT W l i) (endT W r i) hEl hEr)
  go_enter Tryd.func118, Tryd.ntmps118
  go_upto_region 10 with fail
  rw [← HY.out]
  clear x0 x1 x2 x3 x4 x5 m0 m1
  have HKC : Hid (∀ w', Blk w' w.heap.size 109 #[.slice wo n wc, .map (some b)] → Blk w' g 103 #[.int .i64 5, .int .i64 lr, .int .i64 low, .int .i64 high, .pointer pl, .pointer pr] → w'.cell? ⟨w.heap.size, 0, none⟩ = some (.slice wo n wc) ∧ w'.cell? ⟨w.heap.size, 1, none⟩ = some (.map (some b)) ∧ w'.cell? ⟨g, 0, none⟩ = some (.int .i64 5) ∧ w'.cell? ⟨g, 1, none⟩ = some (.int .i64 lr) ∧ w'.cell? ⟨g, 2, none⟩ = some (.int .i64 low) ∧ w'.cell? ⟨g, 3, none⟩ = some (.int .i64 high) ∧ w'.cell? ⟨g, 4, none⟩ = some (.pointer pl) ∧ w'.cell? ⟨g, 5, none⟩ = some (.pointer pr)) := by
    intro w' hb0 hb1
    obtain ⟨r0, r1, _, _⟩ := hb0.two
    obtain ⟨⟨n0, n1, n2, n3, n4, n5⟩, _⟩ := hb1.all6
    exact ⟨r0, r1, n0, n1, n2, n3, n4, n5⟩
  refine wp_region_held_drew (S := (fun w' => w'.cell? ⟨w.heap.size, 0, none⟩ = some (.slice wo n wc) ∧ w'.cell? ⟨w.heap.size, 1, none⟩ = some (.map (some b)) ∧ w'.cell? ⟨g, 0, none⟩ = some (.int .i64 5) ∧ w'.cell? ⟨g, 1, none⟩ = some (.int .i64 lr) ∧ w'.cell? ⟨g, 2, none⟩ = some (.int .i64 low) ∧ w'.cell? ⟨g, 3, none⟩ = some (.int .i64 high) ∧ w'.cell? ⟨g, 4, none⟩ = some (.pointer pl) ∧ w'.cell? ⟨g, 5, none⟩ = some (.pointer pr))) (by kernel_rfl) (HKC.out _ BM.out.drew BN.out.drew) (fun hHeld => ?_)
  have W0 : Within b (b + 1) w y.drew := Within.of_since al.drew
  have BMd := Lib.hid BM.out.drew
  have BNd := Lib.hid BN.out.drew
  have HMd := Lib.hid (HM0.out.since (Since.refl y).drew)

  refine take_yes 0 (some 56) (v := ?_) rfl (by kernel_rfl) (by kernel_rfl) (by kernel_rfl) (by kernel_rfl) (fun _ _ _ h => h) (by rfl) (by assumption) ?_ ?_
  rotate_left
  · (intro w' hSw; (try dsimp only at hSw); go_simp; try with_reducible rfl)
  try simp only [Act.put, List.setIfInBounds_toArray, List.set_cons_zero, List.set_cons_succ]
  refine take_yes 1 (some 57) (v := ?_) rfl (by kernel_rfl) (by kernel_rfl) (by kernel_rfl) (by kernel_rfl) (fun _ _ _ h => h) (by rfl) (by assumption) ?_ ?_
  rotate_left
  · (intro w' hSw; (try dsimp only at hSw); go_simp; try with_reducible rfl)
  try simp only [Act.put, List.setIfInBounds_toArray, List.set_cons_zero, List.set_cons_succ]
  refine take_yes 2 (some 58) (v := ?_) rfl (by kernel_rfl) (by kernel_rfl) (by kernel_rfl) (by kernel_rfl) (fun _ _ _ h => h) (by rfl) (by assumption) ?_ ?_
  rotate_left
  · (intro w' hSw; (try dsimp only at hSw); go_simp; try with_reducible rfl)
  try simp only [Act.put, List.setIfInBounds_toArray, List.set_cons_zero, List.set_cons_succ]
  refine take_yes 3 (some 59) (v := ?_) rfl (by kernel_rfl) (by kernel_rfl) (by kernel_rfl) (by kernel_rfl) (fun _ _ _ h => h) (by rfl) (by assumption) ?_ ?_
  rotate_left
  · (intro w' hSw; (try dsimp only at hSw); go_simp; try with_reducible rfl)
  try simp only [Act.put, List.setIfInBounds_toArray, List.set_cons_zero, List.set_cons_succ]
  refine take_yes 4 (some 60) (v := ?_) rfl (by kernel_rfl) (by kernel_rfl) (by kernel_rfl) (by kernel_rfl) (fun _ _ _ h => h) (by rfl) (by assumption) ?_ ?_
  rotate_left
  · (intro w' hSw; (try dsimp only at hSw); go_simp; try with_reducible rfl)
  try simp only [Act.put, List.setIfInBounds_toArray, List.set_cons_zero, List.set_cons_succ]
  refine take_yes 5 (some 61) (v := ?_) rfl (by kernel_rfl) (by kernel_rfl) (by kernel_rfl) (by kernel_rfl) (fun _ _ _ h => h) (by rfl) (by assumption) ?_ ?_
  rotate_left
  · (intro w' hSw; (try dsimp only at hSw); go_simp; try with_reducible rfl)
  try simp only [Act.put, List.setIfInBounds_toArray, List.set_cons_zero, List.set_cons_succ]
  refine take_yes 7 (some 63) (v := ?_) rfl (by kernel_rfl) (by kernel_rfl) (by kernel_rfl) (by kernel_rfl) (fun _ _ _ h => h) (by rfl) (by assumption) ?_ ?_
  rotate_left
  · (intro w' hSw; (try dsimp only at hSw); go_simp; try with_reducible rfl)
  try simp only [Act.put, List.setIfInBounds_toArray, List.set_cons_zero, List.set_cons_succ]
  refine take_yes 8 (some 64) (v := ?_) rfl (by kernel_rfl) (by kernel_rfl) (by kernel_rfl) (by kernel_rfl) (fun _ _ _ h => h) (by rfl) (by assumption) ?_ ?_
  rotate_left
  · (intro w' hSw; (try dsimp only at hSw); go_simp; try with_reducible rfl)
  try simp only [Act.put, List.setIfInBounds_toArray, List.set_cons_zero, List.set_cons_succ]
  refine take_yes 9 (some 65) (v := ?_) rfl (by kernel_rfl) (by kernel_rfl) (by kernel_rfl) (by kernel_rfl) (fun _ _ _ h => h) (by rfl) (by assumption) ?_ ?_
  rotate_left
  · (intro w' hSw; (try dsimp only at hSw); go_simp; try with_reducible rfl)
  try simp only [Act.put, List.setIfInBounds_toArray, List.set_cons_zero, List.set_cons_succ]
  refine take_yes 10 (some 66) (v := ?_) rfl (by kernel_rfl) (by kernel_rfl) (by kernel_rfl) (by kernel_rfl) (fun _ _ _ h => h) (by rfl) (by assumption) ?_ ?_
  rotate_left
  · (intro w' hSw; (try dsimp only at hSw); go_simp; try with_reducible rfl)
  try simp only [Act.put, List.setIfInBounds_toArray, List.set_cons_zero, List.set_cons_succ]
  refine take_yes 11 (some 67) (v := ?_) rfl (by kernel_rfl) (by kernel_rfl) (by kernel_rfl) (by kernel_rfl) (fun _ _ _ h => h) (by rfl) (by assumption) ?_ ?_
  rotate_left
  · (intro w' hSw; (try dsimp only at hSw); go_simp; try with_reducible rfl)
  try simp only [Act.put, List.setIfInBounds_toArray, List.set_cons_zero, List.set_cons_succ]
  refine take_yes 12 (some 68) (v := ?_) rfl (by kernel_rfl) (by kernel_rfl) (by kernel_rfl) (by kernel_rfl) (fun _ _ _ h => h) (by rfl) (by assumption) ?_ ?_
  rotate_left
  · (intro w' hSw; (try dsimp only at hSw); go_simp; try with_reducible rfl)
  try simp only [Act.put, List.setIfInBounds_toArray, List.set_cons_zero, List.set_cons_succ]
  refine take_run 6 rfl (by kernel_rfl) (by rfl) (fun K hK => ?_)
  go_simp
  refine (HfL b lo hi a bb _ _ i _ hlo (by omega) (by omega) hhb (HL.out.within W0 (by omega)) HMd.out (HWD.out.within W0) hiW2).mono ?_
  rintro en q_17 ⟨rfl, hm_19, hw_18⟩
  have M_20 := Lib.hid hm_19
  have W_21 := W0.trans hw_18
  have B_22 := Lib.hid (BMd.out.within hw_18 (by omega))
  have N_23 := Lib.hid (BNd.out.within hw_18 (by omega))
  clear hm_19 hw_18
  refine hK.out _ _ (HKC.out _ B_22.out N_23.out) (fun hHeld_24 => ?_)
  clear hK K hHeld
  try simp only [Act.put, List.setIfInBounds_toArray, List.set_cons_zero, List.set_cons_succ]
  refine take_run 13 rfl (by kernel_rfl) (by rfl) (fun K hK => ?_)
  go_simp
  refine (HfR b lo hi c d _ _ i _ hro (by omega) (by omega) hhb (HR.out.within W_21 (by omega)) M_20.out (HWD.out.within W_21) hiW2).mono ?_
  rintro en q_25 ⟨rfl, hm_27, hw_26⟩
  have M_28 := Lib.hid hm_27
  have W_29 := W_21.trans hw_26
  have B_30 := Lib.hid (B_22.out.within hw_26 (by omega))
  have N_31 := Lib.hid (N_23.out.within hw_26 (by omega))
  clear hm_27 hw_26
  refine hK.out _ _ (HKC.out _ B_30.out N_31.out) (fun hHeld_32 => ?_)
  clear hK K hHeld_24
  try simp only [Act.put, List.setIfInBounds_toArray, List.set_cons_zero, List.set_cons_succ]
  refine take_yes 14 (some 70) (v := ?_) rfl (by kernel_rfl) (by kernel_rfl) (by kernel_rfl) (by kernel_rfl) (fun _ _ _ h => h) (by rfl) (by assumption) ?_ ?_
  rotate_left
  · (intro w' hSw; (try dsimp only at hSw); go_simp; try with_reducible rfl)
  try simp only [Act.put, List.setIfInBounds_toArray, List.set_cons_zero, List.set_cons_succ]
  refine take_yes 15 (some 6) (v := ?_) rfl (by kernel_rfl) (by kernel_rfl) (by kernel_rfl) (by kernel_rfl) (fun _ _ _ h => h) (by rfl) (by assumption) ?_ ?_
  rotate_left
  · (intro w' hSw; (try dsimp only at hSw); go_simp; try with_reducible rfl)
  try simp only [Act.put, List.setIfInBounds_toArray, List.set_cons_zero, List.set_cons_succ]
  refine wpAnyH_done (by kernel_rfl) ?_ _
  clear hHeld_32 HKC
  go_wp2
  go_ret
  exact ⟨ret_int (by rw [HV.out]; exact HOR.out), M_28.out, W_29⟩
set_option maxHeartbeats 4000000 in
set_option maxRecDepth 100000 in
theorem find_star (W : List Int) (lr low high : Int) (l r : Tr) (hW : W.length ≤ 8) (HrL : RepC W l) : FindC W (.node ⟨6, lr, low, high⟩ l r) := by
  intro b lo hi a0 b0 wv v i w hok ha hb hhb ht hm hw hiW
  obtain ⟨htok, hcase⟩ := hok
  have HWD := Lib.hid hw
  have HM := Lib.hid hm
  have hbw := hm.lt
  obtain ⟨htin, g, lv, rv, a, bb, c, d, rfl, hg, hB, hab, _, _, _, hL, hR⟩ := ht
  have HL := Lib.hid hL
  have HR := Lib.hid hR
  obtain ⟨pl, rfl⟩ := hL.isPtr
  obtain ⟨pr, rfl⟩ := hR.isPtr
  have BX := Lib.hid hB
  rw [opN_of] at hcase
  unfold ncells at BX
  dsimp only at BX
  obtain ⟨wo, wc, rfl, HWC⟩ := hw
  obtain ⟨n, hn⟩ : ∃ n, n = W.length := ⟨_, rfl⟩
  rw [← hn] at HWD hW hiW ⊢
  have HN := Lib.hid hn
  have hgb : g < b := by omega
  clear hn hL hR hm htin
  obtain ⟨y, hy⟩ : ∃ y, y = w.alloc (.cells #[.slice wo n wc, .map (some b)] 109) := ⟨_, rfl⟩
  have al : Since w y := by rw [hy]; exact (Since.refl w).alloc _
  have BM : Hid (Blk y w.heap.size 109 #[.slice wo n wc, .map (some b)]) := by rw [hy]; exact Blk.new rfl _ _
  have BN := Lib.hid (BX.out.since al)
  have HM0 := Lib.hid (HM.out.since al)
  have HY := Lib.hid hy
  have hi0 : (0 : Int) ≤ (i : Int) := by omega
  obtain ⟨⟨x0, x1, x2, x3, x4, x5⟩, _⟩ := BN.out.all6
  rw [hy] at x0 x1 x2 x3 x4 x5
  obtain ⟨m0, m1, _, _⟩ := BM.out.two
  rw [hy] at m0 m1
  clear hy hB
  obtain ⟨hlo, rfl⟩ : l.ok ∧ r = .nil := by
    rcases hcase with ⟨h0, _⟩ | ⟨_, a, b⟩ | ⟨h2, _⟩
    · simp at h0
    · exact ⟨a, b⟩
    · simp at h2
  clear hcase
  have hWl : W.length ≤ 8 := by rw [← HN.out]; exact hW
  have hiW2 : i ≤ W.length := by rw [← HN.out]; exact hiW
  have HV : Hid (endT W (Tr.node ⟨6, lr, low, high⟩ l .nil) i = setE (endT W l) W.length 0 i (n + 1)) := by unfold Hid; rw [HN.out]; simp [endT]
  go_enter Tryd.func118, Tryd.ntmps118
  go_upto_region 12 with fail
  rw [← HY.out]
  clear x0 x1 x2 x3 x4 x5 m0 m1
  have HKC : Hid (∀ w', Blk w' w.heap.size 109 #[.slice wo n wc, .map (some b)] → Blk w' g 103 #[.int .i64 6, .int .i64 lr, .int .i64 low, .int .i64 high, .pointer pl, .pointer pr] → w'.cell? ⟨w.heap.size, 0, none⟩ = some (.slice wo n wc) ∧ w'.cell? ⟨w.heap.size, 1, none⟩ = some (.map (some b)) ∧ w'.cell? ⟨g, 0, none⟩ = some (.int .i64 6) ∧ w'.cell? ⟨g, 1, none⟩ = some (.int .i64 lr) ∧ w'.cell? ⟨g, 2, none⟩ = some (.int .i64 low) ∧ w'.cell? ⟨g, 3, none⟩ = some (.int .i64 high) ∧ w'.cell? ⟨g, 4, none⟩ = some (.pointer pl) ∧ w'.cell? ⟨g, 5, none⟩ = some (.pointer pr)) := by
    intro w' hb0 hb1
    obtain ⟨r0, r1, _, _⟩ := hb0.two
    obtain ⟨⟨n0, n1, n2, n3, n4, n5⟩, _⟩ := hb1.all6
    exact ⟨r0, r1, n0, n1, n2, n3, n4, n5⟩
  refine wp_region_held_drew (S := (fun w' => w'.cell? ⟨w.heap.size, 0, none⟩ = some (.slice wo n wc) ∧ w'.cell? ⟨w.heap.size, 1, none⟩ = some (.map (some b)) ∧ w'.cell? ⟨g, 0, none⟩ = some (.int .i64 6) ∧ w'.cell? ⟨g, 1, none⟩ = some (.int .i64 lr) ∧ w'.cell? ⟨g, 2, none⟩ = some (.int .i64 low) ∧ w'.cell? ⟨g, 3, none⟩ = some (.int .i64 high) ∧ w'.cell? ⟨g, 4, none⟩ = some (.pointer pl) ∧ w'.cell? ⟨g, 5, none⟩ = some (.pointer pr))) (by kernel_rfl) (HKC.out _ BM.out.drew BN.out.drew) (fun hHeld => ?_)
  have W0 : Within b (b + 1) w y.drew := Within.of_since al.drew
  have BMd := Lib.hid BM.out.drew
  have BNd := Lib.hid BN.out.drew
  have HMd := Lib.hid (HM0.out.since (Since.refl y).drew)

  refine take_yes 0 (some 73) (v := ?_) rfl (by kernel_rfl) (by kernel_rfl) (by kernel_rfl) (by kernel_rfl) (fun _ _ _ h => h) (by rfl) (by assumption) ?_ ?_
  rotate_left
  · (intro w' hSw; (try dsimp only at hSw); go_simp; try with_reducible rfl)
  try simp only [Act.put, List.setIfInBounds_toArray, List.set_cons_zero, List.set_cons_succ]
  refine take_yes 1 (some 74) (v := ?_) rfl (by kernel_rfl) (by kernel_rfl) (by kernel_rfl) (by kernel_rfl) (fun _ _ _ h => h) (by rfl) (by assumption) ?_ ?_
  rotate_left
  · (intro w' hSw; (try dsimp only at hSw); go_simp; try with_reducible rfl)
  try simp only [Act.put, List.setIfInBounds_toArray, List.set_cons_zero, List.set_cons_succ]
  refine take_yes 2 (some 75) (v := ?_) rfl (by kernel_rfl) (by kernel_rfl) (by kernel_rfl) (by kernel_rfl) (fun _ _ _ h => h) (by rfl) (by assumption) ?_ ?_
  rotate_left
  · (intro w' hSw; (try dsimp only at hSw); go_simp; try with_reducible rfl)
  try simp only [Act.put, List.setIfInBounds_toArray, List.set_cons_zero, List.set_cons_succ]
  refine take_yes 3 (some 76) (v := ?_) rfl (by kernel_rfl) (by kernel_rfl) (by kernel_rfl) (by kernel_rfl) (fun _ _ _ h => h) (by rfl) (by assumption) ?_ ?_
  rotate_left
  · (intro w' hSw; (try dsimp only at hSw); go_simp; try with_reducible rfl)
  try simp only [Act.put, List.setIfInBounds_toArray, List.set_cons_zero, List.set_cons_succ]
  refine take_yes 4 (some 77) (v := ?_) rfl (by kernel_rfl) (by kernel_rfl) (by kernel_rfl) (by kernel_rfl) (fun _ _ _ h => h) (by rfl) (by assumption) ?_ ?_
  rotate_left
  · (intro w' hSw; (try dsimp only at hSw); go_simp; try with_reducible rfl)
  try simp only [Act.put, List.setIfInBounds_toArray, List.set_cons_zero, List.set_cons_succ]
  refine take_yes 5 (some 78) (v := ?_) rfl (by kernel_rfl) (by kernel_rfl) (by kernel_rfl) (by kernel_rfl) (fun _ _ _ h => h) (by rfl) (by assumption) ?_ ?_
  rotate_left
  · (intro w' hSw; (try dsimp only at hSw); go_simp; try with_reducible rfl)
  try simp only [Act.put, List.setIfInBounds_toArray, List.set_cons_zero, List.set_cons_succ]
  refine take_yes 6 (some 79) (v := ?_) rfl (by kernel_rfl) (by kernel_rfl) (by kernel_rfl) (by kernel_rfl) (fun _ _ _ h => h) (by rfl) (by assumption) ?_ ?_
  rotate_left
  · (intro w' hSw; (try dsimp only at hSw); go_simp; try with_reducible rfl)
  try simp only [Act.put, List.setIfInBounds_toArray, List.set_cons_zero, List.set_cons_succ]
  refine take_yes 7 (some 80) (v := ?_) rfl (by kernel_rfl) (by kernel_rfl) (by kernel_rfl) (by kernel_rfl) (fun _ _ _ h => h) (by rfl) (by assumption) ?_ ?_
  rotate_left
  · (intro w' hSw; (try dsimp only at hSw); go_simp; try with_reducible rfl)
  try simp only [Act.put, List.setIfInBounds_toArray, List.set_cons_zero, List.set_cons_succ]
  refine take_yes 8 (some 81) (v := ?_) rfl (by kernel_rfl) (by kernel_rfl) (by kernel_rfl) (by kernel_rfl) (fun _ _ _ h => h) (by rfl) (by assumption) ?_ ?_
  rotate_left
  · (intro w' hSw; (try dsimp only at hSw); go_simp; try with_reducible rfl)
  try simp only [Act.put, List.setIfInBounds_toArray, List.set_cons_zero, List.set_cons_succ]
  refine take_run 9 rfl (by kernel_rfl) (by rfl) (fun K hK => ?_)
  go_simp
  refine (HrL b lo hi a bb _ _ i 0 n _ hlo (by omega) (by omega) hhb (HL.out.within W0 (by omega)) HMd.out (HWD.out.within W0) hiW2 (by omega) (by omega)).mono ?_
  rintro en q_33 ⟨rfl, hm_35, hw_34⟩
  have M_36 := Lib.hid hm_35
  have W_37 := W0.trans hw_34
  have B_38 := Lib.hid (BMd.out.within hw_34 (by omega))
  have N_39 := Lib.hid (BNd.out.within hw_34 (by omega))
  clear hm_35 hw_34
  refine hK.out _ _ (HKC.out _ B_38.out N_39.out) (fun hHeld_40 => ?_)
  clear hK K hHeld
  try simp only [Act.put, List.setIfInBounds_toArray, List.set_cons_zero, List.set_cons_succ]
  refine take_yes 10 (some 6) (v := ?_) rfl (by kernel_rfl) (by kernel_rfl) (by kernel_rfl) (by kernel_rfl) (fun _ _ _ h => h) (by rfl) (by assumption) ?_ ?_
  rotate_left
  · (intro w' hSw; (try dsimp only at hSw); go_simp; try with_reducible rfl)
  try simp only [Act.put, List.setIfInBounds_toArray, List.set_cons_zero, List.set_cons_succ]
  refine wpAnyH_done (by kernel_rfl) ?_ _
  clear hHeld_40 HKC
  go_wp2
  go_ret
  exact ⟨ret_int (by first | rw [HV.out] | (rw [HV.out]; rfl)), M_36.out, W_37⟩
set_option maxHeartbeats 4000000 in
set_option maxRecDepth 100000 in
theorem find_rep (W : List Int) (lr low high : Int) (l r : Tr) (hW : W.length ≤ 8) (HrL : RepC W l) : FindC W (.node ⟨7, lr, low, high⟩ l r) := by
  intro b lo hi a0 b0 wv v i w hok ha hb hhb ht hm hw hiW
  obtain ⟨htok, hcase⟩ := hok
  have HWD := Lib.hid hw
  have HM := Lib.hid hm
  have hbw := hm.lt
  obtain ⟨htin, g, lv, rv, a, bb, c, d, rfl, hg, hB, hab, _, _, _, hL, hR⟩ := ht
  have HL := Lib.hid hL
  have HR := Lib.hid hR
  obtain ⟨pl, rfl⟩ := hL.isPtr
  obtain ⟨pr, rfl⟩ := hR.isPtr
  have BX := Lib.hid hB
  rw [opN_of] at hcase
  unfold ncells at BX
  dsimp only at BX
  obtain ⟨wo, wc, rfl, HWC⟩ := hw
  obtain ⟨n, hn⟩ : ∃ n, n = W.length := ⟨_, rfl⟩
  rw [← hn] at HWD hW hiW ⊢
  have HN := Lib.hid hn
  have hgb : g < b := by omega
  clear hn hL hR hm htin
  obtain ⟨y, hy⟩ : ∃ y, y = w.alloc (.cells #[.slice wo n wc, .map (some b)] 109) := ⟨_, rfl⟩
  have al : Since w y := by rw [hy]; exact (Since.refl w).alloc _
  have BM : Hid (Blk y w.heap.size 109 #[.slice wo n wc, .map (some b)]) := by rw [hy]; exact Blk.new rfl _ _
  have BN := Lib.hid (BX.out.since al)
  have HM0 := Lib.hid (HM.out.since al)
  have HY := Lib.hid hy
  have hi0 : (0 : Int) ≤ (i : Int) := by omega
  obtain ⟨⟨x0, x1, x2, x3, x4, x5⟩, _⟩ := BN.out.all6
  rw [hy] at x0 x1 x2 x3 x4 x5
  obtain ⟨m0, m1, _, _⟩ := BM.out.two
  rw [hy] at m0 m1
  clear hy hB
  obtain ⟨hlo, rfl⟩ : l.ok ∧ r = .nil := by
    rcases hcase with ⟨h0, _⟩ | ⟨_, a, b⟩ | ⟨h2, _⟩
    · simp at h0
    · exact ⟨a, b⟩
    · simp at h2
  clear hcase
  have hWl : W.length ≤ 8 := by rw [← HN.out]; exact hW
  have hiW2 : i ≤ W.length := by rw [← HN.out]; exact hiW
  obtain ⟨k0, k1, k2, k3⟩ := okT_repD htok rfl
  dsimp only at k0 k1 k2 k3
  have HV : Hid (endT W (Tr.node ⟨7, lr, low, high⟩ l .nil) i = setE (endT W l) W.length low.toNat i (high.toNat + 1)) := by unfold Hid; simp [endT]
  obtain ⟨ln, rfl⟩ : ∃ ln : Nat, low = (ln : Int) := ⟨low.toNat, by omega⟩
  obtain ⟨hn, rfl⟩ : ∃ hn : Nat, high = (hn : Int) := ⟨high.toNat, by omega⟩
  simp only [Int.toNat_natCast] at HV
  go_enter Tryd.func118, Tryd.ntmps118
  go_upto_region 14 with fail
  rw [← HY.out]
  clear x0 x1 x2 x3 x4 x5 m0 m1
  have HKC : Hid (∀ w', Blk w' w.heap.size 109 #[.slice wo n wc, .map (some b)] → Blk w' g 103 #[.int .i64 7, .int .i64 lr, .int .i64 (ln : Int), .int .i64 (hn : Int), .pointer pl, .pointer pr] → w'.cell? ⟨w.heap.size, 0, none⟩ = some (.slice wo n wc) ∧ w'.cell? ⟨w.heap.size, 1, none⟩ = some (.map (some b)) ∧ w'.cell? ⟨g, 0, none⟩ = some (.int .i64 7) ∧ w'.cell? ⟨g, 1, none⟩ = some (.int .i64 lr) ∧ w'.cell? ⟨g, 2, none⟩ = some (.int .i64 (ln : Int)) ∧ w'.cell? ⟨g, 3, none⟩ = some (.int .i64 (hn : Int)) ∧ w'.cell? ⟨g, 4, none⟩ = some (.pointer pl) ∧ w'.cell? ⟨g, 5, none⟩ = some (.pointer pr)) := by
    intro w' hb0 hb1
    obtain ⟨r0, r1, _, _⟩ := hb0.two
    obtain ⟨⟨n0, n1, n2, n3, n4, n5⟩, _⟩ := hb1.all6
    exact ⟨r0, r1, n0, n1, n2, n3, n4, n5⟩
  refine wp_region_held_drew (S := (fun w' => w'.cell? ⟨w.heap.size, 0, none⟩ = some (.slice wo n wc) ∧ w'.cell? ⟨w.heap.size, 1, none⟩ = some (.map (some b)) ∧ w'.cell? ⟨g, 0, none⟩ = some (.int .i64 7) ∧ w'.cell? ⟨g, 1, none⟩ = some (.int .i64 lr) ∧ w'.cell? ⟨g, 2, none⟩ = some (.int .i64 (ln : Int)) ∧ w'.cell? ⟨g, 3, none⟩ = some (.int .i64 (hn : Int)) ∧ w'.cell? ⟨g, 4, none⟩ = some (.pointer pl) ∧ w'.cell? ⟨g, 5, none⟩ = some (.pointer pr))) (by kernel_rfl) (HKC.out _ BM.out.drew BN.out.drew) (fun hHeld => ?_)
  have W0 : Within b (b + 1) w y.drew := Within.of_since al.drew
  have BMd := Lib.hid BM.out.drew
  have BNd := Lib.hid BN.out.drew
  have HMd := Lib.hid (HM0.out.since (Since.refl y).drew)

  refine take_yes 0 (some 85) (v := ?_) rfl (by kernel_rfl) (by kernel_rfl) (by kernel_rfl) (by kernel_rfl) (fun _ _ _ h => h) (by rfl) (by assumption) ?_ ?_
  rotate_left
  · (intro w' hSw; (try dsimp only at hSw); go_simp; try with_reducible rfl)
  try simp only [Act.put, List.setIfInBounds_toArray, List.set_cons_zero, List.set_cons_succ]
  refine take_yes 1 (some 86) (v := ?_) rfl (by kernel_rfl) (by kernel_rfl) (by kernel_rfl) (by kernel_rfl) (fun _ _ _ h => h) (by rfl) (by assumption) ?_ ?_
  rotate_left
  · (intro w' hSw; (try dsimp only at hSw); go_simp; try with_reducible rfl)
  try simp only [Act.put, List.setIfInBounds_toArray, List.set_cons_zero, List.set_cons_succ]
  refine take_yes 2 (some 87) (v := ?_) rfl (by kernel_rfl) (by kernel_rfl) (by kernel_rfl) (by kernel_rfl) (fun _ _ _ h => h) (by rfl) (by assumption) ?_ ?_
  rotate_left
  · (intro w' hSw; (try dsimp only at hSw); go_simp; try with_reducible rfl)
  try simp only [Act.put, List.setIfInBounds_toArray, List.set_cons_zero, List.set_cons_succ]
  refine take_yes 3 (some 88) (v := ?_) rfl (by kernel_rfl) (by kernel_rfl) (by kernel_rfl) (by kernel_rfl) (fun _ _ _ h => h) (by rfl) (by assumption) ?_ ?_
  rotate_left
  · (intro w' hSw; (try dsimp only at hSw); go_simp; try with_reducible rfl)
  try simp only [Act.put, List.setIfInBounds_toArray, List.set_cons_zero, List.set_cons_succ]
  refine take_yes 4 (some 89) (v := ?_) rfl (by kernel_rfl) (by kernel_rfl) (by kernel_rfl) (by kernel_rfl) (fun _ _ _ h => h) (by rfl) (by assumption) ?_ ?_
  rotate_left
  · (intro w' hSw; (try dsimp only at hSw); go_simp; try with_reducible rfl)
  try simp only [Act.put, List.setIfInBounds_toArray, List.set_cons_zero, List.set_cons_succ]
  refine take_yes 5 (some 90) (v := ?_) rfl (by kernel_rfl) (by kernel_rfl) (by kernel_rfl) (by kernel_rfl) (fun _ _ _ h => h) (by rfl) (by assumption) ?_ ?_
  rotate_left
  · (intro w' hSw; (try dsimp only at hSw); go_simp; try with_reducible rfl)
  try simp only [Act.put, List.setIfInBounds_toArray, List.set_cons_zero, List.set_cons_succ]
  refine take_yes 6 (some 91) (v := ?_) rfl (by kernel_rfl) (by kernel_rfl) (by kernel_rfl) (by kernel_rfl) (fun _ _ _ h => h) (by rfl) (by assumption) ?_ ?_
  rotate_left
  · (intro w' hSw; (try dsimp only at hSw); go_simp; try with_reducible rfl)
  try simp only [Act.put, List.setIfInBounds_toArray, List.set_cons_zero, List.set_cons_succ]
  refine take_yes 7 (some 92) (v := ?_) rfl (by kernel_rfl) (by kernel_rfl) (by kernel_rfl) (by kernel_rfl) (fun _ _ _ h => h) (by rfl) (by assumption) ?_ ?_
  rotate_left
  · (intro w' hSw; (try dsimp only at hSw); go_simp; try with_reducible rfl)
  try simp only [Act.put, List.setIfInBounds_toArray, List.set_cons_zero, List.set_cons_succ]
  refine take_yes 8 (some 93) (v := ?_) rfl (by kernel_rfl) (by kernel_rfl) (by kernel_rfl) (by kernel_rfl) (fun _ _ _ h => h) (by rfl) (by assumption) ?_ ?_
  rotate_left
  · (intro w' hSw; (try dsimp only at hSw); go_simp; try with_reducible rfl)
  try simp only [Act.put, List.setIfInBounds_toArray, List.set_cons_zero, List.set_cons_succ]
  refine take_yes 9 (some 94) (v := ?_) rfl (by kernel_rfl) (by kernel_rfl) (by kernel_rfl) (by kernel_rfl) (fun _ _ _ h => h) (by rfl) (by assumption) ?_ ?_
  rotate_left
  · (intro w' hSw; (try dsimp only at hSw); go_simp; try with_reducible rfl)
  try simp only [Act.put, List.setIfInBounds_toArray, List.set_cons_zero, List.set_cons_succ]
  refine take_yes 10 (some 95) (v := ?_) rfl (by kernel_rfl) (by kernel_rfl) (by kernel_rfl) (by kernel_rfl) (fun _ _ _ h => h) (by rfl) (by assumption) ?_ ?_
  rotate_left
  · (intro w' hSw; (try dsimp only at hSw); go_simp; try with_reducible rfl)
  try simp only [Act.put, List.setIfInBounds_toArray, List.set_cons_zero, List.set_cons_succ]
  refine take_yes 11 (some 96) (v := ?_) rfl (by kernel_rfl) (by kernel_rfl) (by kernel_rfl) (by kernel_rfl) (fun _ _ _ h => h) (by rfl) (by assumption) ?_ ?_
  rotate_left
  · (intro w' hSw; (try dsimp only at hSw); go_simp; try with_reducible rfl)
  try simp only [Act.put, List.setIfInBounds_toArray, List.set_cons_zero, List.set_cons_succ]
  refine take_yes 12 (some 97) (v := ?_) rfl (by kernel_rfl) (by kernel_rfl) (by kernel_rfl) (by kernel_rfl) (fun _ _ _ h => h) (by rfl) (by assumption) ?_ ?_
  rotate_left
  · (intro w' hSw; (try dsimp only at hSw); go_simp; try with_reducible rfl)
  try simp only [Act.put, List.setIfInBounds_toArray, List.set_cons_zero, List.set_cons_succ]
  refine take_yes 13 (some 98) (v := ?_) rfl (by kernel_rfl) (by kernel_rfl) (by kernel_rfl) (by kernel_rfl) (fun _ _ _ h => h) (by rfl) (by assumption) ?_ ?_
  rotate_left
  · (intro w' hSw; (try dsimp only at hSw); go_simp; try with_reducible rfl)
  try simp only [Act.put, List.setIfInBounds_toArray, List.set_cons_zero, List.set_cons_succ]
  refine take_yes 14 (some 99) (v := ?_) rfl (by kernel_rfl) (by kernel_rfl) (by kernel_rfl) (by kernel_rfl) (fun _ _ _ h => h) (by rfl) (by assumption) ?_ ?_
  rotate_left
  · (intro w' hSw; (try dsimp only at hSw); go_simp; try with_reducible rfl)
  try simp only [Act.put, List.setIfInBounds_toArray, List.set_cons_zero, List.set_cons_succ]
  refine take_yes 15 (some 100) (v := ?_) rfl (by kernel_rfl) (by kernel_rfl) (by kernel_rfl) (by kernel_rfl) (fun _ _ _ h => h) (by rfl) (by assumption) ?_ ?_
  rotate_left
  · (intro w' hSw; (try dsimp only at hSw); go_simp; try with_reducible rfl)
  try simp only [Act.put, List.setIfInBounds_toArray, List.set_cons_zero, List.set_cons_succ]
  refine take_run 16 rfl (by kernel_rfl) (by rfl) (fun K hK => ?_)
  go_simp
  refine (HrL b lo hi a bb _ _ i ln hn _ hlo (by omega) (by omega) hhb (HL.out.within W0 (by omega)) HMd.out (HWD.out.within W0) hiW2 (by omega) (by omega)).mono ?_
  rintro en q_41 ⟨rfl, hm_43, hw_42⟩
  have M_44 := Lib.hid hm_43
  have W_45 := W0.trans hw_42
  have B_46 := Lib.hid (BMd.out.within hw_42 (by omega))
  have N_47 := Lib.hid (BNd.out.within hw_42 (by omega))
  clear hm_43 hw_42
  refine hK.out _ _ (HKC.out _ B_46.out N_47.out) (fun hHeld_48 => ?_)
  clear hK K hHeld
  try simp only [Act.put, List.setIfInBounds_toArray, List.set_cons_zero, List.set_cons_succ]
  refine take_yes 17 (some 6) (v := ?_) rfl (by kernel_rfl) (by kernel_rfl) (by kernel_rfl) (by kernel_rfl) (fun _ _ _ h => h) (by rfl) (by assumption) ?_ ?_
  rotate_left
  · (intro w' hSw; (try dsimp only at hSw); go_simp; try with_reducible rfl)
  try simp only [Act.put, List.setIfInBounds_toArray, List.set_cons_zero, List.set_cons_succ]
  refine wpAnyH_done (by kernel_rfl) ?_ _
  clear hHeld_48 HKC
  go_wp2
  go_ret
  exact ⟨ret_int (by first | rw [HV.out] | (rw [HV.out]; rfl)), M_44.out, W_45⟩
/-- All methods of the matcher, for all trees. -/
theorem from_any (W : List Int) (hW : W.length ≤ 8) (T : Tr) : FromC W T := by
  induction T with
  | nil => intro b lo hi a0 b0 wv v i w hok; exact hok.elim
  | node t l r hl hr =>
    refine from_of W _ hW ?_
    intro b lo hi a0 b0 wv v i w hok
    obtain ⟨kd, lr, low, high⟩ := t
    have hk := okT_kd hok.1
    dsimp only at hk
    rcases (by omega : kd = 1 ∨ kd = 2 ∨ kd = 3 ∨ kd = 4 ∨ kd = 5 ∨ kd = 6 ∨ kd = 7) with rfl | rfl | rfl | rfl | rfl | rfl | rfl
    · exact find_none W lr low high l r hW b lo hi a0 b0 wv v i w hok
    · exact find_empty W lr low high l r hW b lo hi a0 b0 wv v i w hok
    · exact find_letter W lr low high l r hW b lo hi a0 b0 wv v i w hok
    · exact find_cat W lr low high l r hW hl (all_of W r hW hr) b lo hi a0 b0 wv v i w hok
    · exact find_uni W lr low high l r hW hl hr b lo hi a0 b0 wv v i w hok
    · exact find_star W lr low high l r hW (rep_of W l hW (all_of W l hW hl)) b lo hi a0 b0 wv v i w hok
    · exact find_rep W lr low high l r hW (rep_of W l hW (all_of W l hW hl)) b lo hi a0 b0 wv v i w hok
end Go.Proofs.YtiojgahjfndmdaaDoor
