/- The machine of pairs of states: what it accepts, and where its letters lead. -/
import Derived.Test.YtcokggjekleabaaLwN
import Derived.Test.YtcokggjekleabaaK1
import Derived.Test.YtcokggjekleabaaAuZ
import Derived.Laws.EntriesVeiled
namespace Go.Proofs.Ytcokggjekleabaa
set_option maxRecDepth 100000
open Go.ChangeShapes Go.WideShapes Go.ChangeAt Go.RowKit Go.Maps
set_option linter.unusedVariables false
set_option linter.unusedSimpArgs false

/-- The box of an automaton that a machine's functions read. -/
def DmB (A : Aut) (BX : Nat) (W : World) : Prop := ∃ ao ac bo bc, Blk W BX 27 #[.int .i64 A.st, .slice ao A.ac.length ac, .slice bo A.nx.length bc] ∧ AutAt W (.agg #[.int .i64 A.st, .slice ao A.ac.length ac, .slice bo A.nx.length bc]) A
theorem DmB.since {A : Aut} {BX : Nat} {W W' : World} (h : DmB A BX W) (k : Since W W') : DmB A BX W' := by
  obtain ⟨ao, ac, bo, bc, h1, h2⟩ := h
  exact ⟨ao, ac, bo, bc, h1.since k, h2.since k⟩
set_option maxHeartbeats 2000000 in
set_option maxRecDepth 100000 in
theorem accD_any (A : Aut) (BX : Nat) (a b : Int) (hqa : InQ A a) (hqb : InQ A b) (w : World) (h : DmB A BX w) :
    Calls Try.prog 99 #[.agg #[.int .i64 a, .int .i64 b], .pointer (some ⟨BX, 0, none⟩)] w fun e w' => e = .returned (.bool (accI A a != accI A b)) ∧ Since w w' := by
  obtain ⟨ao, ac, bo, bc, hbx, haut⟩ := h
  have HBX := Lib.hid hbx
  have HAUT := Lib.hid haut
  have HQa := Lib.hid hqa
  have HQb := Lib.hid hqb
  obtain ⟨n, hn⟩ : ∃ n, n = A.ac.length := ⟨_, rfl⟩
  obtain ⟨nn, hnn⟩ : ∃ n, n = A.nx.length := ⟨_, rfl⟩
  rw [← hn, ← hnn] at HBX HAUT
  clear hn hnn hbx haut
  have HAI : Hid (∀ s W, InQ A s → Since w W → Calls Try.prog 60 #[.agg #[.int .i64 A.st, .slice ao n ac, .slice bo nn bc], .int .i64 s] W fun e w' => e = .returned (.bool (accI A s)) ∧ Since W w') := fun s W h1 h2 => accIn_any _ A s W (HAUT.out.since h2) h1
  clear hqa hqb
  obtain ⟨y, hy⟩ : ∃ y, y = w.alloc (.cells #[.int .i64 a, .int .i64 b] 66) := ⟨_, rfl⟩
  have hs0 : Since w y := by rw [hy]; exact (Since.refl w).alloc _
  have B0 : Hid (Blk y w.heap.size 66 #[.int .i64 a, .int .i64 b]) := by rw [hy]; exact Blk.new rfl _ _
  have HKC : Hid (∀ w', Since y w' → w'.cell? ⟨w.heap.size, 0, none⟩ = some (.int .i64 a) ∧ w'.cell? ⟨w.heap.size, 1, none⟩ = some (.int .i64 b) ∧ w'.cell? ⟨BX, 0, none⟩ = some (.int .i64 A.st) ∧ w'.cell? ⟨BX, 1, none⟩ = some (.slice ao n ac) ∧ w'.cell? ⟨BX, 2, none⟩ = some (.slice bo nn bc)) := by
    intro w' hs
    obtain ⟨r0, r1, _, _⟩ := (B0.out.since hs).two
    obtain ⟨⟨r2, r3, r4⟩, _⟩ := (HBX.out.since (hs0.trans hs)).threeA
    exact ⟨r0, r1, r2, r3, r4⟩
  have HY := Lib.hid hy
  clear hy
  go_enter Try.func99, Try.ntmps99
  go_wp2_with fail
  rw [← HY.out]
  refine wp_region_held_drew (S := (fun w' => w'.cell? ⟨w.heap.size, 0, none⟩ = some (.int .i64 a) ∧ w'.cell? ⟨w.heap.size, 1, none⟩ = some (.int .i64 b) ∧ w'.cell? ⟨BX, 0, none⟩ = some (.int .i64 A.st) ∧ w'.cell? ⟨BX, 1, none⟩ = some (.slice ao n ac) ∧ w'.cell? ⟨BX, 2, none⟩ = some (.slice bo nn bc))) (by kernel_rfl) (HKC.out _ (Since.refl _).drew) (fun hHeld => ?_)
  refine take_yes 0 (some 4) (v := ?_) rfl (by kernel_rfl) (by kernel_rfl) (by kernel_rfl) (by kernel_rfl) (fun _ _ _ h => h) (by rfl) (by assumption) ?_ ?_
  rotate_left
  · (intro w' hSw; (try dsimp only at hSw); go_simp; try with_reducible rfl)
  try simp only [Act.put, List.setIfInBounds_toArray, List.set_cons_zero, List.set_cons_succ]
  refine take_yes 1 (some 5) (v := ?_) rfl (by kernel_rfl) (by kernel_rfl) (by kernel_rfl) (by kernel_rfl) (fun _ _ _ h => h) (by rfl) (by assumption) ?_ ?_
  rotate_left
  · (intro w' hSw; (try dsimp only at hSw); go_simp; try with_reducible rfl)
  try simp only [Act.put, List.setIfInBounds_toArray, List.set_cons_zero, List.set_cons_succ]
  refine take_yes 2 (some 6) (v := ?_) rfl (by kernel_rfl) (by kernel_rfl) (by kernel_rfl) (by kernel_rfl) (fun _ _ _ h => h) (by rfl) (by assumption) ?_ ?_
  rotate_left
  · (intro w' hSw; (try dsimp only at hSw); go_simp; try with_reducible rfl)
  try simp only [Act.put, List.setIfInBounds_toArray, List.set_cons_zero, List.set_cons_succ]
  refine take_yes 4 (some 8) (v := ?_) rfl (by kernel_rfl) (by kernel_rfl) (by kernel_rfl) (by kernel_rfl) (fun _ _ _ h => h) (by rfl) (by assumption) ?_ ?_
  rotate_left
  · (intro w' hSw; (try dsimp only at hSw); go_simp; try with_reducible rfl)
  try simp only [Act.put, List.setIfInBounds_toArray, List.set_cons_zero, List.set_cons_succ]
  refine take_yes 5 (some 9) (v := ?_) rfl (by kernel_rfl) (by kernel_rfl) (by kernel_rfl) (by kernel_rfl) (fun _ _ _ h => h) (by rfl) (by assumption) ?_ ?_
  rotate_left
  · (intro w' hSw; (try dsimp only at hSw); go_simp; try with_reducible rfl)
  try simp only [Act.put, List.setIfInBounds_toArray, List.set_cons_zero, List.set_cons_succ]
  refine take_yes 6 (some 10) (v := ?_) rfl (by kernel_rfl) (by kernel_rfl) (by kernel_rfl) (by kernel_rfl) (fun _ _ _ h => h) (by rfl) (by assumption) ?_ ?_
  rotate_left
  · (intro w' hSw; (try dsimp only at hSw); go_simp; try with_reducible rfl)
  try simp only [Act.put, List.setIfInBounds_toArray, List.set_cons_zero, List.set_cons_succ]
  refine take_run 3 rfl (by kernel_rfl) (by rfl) (fun K hK => ?_)
  go_simp
  refine (HAI.out a _ HQa.out (hs0.trans ((Since.refl y).drew))).mono ?_
  rintro en wq2 ⟨rfl, hq⟩
  have hc3 := ((Since.refl y).drew).trans hq
  refine hK.out _ _ (HKC.out _ hc3) (fun hHeld1 => ?_)
  clear hK K hHeld hq
  try simp only [Act.put, List.setIfInBounds_toArray, List.set_cons_zero, List.set_cons_succ]
  refine take_run 7 rfl (by kernel_rfl) (by rfl) (fun K hK => ?_)
  go_simp
  refine (HAI.out b _ HQb.out (hs0.trans (hc3))).mono ?_
  rintro en wq5 ⟨rfl, hq⟩
  have hc6 := (hc3).trans hq
  refine hK.out _ _ (HKC.out _ hc6) (fun hHeld4 => ?_)
  clear hK K hHeld1 hq
  try simp only [Act.put, List.setIfInBounds_toArray, List.set_cons_zero, List.set_cons_succ]
  refine take_yes 8 (some 12) (v := ?_) rfl (by kernel_rfl) (by kernel_rfl) (by kernel_rfl) (by kernel_rfl) (fun _ _ _ h => h) (by rfl) (by assumption) ?_ ?_
  rotate_left
  · (intro w' hSw; (try dsimp only at hSw); go_simp; try with_reducible rfl)
  try simp only [Act.put, List.setIfInBounds_toArray, List.set_cons_zero, List.set_cons_succ]
  refine take_yes 9 (some 3) (v := ?_) rfl (by kernel_rfl) (by kernel_rfl) (by kernel_rfl) (by kernel_rfl) (fun _ _ _ h => h) (by rfl) (by assumption) ?_ ?_
  rotate_left
  · (intro w' hSw; (try dsimp only at hSw); go_simp; try with_reducible rfl)
  try simp only [Act.put, List.setIfInBounds_toArray, List.set_cons_zero, List.set_cons_succ]
  refine wpAnyH_done (by kernel_rfl) ?_ _
  clear hHeld4
  have hcA := hc6
  go_wp2_with fail
  go_ret
  exact ⟨rfl, hs0.trans hcA⟩
set_option maxHeartbeats 2000000 in
set_option maxRecDepth 100000 in
theorem nextD_any (A : Aut) (BX : Nat) (a b : Int) (k : Nat) (hk : k < 9) (hv : ValidA A) (hqa : InQ A a) (hqb : InQ A b) (w : World) (h : DmB A BX w) :
    Calls Try.prog 100 #[.agg #[.int .i64 a, .int .i64 b], .int .i64 (k : Nat), .pointer (some ⟨BX, 0, none⟩)] w fun e w' => e = .returned (.tuple #[.agg #[.int .i64 (stpQ A a k), .int .i64 (stpQ A b k)], .bool (stpQ A a k != stpQ A b k)]) ∧ Since w w' := by
  obtain ⟨ao, ac, bo, bc, hbx, haut⟩ := h
  have HBX := Lib.hid hbx
  have HAUT := Lib.hid haut
  have HQa := Lib.hid hqa
  have HQb := Lib.hid hqb
  have HV := Lib.hid hv
  obtain ⟨n, hn⟩ : ∃ n, n = A.ac.length := ⟨_, rfl⟩
  obtain ⟨nn, hnn⟩ : ∃ n, n = A.nx.length := ⟨_, rfl⟩
  rw [← hn, ← hnn] at HBX HAUT
  obtain ⟨za, hza⟩ : ∃ z, z = stpQ A a k := ⟨_, rfl⟩
  obtain ⟨zb, hzb⟩ : ∃ z, z = stpQ A b k := ⟨_, rfl⟩
  rw [← hza, ← hzb]
  have HNA : Hid (∀ W, Since w W → Calls Try.prog 101 #[.agg #[.int .i64 A.st, .slice ao n ac, .slice bo nn bc], .int .i64 a, .int .i64 (k : Nat)] W fun e w' => e = .returned (.int .i64 za) ∧ Since W w') := fun W h2 => by rw [hza]; exact implNxt_any _ A a k W (HAUT.out.since h2) HV.out HQa.out hk
  have HNB : Hid (∀ W, Since w W → Calls Try.prog 101 #[.agg #[.int .i64 A.st, .slice ao n ac, .slice bo nn bc], .int .i64 b, .int .i64 (k : Nat)] W fun e w' => e = .returned (.int .i64 zb) ∧ Since W w') := fun W h2 => by rw [hzb]; exact implNxt_any _ A b k W (HAUT.out.since h2) HV.out HQb.out hk
  clear hn hnn hbx haut hza hzb hqa hqb hv
  obtain ⟨y, hy⟩ : ∃ y, y = (w.alloc (.cells #[.int .i64 a, .int .i64 b] 66)).alloc (.cells #[.int .i64 0, .int .i64 0] 66) := ⟨_, rfl⟩
  have hs0 : Since w y := by rw [hy]; exact ((Since.refl w).alloc _).alloc _
  have B0 : Hid (Blk y w.heap.size 66 #[.int .i64 a, .int .i64 b]) := by rw [hy]; exact (Blk.new rfl _ _).alloc _
  have HR : Hid (Blk y (w.heap.size + 1) 66 #[.int .i64 0, .int .i64 0]) := by rw [hy]; exact Blk.new (by simp) _ _
  have HSZ : Hid (y.heap.size = w.heap.size + 2) := by rw [hy]; unfold Hid; simp
  have HKC : Hid (∀ w', Since y w' → w'.cell? ⟨w.heap.size, 0, none⟩ = some (.int .i64 a) ∧ w'.cell? ⟨w.heap.size, 1, none⟩ = some (.int .i64 b) ∧ w'.cell? ⟨BX, 0, none⟩ = some (.int .i64 A.st) ∧ w'.cell? ⟨BX, 1, none⟩ = some (.slice ao n ac) ∧ w'.cell? ⟨BX, 2, none⟩ = some (.slice bo nn bc)) := by
    intro w' hs
    obtain ⟨r0, r1, _, _⟩ := (B0.out.since hs).two
    obtain ⟨⟨r2, r3, r4⟩, _⟩ := (HBX.out.since (hs0.trans hs)).threeA
    exact ⟨r0, r1, r2, r3, r4⟩
  have HY := Lib.hid hy
  clear hy
  go_enter Try.func100, Try.ntmps100
  go_wp2_with fail
  rw [← HY.out]
  refine wp_region_held_drew (S := (fun w' => w'.cell? ⟨w.heap.size, 0, none⟩ = some (.int .i64 a) ∧ w'.cell? ⟨w.heap.size, 1, none⟩ = some (.int .i64 b) ∧ w'.cell? ⟨BX, 0, none⟩ = some (.int .i64 A.st) ∧ w'.cell? ⟨BX, 1, none⟩ = some (.slice ao n ac) ∧ w'.cell? ⟨BX, 2, none⟩ = some (.slice bo nn bc))) (by kernel_rfl) (HKC.out _ (Since.refl _).drew) (fun hHeld => ?_)
  refine take_yes 0 (some 8) (v := ?_) rfl (by kernel_rfl) (by kernel_rfl) (by kernel_rfl) (by kernel_rfl) (fun _ _ _ h => h) (by rfl) (by assumption) ?_ ?_
  rotate_left
  · (intro w' hSw; (try dsimp only at hSw); go_simp; try with_reducible rfl)
  try simp only [Act.put, List.setIfInBounds_toArray, List.set_cons_zero, List.set_cons_succ]
  refine take_yes 1 (some 9) (v := ?_) rfl (by kernel_rfl) (by kernel_rfl) (by kernel_rfl) (by kernel_rfl) (fun _ _ _ h => h) (by rfl) (by assumption) ?_ ?_
  rotate_left
  · (intro w' hSw; (try dsimp only at hSw); go_simp; try with_reducible rfl)
  try simp only [Act.put, List.setIfInBounds_toArray, List.set_cons_zero, List.set_cons_succ]
  refine take_yes 2 (some 10) (v := ?_) rfl (by kernel_rfl) (by kernel_rfl) (by kernel_rfl) (by kernel_rfl) (fun _ _ _ h => h) (by rfl) (by assumption) ?_ ?_
  rotate_left
  · (intro w' hSw; (try dsimp only at hSw); go_simp; try with_reducible rfl)
  try simp only [Act.put, List.setIfInBounds_toArray, List.set_cons_zero, List.set_cons_succ]
  refine take_yes 3 (some 11) (v := ?_) rfl (by kernel_rfl) (by kernel_rfl) (by kernel_rfl) (by kernel_rfl) (fun _ _ _ h => h) (by rfl) (by assumption) ?_ ?_
  rotate_left
  · (intro w' hSw; (try dsimp only at hSw); go_simp; try with_reducible rfl)
  try simp only [Act.put, List.setIfInBounds_toArray, List.set_cons_zero, List.set_cons_succ]
  refine take_yes 5 (some 13) (v := ?_) rfl (by kernel_rfl) (by kernel_rfl) (by kernel_rfl) (by kernel_rfl) (fun _ _ _ h => h) (by rfl) (by assumption) ?_ ?_
  rotate_left
  · (intro w' hSw; (try dsimp only at hSw); go_simp; try with_reducible rfl)
  try simp only [Act.put, List.setIfInBounds_toArray, List.set_cons_zero, List.set_cons_succ]
  refine take_yes 6 (some 14) (v := ?_) rfl (by kernel_rfl) (by kernel_rfl) (by kernel_rfl) (by kernel_rfl) (fun _ _ _ h => h) (by rfl) (by assumption) ?_ ?_
  rotate_left
  · (intro w' hSw; (try dsimp only at hSw); go_simp; try with_reducible rfl)
  try simp only [Act.put, List.setIfInBounds_toArray, List.set_cons_zero, List.set_cons_succ]
  refine take_yes 7 (some 15) (v := ?_) rfl (by kernel_rfl) (by kernel_rfl) (by kernel_rfl) (by kernel_rfl) (fun _ _ _ h => h) (by rfl) (by assumption) ?_ ?_
  rotate_left
  · (intro w' hSw; (try dsimp only at hSw); go_simp; try with_reducible rfl)
  try simp only [Act.put, List.setIfInBounds_toArray, List.set_cons_zero, List.set_cons_succ]
  refine take_yes 8 (some 16) (v := ?_) rfl (by kernel_rfl) (by kernel_rfl) (by kernel_rfl) (by kernel_rfl) (fun _ _ _ h => h) (by rfl) (by assumption) ?_ ?_
  rotate_left
  · (intro w' hSw; (try dsimp only at hSw); go_simp; try with_reducible rfl)
  try simp only [Act.put, List.setIfInBounds_toArray, List.set_cons_zero, List.set_cons_succ]
  refine take_two 4 11 rfl rfl (by kernel_rfl) (by rfl) (by rfl) (fun K hK => ?_) (fun K hK => ?_)
  · skip
    go_simp
    refine (HNA.out _ (hs0.trans ((Since.refl y).drew))).mono ?_
    rintro en wq8 ⟨rfl, hq⟩
    have hc9 := ((Since.refl y).drew).trans hq
    refine hK.out _ _ (HKC.out _ hc9) (fun hHeld7 => ?_)
    clear hK K hHeld hq
    try simp only [Act.put, List.setIfInBounds_toArray, List.set_cons_zero, List.set_cons_succ]
    refine take_two 9 11 rfl rfl (by kernel_rfl) (by rfl) (by rfl) (fun K hK => ?_) (fun K hK => ?_)
    · skip
      go_simp
      refine (HNB.out _ (hs0.trans (hc9))).mono ?_
      rintro en wq11 ⟨rfl, hq⟩
      have hc12 := (hc9).trans hq
      refine hK.out _ _ (HKC.out _ hc12) (fun hHeld10 => ?_)
      clear hK K hHeld7 hq
      try simp only [Act.put, List.setIfInBounds_toArray, List.set_cons_zero, List.set_cons_succ]
      refine take_yes 10 (some 18) (v := ?_) rfl (by kernel_rfl) (by kernel_rfl) (by kernel_rfl) (by kernel_rfl) (fun _ _ _ h => h) (by rfl) (by assumption) ?_ ?_
      rotate_left
      · (intro w' hSw; (try dsimp only at hSw); go_simp; try with_reducible rfl)
      try simp only [Act.put, List.setIfInBounds_toArray, List.set_cons_zero, List.set_cons_succ]
      refine take_run 11 rfl (by kernel_rfl) (by rfl) (fun K hK => ?_)
      go_simp
      have hc14 := Since.alloc (hc12) (.cells #[.int .i64 0, .int .i64 0] 66)
      have BA15 : Hid (Blk (wq11.alloc (.cells #[.int .i64 0, .int .i64 0] 66)) (wq11.heap.size) 66 #[.int .i64 0, .int .i64 0]) := Blk.new (by first | rfl | simp) _ _
      have hA16 : y.heap.size ≤ wq11.heap.size := by have := Since.lt (hc12); first | exact this | (simp at this; exact this)
      refine hK.out _ _ (HKC.out _ hc14) (fun hHeld13 => ?_)
      clear hK K hHeld10
      try simp only [Act.put, List.setIfInBounds_toArray, List.set_cons_zero, List.set_cons_succ]
      refine take_run 12 rfl (by kernel_rfl) (by rfl) (fun K hK => ?_)
      obtain ⟨s0, s1, s2, s3⟩ := (BA15.out).two
      go_simp
      clear s0 s1 s2 s3
      have hcF := Since.alloc (hc12) (.cells #[.int .i64 za, .int .i64 zb] 66)
      have BF : Hid (Blk (wq11.alloc (.cells #[.int .i64 za, .int .i64 zb] 66)) (wq11.heap.size) 66 #[.int .i64 za, .int .i64 zb]) := Blk.new (by first | rfl | simp) _ _
      have hGF : y.heap.size ≤ wq11.heap.size := by have := Since.lt (hc12); first | exact this | (simp at this; exact this)
      refine hK.out _ _ (HKC.out _ hcF) (fun hHeld17 => ?_)
      clear hK K hHeld13
      try simp only [Act.put, List.setIfInBounds_toArray, List.set_cons_zero, List.set_cons_succ]
      refine wpAnyH_done (by kernel_rfl) ?_ _
      clear hHeld17
      have HSF := Lib.hid (hs0.trans hcF)
      have HBXF := Lib.hid (HBX.out.since (hs0.trans hcF))
      have HRF := Lib.hid (HR.out.since hcF)
      have hsz0 := HSZ.out
      have hGr : w.heap.size + 1 ≠ wq11.heap.size := by have := hGF; omega
      obtain ⟨wF, hwF⟩ : ∃ wF, wF = (wq11.alloc (.cells #[.int .i64 za, .int .i64 zb] 66)) := ⟨_, rfl⟩
      obtain ⟨G, hG⟩ : ∃ G, G = wq11.heap.size := ⟨_, rfl⟩
      rw [← hG] at hGF hGr
      rw [← hwF] at hcF BF HSF HBXF HRF
      rw [← hG] at BF
      try rw [← hwF]
      try rw [← hG]
      clear hwF hG
      have HSE := Lib.hid (((Since.refl y).trans hcF))
      obtain ⟨g0, g1, g2, g3⟩ := BF.out.two
      obtain ⟨r0, r1, r2, r3⟩ := HRF.out.two
      go_wp2_with fail
      go_region
      all_goals
        (go_wp2_with fail; refine bodyPost_ret (v := .tuple #[.agg #[.int .i64 za, .int .i64 zb], .bool (za != zb)]) (by simp [results, Try.results100, go_sem, *]) rfl ?_; refine ⟨rfl, ?_⟩; first | exact ((HSF.out.setCell (a := ⟨w.heap.size + 1, 0, none⟩) (by simp) _).setCell (a := ⟨w.heap.size + 1, 1, none⟩) (by simp) _) | exact ((HSF.out.setCell (a := ⟨w.heap.size + 1, 0, none⟩) (by simp) _).setCell (a := ⟨w.heap.size + 1, 1, none⟩) (by simp) _).drewN _ | exact (((HSF.out.drewN _).setCell (a := ⟨w.heap.size + 1, 0, none⟩) (by simp) _).setCell (a := ⟨w.heap.size + 1, 1, none⟩) (by simp) _) | exact (((HSF.out.drew).setCell (a := ⟨w.heap.size + 1, 0, none⟩) (by simp) _).setCell (a := ⟨w.heap.size + 1, 1, none⟩) (by simp) _))
    · skip
      go_simp
      have hc19 := Since.alloc (hc9) (.cells #[.int .i64 0, .int .i64 0] 66)
      have BA20 : Hid (Blk (wq8.alloc (.cells #[.int .i64 0, .int .i64 0] 66)) (wq8.heap.size) 66 #[.int .i64 0, .int .i64 0]) := Blk.new (by first | rfl | simp) _ _
      have hA21 : y.heap.size ≤ wq8.heap.size := by have := Since.lt (hc9); first | exact this | (simp at this; exact this)
      refine hK.out _ _ (HKC.out _ hc19) (fun hHeld18 => ?_)
      clear hK K hHeld7
      try simp only [Act.put, List.setIfInBounds_toArray, List.set_cons_zero, List.set_cons_succ]
      refine take_run 9 rfl (by kernel_rfl) (by rfl) (fun K hK => ?_)
      go_simp
      refine (HNB.out _ (hs0.trans (hc19))).mono ?_
      rintro en wq23 ⟨rfl, hq⟩
      have hc24 := (hc19).trans hq
      have BA25 := Lib.hid ((BA20.out).since hq)
      refine hK.out _ _ (HKC.out _ hc24) (fun hHeld22 => ?_)
      clear hK K hHeld18 hq
      try simp only [Act.put, List.setIfInBounds_toArray, List.set_cons_zero, List.set_cons_succ]
      refine take_yes 10 (some 18) (v := ?_) rfl (by kernel_rfl) (by kernel_rfl) (by kernel_rfl) (by kernel_rfl) (fun _ _ _ h => h) (by rfl) (by assumption) ?_ ?_
      rotate_left
      · (intro w' hSw; (try dsimp only at hSw); go_simp; try with_reducible rfl)
      try simp only [Act.put, List.setIfInBounds_toArray, List.set_cons_zero, List.set_cons_succ]
      refine take_run 12 rfl (by kernel_rfl) (by rfl) (fun K hK => ?_)
      obtain ⟨s0, s1, s2, s3⟩ := (BA25.out).two
      go_simp
      clear s0 s1 s2 s3
      have hcF := (Since.setCell (Since.setCell hc24 (a := ⟨wq8.heap.size, 0, none⟩) hA21 (.int .i64 za)) (a := ⟨wq8.heap.size, 1, none⟩) hA21 (.int .i64 zb))
      have BF := Lib.hid (((BA25.out).set 0 (.int .i64 za)).set 1 (.int .i64 zb))
      have hGF := hA21
      refine hK.out _ _ (HKC.out _ hcF) (fun hHeld26 => ?_)
      clear hK K hHeld22
      try simp only [Act.put, List.setIfInBounds_toArray, List.set_cons_zero, List.set_cons_succ]
      refine wpAnyH_done (by kernel_rfl) ?_ _
      clear hHeld26
      have HSF := Lib.hid (hs0.trans hcF)
      have HBXF := Lib.hid (HBX.out.since (hs0.trans hcF))
      have HRF := Lib.hid (HR.out.since hcF)
      have hsz0 := HSZ.out
      have hGr : w.heap.size + 1 ≠ wq8.heap.size := by have := hGF; omega
      obtain ⟨wF, hwF⟩ : ∃ wF, wF = ((wq23.setCell ⟨wq8.heap.size, 0, none⟩ (.int .i64 za)).setCell ⟨wq8.heap.size, 1, none⟩ (.int .i64 zb)) := ⟨_, rfl⟩
      obtain ⟨G, hG⟩ : ∃ G, G = wq8.heap.size := ⟨_, rfl⟩
      rw [← hG] at hGF hGr
      rw [← hwF] at hcF BF HSF HBXF HRF
      rw [← hG] at BF
      try rw [← hwF]
      try rw [← hG]
      clear hwF hG
      have HSE := Lib.hid (((Since.refl y).trans hcF))
      obtain ⟨g0, g1, g2, g3⟩ := BF.out.two
      obtain ⟨r0, r1, r2, r3⟩ := HRF.out.two
      go_wp2_with fail
      go_region
      all_goals
        (go_wp2_with fail; refine bodyPost_ret (v := .tuple #[.agg #[.int .i64 za, .int .i64 zb], .bool (za != zb)]) (by simp [results, Try.results100, go_sem, *]) rfl ?_; refine ⟨rfl, ?_⟩; first | exact ((HSF.out.setCell (a := ⟨w.heap.size + 1, 0, none⟩) (by simp) _).setCell (a := ⟨w.heap.size + 1, 1, none⟩) (by simp) _) | exact ((HSF.out.setCell (a := ⟨w.heap.size + 1, 0, none⟩) (by simp) _).setCell (a := ⟨w.heap.size + 1, 1, none⟩) (by simp) _).drewN _ | exact (((HSF.out.drewN _).setCell (a := ⟨w.heap.size + 1, 0, none⟩) (by simp) _).setCell (a := ⟨w.heap.size + 1, 1, none⟩) (by simp) _) | exact (((HSF.out.drew).setCell (a := ⟨w.heap.size + 1, 0, none⟩) (by simp) _).setCell (a := ⟨w.heap.size + 1, 1, none⟩) (by simp) _))
  · skip
    go_simp
    have hc28 := Since.alloc ((Since.refl y).drew) (.cells #[.int .i64 0, .int .i64 0] 66)
    have BA29 : Hid (Blk (y.drew.alloc (.cells #[.int .i64 0, .int .i64 0] 66)) (y.heap.size) 66 #[.int .i64 0, .int .i64 0]) := Blk.new (by first | rfl | simp) _ _
    have hA30 : y.heap.size ≤ y.heap.size := by have := Since.lt ((Since.refl y).drew); first | exact this | (simp at this; exact this)
    refine hK.out _ _ (HKC.out _ hc28) (fun hHeld27 => ?_)
    clear hK K hHeld
    try simp only [Act.put, List.setIfInBounds_toArray, List.set_cons_zero, List.set_cons_succ]
    refine take_run 4 rfl (by kernel_rfl) (by rfl) (fun K hK => ?_)
    go_simp
    refine (HNA.out _ (hs0.trans (hc28))).mono ?_
    rintro en wq32 ⟨rfl, hq⟩
    have hc33 := (hc28).trans hq
    have BA34 := Lib.hid ((BA29.out).since hq)
    refine hK.out _ _ (HKC.out _ hc33) (fun hHeld31 => ?_)
    clear hK K hHeld27 hq
    try simp only [Act.put, List.setIfInBounds_toArray, List.set_cons_zero, List.set_cons_succ]
    refine take_run 9 rfl (by kernel_rfl) (by rfl) (fun K hK => ?_)
    go_simp
    refine (HNB.out _ (hs0.trans (hc33))).mono ?_
    rintro en wq36 ⟨rfl, hq⟩
    have hc37 := (hc33).trans hq
    have BA38 := Lib.hid ((BA34.out).since hq)
    refine hK.out _ _ (HKC.out _ hc37) (fun hHeld35 => ?_)
    clear hK K hHeld31 hq
    try simp only [Act.put, List.setIfInBounds_toArray, List.set_cons_zero, List.set_cons_succ]
    refine take_yes 10 (some 18) (v := ?_) rfl (by kernel_rfl) (by kernel_rfl) (by kernel_rfl) (by kernel_rfl) (fun _ _ _ h => h) (by rfl) (by assumption) ?_ ?_
    rotate_left
    · (intro w' hSw; (try dsimp only at hSw); go_simp; try with_reducible rfl)
    try simp only [Act.put, List.setIfInBounds_toArray, List.set_cons_zero, List.set_cons_succ]
    refine take_run 12 rfl (by kernel_rfl) (by rfl) (fun K hK => ?_)
    obtain ⟨s0, s1, s2, s3⟩ := (BA38.out).two
    go_simp
    clear s0 s1 s2 s3
    have hcF := (Since.setCell (Since.setCell hc37 (a := ⟨y.heap.size, 0, none⟩) hA30 (.int .i64 za)) (a := ⟨y.heap.size, 1, none⟩) hA30 (.int .i64 zb))
    have BF := Lib.hid (((BA38.out).set 0 (.int .i64 za)).set 1 (.int .i64 zb))
    have hGF := hA30
    refine hK.out _ _ (HKC.out _ hcF) (fun hHeld39 => ?_)
    clear hK K hHeld35
    try simp only [Act.put, List.setIfInBounds_toArray, List.set_cons_zero, List.set_cons_succ]
    refine wpAnyH_done (by kernel_rfl) ?_ _
    clear hHeld39
    have HSF := Lib.hid (hs0.trans hcF)
    have HBXF := Lib.hid (HBX.out.since (hs0.trans hcF))
    have HRF := Lib.hid (HR.out.since hcF)
    have hsz0 := HSZ.out
    have hGr : w.heap.size + 1 ≠ y.heap.size := by have := hGF; omega
    obtain ⟨wF, hwF⟩ : ∃ wF, wF = ((wq36.setCell ⟨y.heap.size, 0, none⟩ (.int .i64 za)).setCell ⟨y.heap.size, 1, none⟩ (.int .i64 zb)) := ⟨_, rfl⟩
    obtain ⟨G, hG⟩ : ∃ G, G = y.heap.size := ⟨_, rfl⟩
    rw [← hG] at hGF hGr
    rw [← hwF] at hcF BF HSF HBXF HRF
    rw [← hG] at BF
    try rw [← hwF]
    try rw [← hG]
    clear hwF hG
    have HSE := Lib.hid (((Since.refl y).trans hcF))
    obtain ⟨g0, g1, g2, g3⟩ := BF.out.two
    obtain ⟨r0, r1, r2, r3⟩ := HRF.out.two
    go_wp2_with fail
    go_region
    all_goals
      (go_wp2_with fail; refine bodyPost_ret (v := .tuple #[.agg #[.int .i64 za, .int .i64 zb], .bool (za != zb)]) (by simp [results, Try.results100, go_sem, *]) rfl ?_; refine ⟨rfl, ?_⟩; first | exact ((HSF.out.setCell (a := ⟨w.heap.size + 1, 0, none⟩) (by simp) _).setCell (a := ⟨w.heap.size + 1, 1, none⟩) (by simp) _) | exact ((HSF.out.setCell (a := ⟨w.heap.size + 1, 0, none⟩) (by simp) _).setCell (a := ⟨w.heap.size + 1, 1, none⟩) (by simp) _).drewN _ | exact (((HSF.out.drewN _).setCell (a := ⟨w.heap.size + 1, 0, none⟩) (by simp) _).setCell (a := ⟨w.heap.size + 1, 1, none⟩) (by simp) _) | exact (((HSF.out.drew).setCell (a := ⟨w.heap.size + 1, 0, none⟩) (by simp) _).setCell (a := ⟨w.heap.size + 1, 1, none⟩) (by simp) _))
end Go.Proofs.Ytcokggjekleabaa

