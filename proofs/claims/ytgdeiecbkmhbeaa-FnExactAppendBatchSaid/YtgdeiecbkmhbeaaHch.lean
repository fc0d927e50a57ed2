/- CompactHistory, the model's and the program's. -/
import Derived.Test.YtgdeiecbkmhbeaaHga
import Derived.Test.YtgdeiecbkmhbeaaHvw
import Derived.Test.YtgdeiecbkmhbeaaHro
import Derived.Test.YtgdeiecbkmhbeaaHnh
namespace Go.Proofs.Ytgdeiecbkmhbeaa
set_option maxRecDepth 100000
open Go.ChangeShapes Go.WideShapes Go.ChangeAt Go.RowKit
set_option linter.unusedVariables false
set_option linter.unusedSimpArgs false

theorem cutH_no {x : Hst} {m : Int} (h : hasV x m = false) : cutH x m = x := by unfold cutH; rw [h]; rfl
theorem cutH_yes {x : Hst} {m : Int} {k : Nat} (h : hasV x m = true) (hk : (m - x.f).toNat = k) : cutH x m = ⟨m, x.gs.drop k⟩ := by unfold cutH; rw [if_pos h, hk]
theorem totH_drop (gs : List Grf) (k : Nat) : totH (gs.drop k) ≤ totH gs := by
  have := totH_append (gs.take k) (gs.drop k)
  rw [List.take_append_drop] at this; omega
theorem cutH_len {x : Hst} (h : SmH x) (m : Int) : BgH (cutH x m) := by
  unfold cutH
  split
  · refine ⟨?_, ?_⟩
    · have := h.1; simp; omega
    · have := totH_drop x.gs (m - x.f).toNat; have := h.2; show totH (x.gs.drop _) ≤ _; omega
  · exact h.bg
set_option maxHeartbeats 2000000 in
set_option maxRecDepth 100000 in
theorem specCH_any (v : Value) (x : Hst) (m : Int) (w : World) (h : HstAt w v x) (h1 : SmH x) :
    Calls Try.prog 25 #[v, .int .i64 m] w (HVBOut w (cutH x m) (hasV x m)) := by
  have HX := Lib.hid h
  obtain ⟨b, rfl, hb⟩ := h
  obtain ⟨bo, bc, rfl, _⟩ := hb
  obtain ⟨n, hn⟩ : ∃ n, n = x.gs.length := ⟨_, rfl⟩
  have HN := Lib.hid hn
  rw [← hn] at HX ⊢
  clear hn
  obtain ⟨y, hy⟩ : ∃ y, y = (w.alloc (.cells #[.int .i64 x.f, .slice bo n bc] 26)).alloc (.cells #[.int .i64 0, .slice none 0 0] 26) := ⟨_, rfl⟩
  have hs0 : Since w y := by rw [hy]; exact ((Since.refl w).alloc _).alloc _
  have hz : w.heap.size + 1 + 1 = y.heap.size := by rw [hy]; simp
  have BW : Hid (Blk y w.heap.size 26 #[.int .i64 x.f, .slice bo n bc]) := by rw [hy]; exact (Blk.new rfl _ _).alloc _
  have BR : Hid (Blk y (w.heap.size + 1) 26 #[.int .i64 0, .slice none 0 0]) := by rw [hy]; exact Blk.new (by simp) _ _
  obtain ⟨p0, p1, _, _⟩ := BW.out.two
  rw [hy] at p0 p1
  rcases Bool.eq_false_or_eq_true (validH x) with hvv | hvv
  rotate_left
  · have HVV := Lib.hid hvv
    have hv : hasV x m = false := by unfold hasV; rw [hvv]; rfl
    have HV := Lib.hid hv
    have HR := Lib.hid (cutH_no hv)
    clear hv hvv
    go_enter Try.func25, Try.ntmps25
    go_wp2_with fail
    rw [← hy]
    clear hy p0 p1
    refine (l7Copy_any _ x _ (HX.out.since hs0) h1).mono ?_
    rintro en w1 ⟨v1, rfl, ho1, hs1⟩
    obtain ⟨xb, rfl, HO0⟩ := ho1
    obtain ⟨xo, xc, rfl⟩ := HO0.len
    obtain ⟨y2, hy2⟩ : ∃ y2, y2 = w1.alloc (.cells #[.int .i64 x.f, .slice xo x.gs.length xc] 26) := ⟨_, rfl⟩
    have hs2 : Since w1 y2 := by rw [hy2]; exact (Since.refl w1).alloc _
    have hz2 : w1.heap.size + 1 = y2.heap.size := by rw [hy2]; simp
    have BX : Hid (Blk y2 w1.heap.size 26 #[.int .i64 x.f, .slice xo x.gs.length xc]) := by rw [hy2]; exact Blk.new rfl _ _
    have HO : Hid (OwnR y.heap.size w1.heap.size y2 (.slice xo x.gs.length xc) x.gs) := HO0.since hs2
    have hzw : y.heap.size ≤ w1.heap.size := hs1.size
    have hs12 := hs1.trans hs2
    have hs02 := hs0.trans hs12
    have HKC : Hid (∀ w', Since y2 w' → w'.cell? ⟨w.heap.size, 0, none⟩ = some (.int .i64 x.f) ∧ w'.cell? ⟨w.heap.size, 1, none⟩ = some (.slice bo n bc)) := by
      intro w' hs
      obtain ⟨x0, x1, _, _⟩ := (BW.out.since (hs12.trans hs)).two
      exact ⟨x0, x1⟩
    clear HO0
    go_wp2_with fail
    rw [← hy2]
    clear hy2
    refine wp_region_held_drew (S := (fun w' => w'.cell? ⟨w.heap.size, 0, none⟩ = some (.int .i64 x.f) ∧ w'.cell? ⟨w.heap.size, 1, none⟩ = some (.slice bo n bc))) (by kernel_rfl) (HKC.out _ (Since.refl _).drew) (fun hHeld => ?_)
    refine take_yes 0 (some 9) (v := ?_) rfl (by kernel_rfl) (by kernel_rfl) (by kernel_rfl) (by kernel_rfl) (fun _ _ _ h => h) (by rfl) (by assumption) ?_ ?_
    rotate_left
    · (intro w' hSw; (try dsimp only at hSw); go_simp; try with_reducible rfl)
    try simp only [Act.put, List.setIfInBounds_toArray, List.set_cons_zero, List.set_cons_succ]
    refine take_run 1 rfl (by kernel_rfl) (by rfl) (fun K hK => ?_)
    go_simp
    refine (specVH_any _ x _ (HX.out.since hs02.drew) h1).mono ?_
    rintro en w6 ⟨rfl, hs6⟩
    rw [HVV.out]
    have hc6 := (Since.refl y2).drew.trans hs6
    refine hK.out _ _ (HKC.out _ hc6) (fun hHeld1 => ?_)
    clear hK K hHeld
    try simp only [Act.put, List.setIfInBounds_toArray, List.set_cons_zero, List.set_cons_succ]
    refine take_yes 2 (some 11) (v := ?_) rfl (by kernel_rfl) (by kernel_rfl) (by kernel_rfl) (by kernel_rfl) (fun _ _ _ h => h) (by rfl) (by assumption) ?_ ?_
    rotate_left
    · (intro w' hSw; (try dsimp only at hSw); go_simp; try with_reducible rfl)
    try simp only [Act.put, List.setIfInBounds_toArray, List.set_cons_zero, List.set_cons_succ]
    refine take_yes 3 (some 12) (v := ?_) rfl (by kernel_rfl) (by kernel_rfl) (by kernel_rfl) (by kernel_rfl) (fun _ _ _ h => h) (by rfl) (by assumption) ?_ ?_
    rotate_left
    · (intro w' hSw; (try dsimp only at hSw); go_simp; try with_reducible rfl)
    try simp only [Act.put, List.setIfInBounds_toArray, List.set_cons_zero, List.set_cons_succ]
    refine take_no 4 (some 13) rfl (by kernel_rfl) (by kernel_rfl) (by kernel_rfl) (by kernel_rfl) (fun _ _ _ h => h) (by rfl) (by assumption) ?_
    try simp only [Act.put, List.setIfInBounds_toArray, List.set_cons_zero, List.set_cons_succ]
    refine take_no 5 (some 14) rfl (by kernel_rfl) (by kernel_rfl) (by kernel_rfl) (by kernel_rfl) (fun _ _ _ h => h) (by rfl) (by assumption) ?_
    try simp only [Act.put, List.setIfInBounds_toArray, List.set_cons_zero, List.set_cons_succ]
    refine take_no 6 (some 15) rfl (by kernel_rfl) (by kernel_rfl) (by kernel_rfl) (by kernel_rfl) (fun _ _ _ h => h) (by rfl) (by assumption) ?_
    try simp only [Act.put, List.setIfInBounds_toArray, List.set_cons_zero, List.set_cons_succ]
    refine take_no 7 (some 16) rfl (by kernel_rfl) (by kernel_rfl) (by kernel_rfl) (by kernel_rfl) (fun _ _ _ h => h) (by rfl) (by assumption) ?_
    try simp only [Act.put, List.setIfInBounds_toArray, List.set_cons_zero, List.set_cons_succ]
    refine take_no 8 (some 17) rfl (by kernel_rfl) (by kernel_rfl) (by kernel_rfl) (by kernel_rfl) (fun _ _ _ h => h) (by rfl) (by assumption) ?_
    try simp only [Act.put, List.setIfInBounds_toArray, List.set_cons_zero, List.set_cons_succ]
    refine take_no 9 (some 18) rfl (by kernel_rfl) (by kernel_rfl) (by kernel_rfl) (by kernel_rfl) (fun _ _ _ h => h) (by rfl) (by assumption) ?_
    try simp only [Act.put, List.setIfInBounds_toArray, List.set_cons_zero, List.set_cons_succ]
    refine take_no 10 (some 19) rfl (by kernel_rfl) (by kernel_rfl) (by kernel_rfl) (by kernel_rfl) (fun _ _ _ h => h) (by rfl) (by assumption) ?_
    try simp only [Act.put, List.setIfInBounds_toArray, List.set_cons_zero, List.set_cons_succ]
    refine take_yes 11 (some 20) (v := ?_) rfl (by kernel_rfl) (by kernel_rfl) (by kernel_rfl) (by kernel_rfl) (fun _ _ _ h => h) (by rfl) (by assumption) ?_ ?_
    rotate_left
    · (intro w' hSw; (try dsimp only at hSw); go_simp; try with_reducible rfl)
    try simp only [Act.put, List.setIfInBounds_toArray, List.set_cons_zero, List.set_cons_succ]
    refine wpAnyH_done (by kernel_rfl) ?_ _
    clear hHeld1 HKC
    have hcf := hc6
    obtain ⟨x0, x1, _, _⟩ := (BX.out.since hcf).two
    obtain ⟨r0, r1, r2, r3⟩ := (BR.out.since (hs12.trans hcf)).two
    have HO9 := Lib.hid (HO.out.since hcf)
    have hs09 := hs02.trans hcf
    have hz9 := hcf.size
    go_wp2
    refine bodyPost_ret (v := .tuple #[.agg #[.int .i64 x.f, .slice xo x.gs.length xc], .bool false]) (by simp [results, Try.results25, go_sem, *]) rfl ?_
    rw [HR.out]
    exact hvb_stored HV.out HO9.out.view (.inl (by omega)) (by omega) (by omega) (by omega) hs09 rfl _ _
  have HVV := Lib.hid hvv
  obtain ⟨c, hc⟩ : ∃ c, inB m x.f (latH x) = c := ⟨_, rfl⟩
  have hv : hasV x m = c := by unfold hasV; rw [hvv, hc]; rfl
  have HIC := Lib.hid hc
  clear hc hvv
  cases c
  · have HV := Lib.hid hv
    have HR := Lib.hid (cutH_no hv)
    clear hv
    go_enter Try.func25, Try.ntmps25
    go_wp2_with fail
    rw [← hy]
    clear hy p0 p1
    refine (l7Copy_any _ x _ (HX.out.since hs0) h1).mono ?_
    rintro en w1 ⟨v1, rfl, ho1, hs1⟩
    obtain ⟨xb, rfl, HO0⟩ := ho1
    obtain ⟨xo, xc, rfl⟩ := HO0.len
    obtain ⟨y2, hy2⟩ : ∃ y2, y2 = w1.alloc (.cells #[.int .i64 x.f, .slice xo x.gs.length xc] 26) := ⟨_, rfl⟩
    have hs2 : Since w1 y2 := by rw [hy2]; exact (Since.refl w1).alloc _
    have hz2 : w1.heap.size + 1 = y2.heap.size := by rw [hy2]; simp
    have BX : Hid (Blk y2 w1.heap.size 26 #[.int .i64 x.f, .slice xo x.gs.length xc]) := by rw [hy2]; exact Blk.new rfl _ _
    have HO : Hid (OwnR y.heap.size w1.heap.size y2 (.slice xo x.gs.length xc) x.gs) := HO0.since hs2
    have hzw : y.heap.size ≤ w1.heap.size := hs1.size
    have hs12 := hs1.trans hs2
    have hs02 := hs0.trans hs12
    have HKC : Hid (∀ w', Since y2 w' → w'.cell? ⟨w.heap.size, 0, none⟩ = some (.int .i64 x.f) ∧ w'.cell? ⟨w.heap.size, 1, none⟩ = some (.slice bo n bc)) := by
      intro w' hs
      obtain ⟨x0, x1, _, _⟩ := (BW.out.since (hs12.trans hs)).two
      exact ⟨x0, x1⟩
    clear HO0
    go_wp2_with fail
    rw [← hy2]
    clear hy2
    refine wp_region_held_drew (S := (fun w' => w'.cell? ⟨w.heap.size, 0, none⟩ = some (.int .i64 x.f) ∧ w'.cell? ⟨w.heap.size, 1, none⟩ = some (.slice bo n bc))) (by kernel_rfl) (HKC.out _ (Since.refl _).drew) (fun hHeld => ?_)
    refine take_yes 0 (some 9) (v := ?_) rfl (by kernel_rfl) (by kernel_rfl) (by kernel_rfl) (by kernel_rfl) (fun _ _ _ h => h) (by rfl) (by assumption) ?_ ?_
    rotate_left
    · (intro w' hSw; (try dsimp only at hSw); go_simp; try with_reducible rfl)
    try simp only [Act.put, List.setIfInBounds_toArray, List.set_cons_zero, List.set_cons_succ]
    refine take_run 1 rfl (by kernel_rfl) (by rfl) (fun K hK => ?_)
    go_simp
    refine (specVH_any _ x _ (HX.out.since hs02.drew) h1).mono ?_
    rintro en w6 ⟨rfl, hs6⟩
    rw [HVV.out]
    have hc6 := (Since.refl y2).drew.trans hs6
    refine hK.out _ _ (HKC.out _ hc6) (fun hHeld1 => ?_)
    clear hK K hHeld
    try simp only [Act.put, List.setIfInBounds_toArray, List.set_cons_zero, List.set_cons_succ]
    refine take_yes 2 (some 11) (v := ?_) rfl (by kernel_rfl) (by kernel_rfl) (by kernel_rfl) (by kernel_rfl) (fun _ _ _ h => h) (by rfl) (by assumption) ?_ ?_
    rotate_left
    · (intro w' hSw; (try dsimp only at hSw); go_simp; try with_reducible rfl)
    try simp only [Act.put, List.setIfInBounds_toArray, List.set_cons_zero, List.set_cons_succ]
    refine take_yes 3 (some 12) (v := ?_) rfl (by kernel_rfl) (by kernel_rfl) (by kernel_rfl) (by kernel_rfl) (fun _ _ _ h => h) (by rfl) (by assumption) ?_ ?_
    rotate_left
    · (intro w' hSw; (try dsimp only at hSw); go_simp; try with_reducible rfl)
    try simp only [Act.put, List.setIfInBounds_toArray, List.set_cons_zero, List.set_cons_succ]
    refine take_yes 4 (some 13) (v := ?_) rfl (by kernel_rfl) (by kernel_rfl) (by kernel_rfl) (by kernel_rfl) (fun _ _ _ h => h) (by rfl) (by assumption) ?_ ?_
    rotate_left
    · (intro w' hSw; (try dsimp only at hSw); go_simp; try with_reducible rfl)
    try simp only [Act.put, List.setIfInBounds_toArray, List.set_cons_zero, List.set_cons_succ]
    refine take_yes 5 (some 14) (v := ?_) rfl (by kernel_rfl) (by kernel_rfl) (by kernel_rfl) (by kernel_rfl) (fun _ _ _ h => h) (by rfl) (by assumption) ?_ ?_
    rotate_left
    · (intro w' hSw; (try dsimp only at hSw); go_simp; try with_reducible rfl)
    try simp only [Act.put, List.setIfInBounds_toArray, List.set_cons_zero, List.set_cons_succ]
    refine take_yes 6 (some 15) (v := ?_) rfl (by kernel_rfl) (by kernel_rfl) (by kernel_rfl) (by kernel_rfl) (fun _ _ _ h => h) (by rfl) (by assumption) ?_ ?_
    rotate_left
    · (intro w' hSw; (try dsimp only at hSw); go_simp; try with_reducible rfl)
    try simp only [Act.put, List.setIfInBounds_toArray, List.set_cons_zero, List.set_cons_succ]
    refine take_yes 7 (some 16) (v := ?_) rfl (by kernel_rfl) (by kernel_rfl) (by kernel_rfl) (by kernel_rfl) (fun _ _ _ h => h) (by rfl) (by assumption) ?_ ?_
    rotate_left
    · (intro w' hSw; (try dsimp only at hSw); go_simp; try with_reducible rfl)
    try simp only [Act.put, List.setIfInBounds_toArray, List.set_cons_zero, List.set_cons_succ]
    refine take_run 8 rfl (by kernel_rfl) (by rfl) (fun K hK => ?_)
    go_simp
    refine (specLV_any _ x _ (HX.out.since (hs02.trans hc6)) h1).mono ?_
    rintro en w7 ⟨rfl, hs7⟩
    have hc7 := hc6.trans hs7
    refine hK.out _ _ (HKC.out _ hc7) (fun hHeld2 => ?_)
    clear hK K hHeld1
    try simp only [Act.put, List.setIfInBounds_toArray, List.set_cons_zero, List.set_cons_succ]
    refine take_run 9 rfl (by kernel_rfl) (by rfl) (fun K hK => ?_)
    go_simp
    refine (l1In_any m x.f (latH x) _).mono ?_
    rintro en w8 ⟨rfl, rfl⟩
    rw [HIC.out]
    refine hK.out _ _ (HKC.out _ hc7) (fun hHeld3 => ?_)
    clear hK K hHeld2
    try simp only [Act.put, List.setIfInBounds_toArray, List.set_cons_zero, List.set_cons_succ]
    refine take_yes 10 (some 19) (v := ?_) rfl (by kernel_rfl) (by kernel_rfl) (by kernel_rfl) (by kernel_rfl) (fun _ _ _ h => h) (by rfl) (by assumption) ?_ ?_
    rotate_left
    · (intro w' hSw; (try dsimp only at hSw); go_simp; try with_reducible rfl)
    try simp only [Act.put, List.setIfInBounds_toArray, List.set_cons_zero, List.set_cons_succ]
    refine take_yes 11 (some 20) (v := ?_) rfl (by kernel_rfl) (by kernel_rfl) (by kernel_rfl) (by kernel_rfl) (fun _ _ _ h => h) (by rfl) (by assumption) ?_ ?_
    rotate_left
    · (intro w' hSw; (try dsimp only at hSw); go_simp; try with_reducible rfl)
    try simp only [Act.put, List.setIfInBounds_toArray, List.set_cons_zero, List.set_cons_succ]
    refine wpAnyH_done (by kernel_rfl) ?_ _
    clear hHeld3 HKC
    have hcf := hc7
    obtain ⟨x0, x1, _, _⟩ := (BX.out.since hcf).two
    obtain ⟨r0, r1, r2, r3⟩ := (BR.out.since (hs12.trans hcf)).two
    have HO9 := Lib.hid (HO.out.since hcf)
    have hs09 := hs02.trans hcf
    have hz9 := hcf.size
    go_wp2
    refine bodyPost_ret (v := .tuple #[.agg #[.int .i64 x.f, .slice xo x.gs.length xc], .bool false]) (by simp [results, Try.results25, go_sem, *]) rfl ?_
    rw [HR.out]
    exact hvb_stored HV.out HO9.out.view (.inl (by omega)) (by omega) (by omega) (by omega) hs09 rfl _ _
  · have HV := Lib.hid hv
    obtain ⟨k, k1, k2, k3, _, k4, k5, k6, k7, k8⟩ := hasV_place hv
    have HR := Lib.hid (cutH_yes hv k3)
    have HK1 := Lib.hid k1
    have hkn : k ≤ n := by have := HN.out; omega
    clear hv k1 k3
    go_enter Try.func25, Try.ntmps25
    go_wp2_with fail
    rw [← hy]
    clear hy p0 p1
    refine (l7Copy_any _ x _ (HX.out.since hs0) h1).mono ?_
    rintro en w1 ⟨v1, rfl, ho1, hs1⟩
    obtain ⟨xb, rfl, HO0⟩ := ho1
    obtain ⟨xo, xc, rfl⟩ := HO0.len
    obtain ⟨y2, hy2⟩ : ∃ y2, y2 = w1.alloc (.cells #[.int .i64 x.f, .slice xo x.gs.length xc] 26) := ⟨_, rfl⟩
    have hs2 : Since w1 y2 := by rw [hy2]; exact (Since.refl w1).alloc _
    have hz2 : w1.heap.size + 1 = y2.heap.size := by rw [hy2]; simp
    have BX : Hid (Blk y2 w1.heap.size 26 #[.int .i64 x.f, .slice xo x.gs.length xc]) := by rw [hy2]; exact Blk.new rfl _ _
    have HO : Hid (OwnR y.heap.size w1.heap.size y2 (.slice xo x.gs.length xc) x.gs) := HO0.since hs2
    have hzw : y.heap.size ≤ w1.heap.size := hs1.size
    have hs12 := hs1.trans hs2
    have hs02 := hs0.trans hs12
    have HKC : Hid (∀ w', Since y2 w' → w'.cell? ⟨w.heap.size, 0, none⟩ = some (.int .i64 x.f) ∧ w'.cell? ⟨w.heap.size, 1, none⟩ = some (.slice bo n bc)) := by
      intro w' hs
      obtain ⟨x0, x1, _, _⟩ := (BW.out.since (hs12.trans hs)).two
      exact ⟨x0, x1⟩
    clear HO0
    go_wp2_with fail
    rw [← hy2]
    clear hy2
    refine wp_region_held_drew (S := (fun w' => w'.cell? ⟨w.heap.size, 0, none⟩ = some (.int .i64 x.f) ∧ w'.cell? ⟨w.heap.size, 1, none⟩ = some (.slice bo n bc))) (by kernel_rfl) (HKC.out _ (Since.refl _).drew) (fun hHeld => ?_)
    refine take_yes 0 (some 9) (v := ?_) rfl (by kernel_rfl) (by kernel_rfl) (by kernel_rfl) (by kernel_rfl) (fun _ _ _ h => h) (by rfl) (by assumption) ?_ ?_
    rotate_left
    · (intro w' hSw; (try dsimp only at hSw); go_simp; try with_reducible rfl)
    try simp only [Act.put, List.setIfInBounds_toArray, List.set_cons_zero, List.set_cons_succ]
    refine take_run 1 rfl (by kernel_rfl) (by rfl) (fun K hK => ?_)
    go_simp
    refine (specVH_any _ x _ (HX.out.since hs02.drew) h1).mono ?_
    rintro en w6 ⟨rfl, hs6⟩
    rw [HVV.out]
    have hc6 := (Since.refl y2).drew.trans hs6
    refine hK.out _ _ (HKC.out _ hc6) (fun hHeld1 => ?_)
    clear hK K hHeld
    try simp only [Act.put, List.setIfInBounds_toArray, List.set_cons_zero, List.set_cons_succ]
    refine take_yes 2 (some 11) (v := ?_) rfl (by kernel_rfl) (by kernel_rfl) (by kernel_rfl) (by kernel_rfl) (fun _ _ _ h => h) (by rfl) (by assumption) ?_ ?_
    rotate_left
    · (intro w' hSw; (try dsimp only at hSw); go_simp; try with_reducible rfl)
    try simp only [Act.put, List.setIfInBounds_toArray, List.set_cons_zero, List.set_cons_succ]
    refine take_yes 3 (some 12) (v := ?_) rfl (by kernel_rfl) (by kernel_rfl) (by kernel_rfl) (by kernel_rfl) (fun _ _ _ h => h) (by rfl) (by assumption) ?_ ?_
    rotate_left
    · (intro w' hSw; (try dsimp only at hSw); go_simp; try with_reducible rfl)
    try simp only [Act.put, List.setIfInBounds_toArray, List.set_cons_zero, List.set_cons_succ]
    refine take_yes 4 (some 13) (v := ?_) rfl (by kernel_rfl) (by kernel_rfl) (by kernel_rfl) (by kernel_rfl) (fun _ _ _ h => h) (by rfl) (by assumption) ?_ ?_
    rotate_left
    · (intro w' hSw; (try dsimp only at hSw); go_simp; try with_reducible rfl)
    try simp only [Act.put, List.setIfInBounds_toArray, List.set_cons_zero, List.set_cons_succ]
    refine take_yes 5 (some 14) (v := ?_) rfl (by kernel_rfl) (by kernel_rfl) (by kernel_rfl) (by kernel_rfl) (fun _ _ _ h => h) (by rfl) (by assumption) ?_ ?_
    rotate_left
    · (intro w' hSw; (try dsimp only at hSw); go_simp; try with_reducible rfl)
    try simp only [Act.put, List.setIfInBounds_toArray, List.set_cons_zero, List.set_cons_succ]
    refine take_yes 6 (some 15) (v := ?_) rfl (by kernel_rfl) (by kernel_rfl) (by kernel_rfl) (by kernel_rfl) (fun _ _ _ h => h) (by rfl) (by assumption) ?_ ?_
    rotate_left
    · (intro w' hSw; (try dsimp only at hSw); go_simp; try with_reducible rfl)
    try simp only [Act.put, List.setIfInBounds_toArray, List.set_cons_zero, List.set_cons_succ]
    refine take_yes 7 (some 16) (v := ?_) rfl (by kernel_rfl) (by kernel_rfl) (by kernel_rfl) (by kernel_rfl) (fun _ _ _ h => h) (by rfl) (by assumption) ?_ ?_
    rotate_left
    · (intro w' hSw; (try dsimp only at hSw); go_simp; try with_reducible rfl)
    try simp only [Act.put, List.setIfInBounds_toArray, List.set_cons_zero, List.set_cons_succ]
    refine take_run 8 rfl (by kernel_rfl) (by rfl) (fun K hK => ?_)
    go_simp
    refine (specLV_any _ x _ (HX.out.since (hs02.trans hc6)) h1).mono ?_
    rintro en w7 ⟨rfl, hs7⟩
    have hc7 := hc6.trans hs7
    refine hK.out _ _ (HKC.out _ hc7) (fun hHeld2 => ?_)
    clear hK K hHeld1
    try simp only [Act.put, List.setIfInBounds_toArray, List.set_cons_zero, List.set_cons_succ]
    refine take_run 9 rfl (by kernel_rfl) (by rfl) (fun K hK => ?_)
    go_simp
    refine (l1In_any m x.f (latH x) _).mono ?_
    rintro en w8 ⟨rfl, rfl⟩
    rw [HIC.out]
    refine hK.out _ _ (HKC.out _ hc7) (fun hHeld3 => ?_)
    clear hK K hHeld2
    try simp only [Act.put, List.setIfInBounds_toArray, List.set_cons_zero, List.set_cons_succ]
    refine take_yes 10 (some 19) (v := ?_) rfl (by kernel_rfl) (by kernel_rfl) (by kernel_rfl) (by kernel_rfl) (fun _ _ _ h => h) (by rfl) (by assumption) ?_ ?_
    rotate_left
    · (intro w' hSw; (try dsimp only at hSw); go_simp; try with_reducible rfl)
    try simp only [Act.put, List.setIfInBounds_toArray, List.set_cons_zero, List.set_cons_succ]
    refine take_yes 11 (some 20) (v := ?_) rfl (by kernel_rfl) (by kernel_rfl) (by kernel_rfl) (by kernel_rfl) (fun _ _ _ h => h) (by rfl) (by assumption) ?_ ?_
    rotate_left
    · (intro w' hSw; (try dsimp only at hSw); go_simp; try with_reducible rfl)
    try simp only [Act.put, List.setIfInBounds_toArray, List.set_cons_zero, List.set_cons_succ]
    refine wpAnyH_done (by kernel_rfl) ?_ _
    clear hHeld3 HKC
    have hcf := hc7
    have HO9 := Lib.hid (HO.out.since hcf)
    have BX9 := Lib.hid (BX.out.since hcf)
    have hs09 := hs02.trans hcf
    have hz9 := hcf.size
    obtain ⟨gx, xc2, hvx, hgx, hcap⟩ : ∃ g cap, (Value.slice xo x.gs.length xc) = .slice (some ⟨g, 0, none⟩) x.gs.length cap ∧ y.heap.size ≤ g ∧ x.gs.length ≤ cap := by
      obtain ⟨ps, hr, _⟩ := HO9.out
      rcases hr.2 with ⟨e, e2⟩ | ⟨g, cap, cur, e, hb, _, hc2, _⟩
      · omega
      · exact ⟨g, cap, e, hb, hc2⟩
    injection hvx with e1 e2 e3
    subst e1; subst e3
    clear e2
    rw [← HN.out] at hcap BX9 HO9
    obtain ⟨A, hA⟩ : ∃ A, (if xc = k then some (⟨gx, 0, none⟩ : Addr) else some ⟨gx, k * 2, none⟩) = A := ⟨_, rfl⟩
    have HA := Lib.hid hA
    obtain ⟨q, hq⟩ : ∃ q, n - k = q := ⟨_, rfl⟩
    have HQ := Lib.hid hq
    have kk0 : (0 : Int) ≤ (k : Int) := by omega
    have kk1 : (k : Int) ≤ (n : Int) := by omega
    have kk2 : k ≤ xc := by omega
    have kk3 : (k : Int) ≤ (xc : Int) := by omega
    have hkm : m - x.f = (k : Int) := HK1.out
    obtain ⟨x0, x1, x2, x3⟩ := BX9.out.two
    obtain ⟨p0, p1, _, _⟩ := (BW.out.since (hs12.trans hcf)).two
    obtain ⟨r0, r1, r2, r3⟩ := (BR.out.since (hs12.trans hcf)).two
    go_wp2_with fail
    all_goals
      refine bodyPost_ret (v := .tuple #[.agg #[.int .i64 m, .slice A q (xc - k)], .bool true]) (by simp [results, Try.results25, go_sem, *]) rfl ?_
      rw [HR.out]
      have BX10 := BX9.out.set 1 (.slice A q (xc - k))
      have HO11 := (HO9.out.farT BX9.out 1 (.slice A q (xc - k))).farT BX10 0 (.int .i64 m)
      have HS11 := (hs09.setCell (a := ⟨w1.heap.size, 1, none⟩) (by show w.heap.size ≤ w1.heap.size; omega) (.slice A q (xc - k))).setCell (a := ⟨w1.heap.size, 0, none⟩) (by show w.heap.size ≤ w1.heap.size; omega) (.int .i64 m)
      refine hvb_stored (x := ⟨m, x.gs.drop k⟩) HV.out (HO11.view.drop hkn A q (xc - k) HQ.out.symm ?_) (.inl (by omega)) (by omega) (by simp; omega) (by omega) HS11 rfl _ _
      intro hlt b off e
      injection e with e; injection e with e1 e2
      subst e1; subst e2
      rw [← HA.out, if_neg (by omega)]; simp
set_option maxHeartbeats 2000000 in
set_option maxRecDepth 100000 in
theorem implCH_any (v : Value) (x : Hst) (m : Int) (w : World) (h : HstAt w v x) (h1 : SmH x) :
    Calls Try.prog 24 #[v, .int .i64 m] w (HBOut w (cutH x m) (hasV x m)) := by
  have HX := Lib.hid h
  obtain ⟨b, rfl, hb⟩ := h
  obtain ⟨bo, bc, rfl, _⟩ := hb
  obtain ⟨n, hn⟩ : ∃ n, n = x.gs.length := ⟨_, rfl⟩
  have HN := Lib.hid hn
  rw [← hn] at HX ⊢
  clear hn
  obtain ⟨y, hy⟩ : ∃ y, y = (w.alloc (.cells #[.int .i64 x.f, .slice bo n bc] 26)).alloc (.cells #[.int .i64 0, .slice none 0 0] 26) := ⟨_, rfl⟩
  have hs0 : Since w y := by rw [hy]; exact ((Since.refl w).alloc _).alloc _
  have hz : w.heap.size + 1 + 1 = y.heap.size := by rw [hy]; simp
  have BW : Hid (Blk y w.heap.size 26 #[.int .i64 x.f, .slice bo n bc]) := by rw [hy]; exact (Blk.new rfl _ _).alloc _
  have BR : Hid (Blk y (w.heap.size + 1) 26 #[.int .i64 0, .slice none 0 0]) := by rw [hy]; exact Blk.new (by simp) _ _
  obtain ⟨p0, p1, _, _⟩ := BW.out.two
  rw [hy] at p0 p1
  rcases Bool.eq_false_or_eq_true (hasV x m) with hv | hv
  rotate_left
  · have HV := Lib.hid hv
    have HR := Lib.hid (cutH_no hv)
    clear hv
    go_enter Try.func24, Try.ntmps24
    go_wp2_with fail
    rw [← hy]
    clear hy p0 p1
    refine (copyHistory_any _ x _ (HX.out.since hs0) h1).mono ?_
    rintro en w1 ⟨B, so, sc, rfl, hB, kB, ko, hs1⟩
    have KB := Lib.hid kB
    have KO := Lib.hid ko
    clear kB ko
    have hs01 := hs0.trans hs1
    obtain ⟨p0, p1, _, _⟩ := (BW.out.since hs1).two
    go_wp2_with fail
    clear p0 p1
    refine (placeOf_any _ x m _ (HX.out.since hs01) h1).mono ?_
    rintro en w2 ⟨rfl, hs2⟩
    rw [HV.out]
    have hs02 := hs01.trans hs2
    have KB2 := Lib.hid (KB.out.since hs2)
    have KO2 := Lib.hid ((KO.out.since hs2).wider (Nat.le_refl _) hs2.size)
    obtain ⟨x0, x1, _, _⟩ := KB2.out.two
    obtain ⟨r0, r1, r2, r3⟩ := (BR.out.since (hs1.trans hs2)).two
    go_wp2
    refine bodyPost_ret (v := .tuple #[.agg #[.int .i64 x.f, .slice so x.gs.length sc], .bool false]) (by simp [results, Try.results24, go_sem, *]) rfl ?_
    rw [HR.out, HV.out]
    exact ⟨_, rfl, ⟨_, rfl, (((KO2.out.far (B := w.heap.size + 1) (.inl (by omega)) 0 (.int .i64 x.f)).far (B := w.heap.size + 1) (.inl (by omega)) 1 (.slice so x.gs.length sc)).wider (by omega) (by simp))⟩, (hs02.setCell (by simp) _).setCell (by simp) _⟩
  · have HV := Lib.hid hv
    obtain ⟨k, k1, k2, k3, _, k4, k5, k6, k7, k8⟩ := hasV_place hv
    have HR := Lib.hid (cutH_yes hv k3)
    have HP : Hid (plV x m = (k : Int)) := by unfold Hid plV; rw [if_pos hv]; exact k1
    have HF : Hid (x.f + (k : Int) = m) := by unfold Hid; omega
    clear hv k1 k3
    go_enter Try.func24, Try.ntmps24
    go_wp2_with fail
    rw [← hy]
    clear hy p0 p1
    refine (copyHistory_any _ x _ (HX.out.since hs0) h1).mono ?_
    rintro en w1 ⟨B, so, sc, rfl, hB, kB, ko, hs1⟩
    have KB := Lib.hid kB
    have KO := Lib.hid ko
    clear kB ko
    have hs01 := hs0.trans hs1
    obtain ⟨p0, p1, _, _⟩ := (BW.out.since hs1).two
    go_wp2_with fail
    clear p0 p1
    refine (placeOf_any _ x m _ (HX.out.since hs01) h1).mono ?_
    rintro en w2 ⟨rfl, hs2⟩
    rw [HV.out, HP.out]
    have hs02 := hs01.trans hs2
    have KB2 := Lib.hid (KB.out.since hs2)
    have KO2 := Lib.hid ((KO.out.since hs2).wider (Nat.le_refl _) hs2.size)
    have hz2 : y.heap.size ≤ w2.heap.size := Nat.le_trans hs1.size hs2.size
    go_wp2_with fail
    refine (removeOldest_any B x.f k y.heap.size w2.heap.size _ x.gs _ KB2.out KO2.out (by omega) (by omega) (by omega) (by omega) (by have := h1.1; omega)).mono ?_
    rintro en w3 ⟨rfl, v3, kB3, ko3, hr3⟩
    have hs23 : Since y w3 := hr3.1 y (hs1.trans hs2) hB (Nat.le_refl _)
    have hs03 : Since w w3 := hs0.trans hs23
    rw [HF.out] at kB3
    have KB3 := Lib.hid kB3
    have KO3 : Hid (OwnR y.heap.size w3.heap.size w3 v3 (x.gs.drop k)) := ko3.wider (Nat.le_refl _) hr3.2
    clear kB3 ko3
    obtain ⟨s3, c3, rfl⟩ := KO3.out.len
    obtain ⟨q, hq⟩ : ∃ q, (x.gs.drop k).length = q := ⟨_, rfl⟩
    rw [hq] at KB3 KO3
    clear hq
    obtain ⟨x0, x1, _, _⟩ := KB3.out.two
    obtain ⟨r0, r1, r2, r3⟩ := (BR.out.since hs23).two
    go_wp2
    refine bodyPost_ret (v := .tuple #[.agg #[.int .i64 m, .slice s3 q c3], .bool true]) (by simp [results, Try.results24, go_sem, *]) rfl ?_
    rw [HR.out, HV.out]
    exact ⟨_, rfl, ⟨_, rfl, (((KO3.out.far (B := w.heap.size + 1) (.inl (by omega)) 0 (.int .i64 m)).far (B := w.heap.size + 1) (.inl (by omega)) 1 (.slice s3 q c3)).wider (by omega) (by simp))⟩, (hs03.setCell (by simp) _).setCell (by simp) _⟩
end Go.Proofs.Ytgdeiecbkmhbeaa
