/- GraphAt, the model's and the program's; placeOf. -/
import Derived.Test.YtgdeiecbkmhbeaaHlS
import Derived.Test.YtgdeiecbkmhbeaaCopyS
import Derived.Test.YtgdeiecbkmhbeaaCopyI
import Derived.Test.YtgdeiecbkmhbeaaK1
namespace Go.Proofs.Ytgdeiecbkmhbeaa
set_option maxRecDepth 100000
open Go.ChangeShapes Go.WideShapes Go.ChangeAt Go.RowKit
set_option linter.unusedVariables false
set_option linter.unusedSimpArgs false

theorem hasV_place {x : Hst} {n : Int} (h : hasV x n = true) : ∃ k : Nat, n - x.f = (k : Int) ∧ k < x.gs.length ∧ (n - x.f).toNat = k ∧ validH x = true ∧ x.f ≤ n ∧ n ≤ latH x ∧ x.gs.length ≤ 8 ∧ 1 ≤ x.f ∧ n ≤ 999 := by
  unfold hasV at h
  simp only [Bool.and_eq_true] at h
  obtain ⟨hv, hb⟩ := h
  obtain ⟨_, a1, a2, a3, a4⟩ := validH_parts hv
  have hl : latH x = x.f + (x.gs.length : Int) - 1 := by unfold latH; rw [if_pos hv]
  obtain ⟨b1, b2⟩ : x.f ≤ n ∧ n ≤ latH x := by unfold inB at hb; simpa using hb
  exact ⟨(n - x.f).toNat, by omega, by omega, rfl, hv, b1, b2, a2, a3, by omega⟩
theorem atH_yes {x : Hst} {n : Int} {k : Nat} (h : hasV x n = true) (hk : (n - x.f).toNat = k) (hl : k < x.gs.length) : atH x n = x.gs[k] := by
  unfold atH
  rw [if_pos h, hk, List.getD_eq_getElem?_getD, List.getElem?_eq_getElem hl]; rfl
theorem atH_no {x : Hst} {n : Int} (h : hasV x n = false) : atH x n = zeroGr := by unfold atH; rw [if_neg (by rw [h]; decide)]
theorem gb_no {w w' : World} {r : Grf} {c : Bool} (hc : c = false) (hr : r = zeroGr) (hs : Since w w') : GBOut w r c (.returned (.tuple #[.agg #[.slice none 0 0, .slice none 0 0], .bool false])) w' := by
  subst hc; subst hr
  exact ⟨_, rfl, ⟨_, _, rfl, ⟨fun x hx => by simp [zeroGr] at hx, World.ownsRow_nil _ _ _ _⟩, fun k hk => by simp [Value.ownBlock] at hk, ⟨fun x hx => by simp [zeroGr] at hx, World.ownsRow_nil _ _ _ _⟩, fun k hk => by simp [Value.ownBlock] at hk⟩, hs⟩
/-- What placeOf answers. -/
def plV (x : Hst) (n : Int) : Int := if hasV x n = true then n - x.f else 0
set_option maxHeartbeats 1000000 in
set_option maxRecDepth 100000 in
theorem placeOf_any (v : Value) (x : Hst) (m : Int) (w : World) (h : HstAt w v x) (h1 : SmH x) :
    Calls Try.prog 62 #[v, .int .i64 m] w fun e w' => e = .returned (.tuple #[.int .i64 (plV x m), .bool (hasV x m)]) ∧ Since w w' := by
  have HX := Lib.hid h
  obtain ⟨b, rfl, hb⟩ := h
  obtain ⟨bo, bc, rfl, _⟩ := hb
  obtain ⟨y, hy⟩ : ∃ y, y = w.alloc (.cells #[.int .i64 x.f, .slice bo x.gs.length bc] 26) := ⟨_, rfl⟩
  have hs0 : Since w y := by rw [hy]; exact (Since.refl w).alloc _
  have BW : Hid (Blk y w.heap.size 26 #[.int .i64 x.f, .slice bo x.gs.length bc]) := by rw [hy]; exact Blk.new rfl _ _
  obtain ⟨p0, p1, _, _⟩ := BW.out.two
  rw [hy] at p0 p1
  rcases Bool.eq_false_or_eq_true (validH x) with hv | hv
  rotate_left
  · have HV := Lib.hid hv
    have hh : hasV x m = false := by unfold hasV; rw [hv]; rfl
    have HR : Hid (plV x m = 0 ∧ hasV x m = false) := ⟨by unfold plV; rw [hh]; rfl, hh⟩
    clear hv hh
    rw [HR.out.1, HR.out.2]
    go_enter Try.func62, Try.ntmps62
    go_wp2_with fail
    rw [← hy]
    clear hy p0 p1
    refine (implVH_any _ x _ (HX.out.since hs0) h1).mono ?_
    rintro en w1 ⟨rfl, hs1⟩
    rw [HV.out]
    have hs01 := hs0.trans hs1
    go_wp2
    go_ret2
    exact ⟨rfl, hs01⟩
  have HV := Lib.hid hv
  obtain ⟨_, a1, a2, a3, a4⟩ := validH_parts hv
  by_cases hlt : m < x.f
  · have hh : hasV x m = false := by unfold hasV; rw [hv, inB_false (.inl hlt)]; rfl
    have HR : Hid (plV x m = 0 ∧ hasV x m = false) := ⟨by unfold plV; rw [hh]; rfl, hh⟩
    have hd : decide (m < x.f) = true := by simpa using hlt
    clear hv hh
    rw [HR.out.1, HR.out.2]
    go_enter Try.func62, Try.ntmps62
    go_wp2_with fail
    rw [← hy]
    clear hy p0 p1
    refine (implVH_any _ x _ (HX.out.since hs0) h1).mono ?_
    rintro en w1 ⟨rfl, hs1⟩
    rw [HV.out]
    have hs01 := hs0.trans hs1
    obtain ⟨p0, p1, _, _⟩ := (BW.out.since hs1).two
    go_wp2
    go_ret2
    exact ⟨rfl, hs01⟩
  have hd : decide (m < x.f) = false := by simp; omega
  by_cases hgt : latH x < m
  · have hh : hasV x m = false := by unfold hasV; rw [hv, inB_false (.inr hgt)]; rfl
    have HR : Hid (plV x m = 0 ∧ hasV x m = false) := ⟨by unfold plV; rw [hh]; rfl, hh⟩
    have hd2 : decide (latH x < m) = true := by simpa using hgt
    clear hv hh
    rw [HR.out.1, HR.out.2]
    go_enter Try.func62, Try.ntmps62
    go_wp2_with fail
    rw [← hy]
    clear hy p0 p1
    refine (implVH_any _ x _ (HX.out.since hs0) h1).mono ?_
    rintro en w1 ⟨rfl, hs1⟩
    rw [HV.out]
    have hs01 := hs0.trans hs1
    obtain ⟨p0, p1, _, _⟩ := (BW.out.since hs1).two
    go_wp2_with fail
    clear p0 p1
    refine (implLV_any _ x _ (HX.out.since hs01) h1).mono ?_
    rintro en w2 ⟨rfl, hs2⟩
    have hs02 := hs01.trans hs2
    obtain ⟨p0, p1, _, _⟩ := (BW.out.since (hs1.trans hs2)).two
    go_wp2
    go_ret2
    exact ⟨rfl, hs02⟩
  · have hh : hasV x m = true := by unfold hasV; rw [hv, inB_true (by omega) (by omega)]; rfl
    have HR : Hid (plV x m = m - x.f ∧ hasV x m = true) := ⟨by unfold plV; rw [if_pos hh], hh⟩
    obtain ⟨k, k1, k2, _, _, k3, k4, k5, k6, k7⟩ := hasV_place hh
    have HK := Lib.hid k1
    have hd2 : decide (latH x < m) = false := by simp; omega
    clear hv hh k1
    rw [HR.out.1, HR.out.2]
    go_enter Try.func62, Try.ntmps62
    go_wp2_with fail
    rw [← hy]
    clear hy p0 p1
    refine (implVH_any _ x _ (HX.out.since hs0) h1).mono ?_
    rintro en w1 ⟨rfl, hs1⟩
    rw [HV.out]
    have hs01 := hs0.trans hs1
    obtain ⟨p0, p1, _, _⟩ := (BW.out.since hs1).two
    go_wp2_with fail
    clear p0 p1
    refine (implLV_any _ x _ (HX.out.since hs01) h1).mono ?_
    rintro en w2 ⟨rfl, hs2⟩
    have hs02 := hs01.trans hs2
    obtain ⟨p0, p1, _, _⟩ := (BW.out.since (hs1.trans hs2)).two
    go_wp2
    go_ret2
    exact ⟨rfl, hs02⟩
set_option maxHeartbeats 1000000 in
set_option maxRecDepth 100000 in
theorem implGA_any (v : Value) (x : Hst) (m : Int) (w : World) (h : HstAt w v x) (h1 : SmH x) :
    Calls Try.prog 19 #[v, .int .i64 m] w (GBOut w (atH x m) (hasV x m)) := by
  have HX := Lib.hid h
  obtain ⟨b, rfl, hb⟩ := h
  obtain ⟨bo, bc, rfl, HC⟩ := hb
  have HSM := Lib.hid h1
  obtain ⟨n, hn⟩ : ∃ n, n = x.gs.length := ⟨_, rfl⟩
  have HN := Lib.hid hn
  rw [← hn] at HX ⊢
  clear hn
  obtain ⟨y, hy⟩ : ∃ y, y = (w.alloc (.cells #[.int .i64 x.f, .slice bo n bc] 26)).alloc (.cells #[.slice none 0 0, .slice none 0 0] 39) := ⟨_, rfl⟩
  have hs0 : Since w y := by rw [hy]; exact ((Since.refl w).alloc _).alloc _
  have hz : w.heap.size + 1 + 1 = y.heap.size := by rw [hy]; simp
  have BW : Hid (Blk y w.heap.size 26 #[.int .i64 x.f, .slice bo n bc]) := by rw [hy]; exact (Blk.new rfl _ _).alloc _
  have BR : Hid (Blk y (w.heap.size + 1) 39 #[.slice none 0 0, .slice none 0 0]) := by rw [hy]; exact Blk.new (by simp) _ _
  obtain ⟨p0, p1, _, _⟩ := BW.out.two
  rw [hy] at p0 p1
  rcases Bool.eq_false_or_eq_true (hasV x m) with hv | hv
  rotate_left
  · have HV := Lib.hid hv
    have HR := Lib.hid (atH_no hv)
    clear hv
    go_enter Try.func19, Try.ntmps19
    go_wp2_with fail
    rw [← hy]
    clear hy p0 p1
    refine (placeOf_any _ x m _ (HX.out.since hs0) h1).mono ?_
    rintro en w1 ⟨rfl, hs1⟩
    rw [HV.out]
    have hs01 := hs0.trans hs1
    obtain ⟨r0, r1, r2, r3⟩ := (BR.out.since hs1).two
    go_wp2
    refine bodyPost_ret (v := .tuple #[.agg #[.slice none 0 0, .slice none 0 0], .bool false]) (by simp [results, Try.results19, go_sem, *]) rfl ?_
    exact gb_no HV.out HR.out ((hs01.setCell (by simp) _).setCell (by simp) _)
  · have HV := Lib.hid hv
    obtain ⟨k, k1, k2, k3, _⟩ := hasV_place hv
    obtain ⟨be, oe, p, q, rfl, hbe, c0, c1, hg⟩ := HC.out k k2
    obtain ⟨vo, vc, eo, ec, rfl, rfl⟩ := grf_shape hg
    have HB0 := Lib.hid (HSM.out.get k k2)
    have HR := Lib.hid (atH_yes hv k3 k2)
    have HP : Hid (plV x m = (k : Int)) := by unfold Hid plV; rw [if_pos hv]; exact k1
    have HG := Lib.hid hg
    have kk0 : (0 : Int) ≤ (k : Int) := by omega
    have kk1 : (k : Int) < (n : Int) := by have := HN.out; omega
    have kk2 : k < n := by have := HN.out; omega
    clear hv k1 k3 hg
    generalize x.gs[k] = g at c0 c1 HG HB0 HR
    rw [HV.out, HR.out]
    go_enter Try.func19, Try.ntmps19
    go_wp2_with fail
    rw [← hy]
    clear hy p0 p1
    refine (placeOf_any _ x m _ (HX.out.since hs0) h1).mono ?_
    rintro en w1 ⟨rfl, hs1⟩
    rw [HV.out, HP.out]
    have hs01 := hs0.trans hs1
    obtain ⟨p0, p1, _, _⟩ := (BW.out.since hs1).two
    have s1 := since_cells hs01 hbe
    rw [← s1] at c0 c1
    clear s1
    go_wp2_with fail
    clear p0 p1 c0 c1
    refine (copyGraph_any _ g _ (HG.out.since hs01) HB0.out.1 HB0.out.2).mono ?_
    rintro en w2 ⟨v2, rfl, ho2, hs2⟩
    obtain ⟨pa, pb, rfl, ka, ra, kb, rb⟩ := ho2
    obtain ⟨ao, ac, rfl⟩ := ka.len
    obtain ⟨zo, zc, rfl⟩ := kb.len
    have KA := Lib.hid ka
    have KB := Lib.hid kb
    have hs02 := hs01.trans hs2
    have hzw : y.heap.size ≤ w1.heap.size := hs1.size
    obtain ⟨r0, r1, r2, r3⟩ := (BR.out.since (hs1.trans hs2)).two
    clear ka kb ra rb
    go_wp2
    refine bodyPost_ret (v := .tuple #[.agg #[.slice ao g.vs.length ac, .slice zo g.es.length zc], .bool true]) (by simp [results, Try.results19, go_sem, *]) rfl ?_
    refine gbOut_mk rfl (by cases g; rfl) (((KA.out.far (by simp; omega) _).far (by simp; omega) _).mono (by omega)) (((KB.out.far (by simp; omega) _).far (by simp; omega) _).mono (by omega)) ?_
    exact (hs02.setCell (by simp) _).setCell (by simp) _
set_option maxHeartbeats 2000000 in
set_option maxRecDepth 100000 in
theorem specGA_any (v : Value) (x : Hst) (m : Int) (w : World) (h : HstAt w v x) (h1 : SmH x) :
    Calls Try.prog 26 #[v, .int .i64 m] w (GBOut w (atH x m) (hasV x m)) := by
  have HX := Lib.hid h
  obtain ⟨b, rfl, hb⟩ := h
  obtain ⟨bo, bc, rfl, HC⟩ := hb
  have HSM := Lib.hid h1
  obtain ⟨n, hn⟩ : ∃ n, n = x.gs.length := ⟨_, rfl⟩
  have HN := Lib.hid hn
  rw [← hn] at HX ⊢
  clear hn
  obtain ⟨y, hy⟩ : ∃ y, y = (w.alloc (.cells #[.int .i64 x.f, .slice bo n bc] 26)).alloc (.cells #[.slice none 0 0, .slice none 0 0] 39) := ⟨_, rfl⟩
  have hs0 : Since w y := by rw [hy]; exact ((Since.refl w).alloc _).alloc _
  have hz : w.heap.size + 1 + 1 = y.heap.size := by rw [hy]; simp
  have BW : Hid (Blk y w.heap.size 26 #[.int .i64 x.f, .slice bo n bc]) := by rw [hy]; exact (Blk.new rfl _ _).alloc _
  have BR : Hid (Blk y (w.heap.size + 1) 39 #[.slice none 0 0, .slice none 0 0]) := by rw [hy]; exact Blk.new (by simp) _ _
  have HKC : Hid (∀ w', Since y w' → w'.cell? ⟨w.heap.size, 0, none⟩ = some (.int .i64 x.f) ∧ w'.cell? ⟨w.heap.size, 1, none⟩ = some (.slice bo n bc)) := by
    intro w' hs
    obtain ⟨x0, x1, _, _⟩ := (BW.out.since hs).two
    exact ⟨x0, x1⟩
  rcases Bool.eq_false_or_eq_true (validH x) with hvv | hvv
  rotate_left
  · have HVV := Lib.hid hvv
    have hv : hasV x m = false := by unfold hasV; rw [hvv]; rfl
    have HV := Lib.hid hv
    have HR := Lib.hid (atH_no hv)
    clear hv hvv
    go_enter Try.func26, Try.ntmps26
    go_wp2_with fail
    rw [← hy]
    clear hy
    refine wp_region_held_drew (S := (fun w' => w'.cell? ⟨w.heap.size, 0, none⟩ = some (.int .i64 x.f) ∧ w'.cell? ⟨w.heap.size, 1, none⟩ = some (.slice bo n bc))) (by kernel_rfl) (HKC.out _ (Since.refl _).drew) (fun hHeld => ?_)
    refine take_yes 0 (some 6) (v := ?_) rfl (by kernel_rfl) (by kernel_rfl) (by kernel_rfl) (by kernel_rfl) (fun _ _ _ h => h) (by rfl) (by assumption) ?_ ?_
    rotate_left
    · (intro w' hSw; (try dsimp only at hSw); go_simp; try with_reducible rfl)
    try simp only [Act.put, List.setIfInBounds_toArray, List.set_cons_zero, List.set_cons_succ]
    refine take_run 1 rfl (by kernel_rfl) (by rfl) (fun K hK => ?_)
    go_simp
    refine (specVH_any _ x _ (HX.out.since hs0.drew) h1).mono ?_
    rintro en w6 ⟨rfl, hs6⟩
    rw [HVV.out]
    have hc6 := (Since.refl y).drew.trans hs6
    refine hK.out _ _ (HKC.out _ hc6) (fun hHeld1 => ?_)
    clear hK K hHeld
    try simp only [Act.put, List.setIfInBounds_toArray, List.set_cons_zero, List.set_cons_succ]
    refine take_yes 2 (some 8) (v := ?_) rfl (by kernel_rfl) (by kernel_rfl) (by kernel_rfl) (by kernel_rfl) (fun _ _ _ h => h) (by rfl) (by assumption) ?_ ?_
    rotate_left
    · (intro w' hSw; (try dsimp only at hSw); go_simp; try with_reducible rfl)
    try simp only [Act.put, List.setIfInBounds_toArray, List.set_cons_zero, List.set_cons_succ]
    refine take_yes 3 (some 9) (v := ?_) rfl (by kernel_rfl) (by kernel_rfl) (by kernel_rfl) (by kernel_rfl) (fun _ _ _ h => h) (by rfl) (by assumption) ?_ ?_
    rotate_left
    · (intro w' hSw; (try dsimp only at hSw); go_simp; try with_reducible rfl)
    try simp only [Act.put, List.setIfInBounds_toArray, List.set_cons_zero, List.set_cons_succ]
    refine take_no 4 (some 10) rfl (by kernel_rfl) (by kernel_rfl) (by kernel_rfl) (by kernel_rfl) (fun _ _ _ h => h) (by rfl) (by assumption) ?_
    try simp only [Act.put, List.setIfInBounds_toArray, List.set_cons_zero, List.set_cons_succ]
    refine take_no 5 (some 11) rfl (by kernel_rfl) (by kernel_rfl) (by kernel_rfl) (by kernel_rfl) (fun _ _ _ h => h) (by rfl) (by assumption) ?_
    try simp only [Act.put, List.setIfInBounds_toArray, List.set_cons_zero, List.set_cons_succ]
    refine take_no 6 (some 12) rfl (by kernel_rfl) (by kernel_rfl) (by kernel_rfl) (by kernel_rfl) (fun _ _ _ h => h) (by rfl) (by assumption) ?_
    try simp only [Act.put, List.setIfInBounds_toArray, List.set_cons_zero, List.set_cons_succ]
    refine take_no 7 (some 13) rfl (by kernel_rfl) (by kernel_rfl) (by kernel_rfl) (by kernel_rfl) (fun _ _ _ h => h) (by rfl) (by assumption) ?_
    try simp only [Act.put, List.setIfInBounds_toArray, List.set_cons_zero, List.set_cons_succ]
    refine take_no 8 (some 14) rfl (by kernel_rfl) (by kernel_rfl) (by kernel_rfl) (by kernel_rfl) (fun _ _ _ h => h) (by rfl) (by assumption) ?_
    try simp only [Act.put, List.setIfInBounds_toArray, List.set_cons_zero, List.set_cons_succ]
    refine take_no 9 (some 15) rfl (by kernel_rfl) (by kernel_rfl) (by kernel_rfl) (by kernel_rfl) (fun _ _ _ h => h) (by rfl) (by assumption) ?_
    try simp only [Act.put, List.setIfInBounds_toArray, List.set_cons_zero, List.set_cons_succ]
    refine take_no 10 (some 16) rfl (by kernel_rfl) (by kernel_rfl) (by kernel_rfl) (by kernel_rfl) (fun _ _ _ h => h) (by rfl) (by assumption) ?_
    try simp only [Act.put, List.setIfInBounds_toArray, List.set_cons_zero, List.set_cons_succ]
    refine take_yes 11 (some 17) (v := ?_) rfl (by kernel_rfl) (by kernel_rfl) (by kernel_rfl) (by kernel_rfl) (fun _ _ _ h => h) (by rfl) (by assumption) ?_ ?_
    rotate_left
    · (intro w' hSw; (try dsimp only at hSw); go_simp; try with_reducible rfl)
    try simp only [Act.put, List.setIfInBounds_toArray, List.set_cons_zero, List.set_cons_succ]
    refine wpAnyH_done (by kernel_rfl) ?_ _
    clear hHeld1 HKC
    have hs06 := hs0.trans hc6
    obtain ⟨r0, r1, r2, r3⟩ := (BR.out.since hc6).two
    go_wp2
    refine bodyPost_ret (v := .tuple #[.agg #[.slice none 0 0, .slice none 0 0], .bool false]) (by simp [results, Try.results26, go_sem, *]) rfl ?_
    exact gb_no HV.out HR.out ((hs06.setCell (by simp) _).setCell (by simp) _)
  have HVV := Lib.hid hvv
  obtain ⟨c, hc⟩ : ∃ c, inB m x.f (latH x) = c := ⟨_, rfl⟩
  have hv : hasV x m = c := by unfold hasV; rw [hvv, hc]; rfl
  have HIC := Lib.hid hc
  clear hc hvv
  cases c
  · have HV := Lib.hid hv
    have HR := Lib.hid (atH_no hv)
    clear hv
    go_enter Try.func26, Try.ntmps26
    go_wp2_with fail
    rw [← hy]
    clear hy
    refine wp_region_held_drew (S := (fun w' => w'.cell? ⟨w.heap.size, 0, none⟩ = some (.int .i64 x.f) ∧ w'.cell? ⟨w.heap.size, 1, none⟩ = some (.slice bo n bc))) (by kernel_rfl) (HKC.out _ (Since.refl _).drew) (fun hHeld => ?_)
    refine take_yes 0 (some 6) (v := ?_) rfl (by kernel_rfl) (by kernel_rfl) (by kernel_rfl) (by kernel_rfl) (fun _ _ _ h => h) (by rfl) (by assumption) ?_ ?_
    rotate_left
    · (intro w' hSw; (try dsimp only at hSw); go_simp; try with_reducible rfl)
    try simp only [Act.put, List.setIfInBounds_toArray, List.set_cons_zero, List.set_cons_succ]
    refine take_run 1 rfl (by kernel_rfl) (by rfl) (fun K hK => ?_)
    go_simp
    refine (specVH_any _ x _ (HX.out.since hs0.drew) h1).mono ?_
    rintro en w6 ⟨rfl, hs6⟩
    rw [HVV.out]
    have hc6 := (Since.refl y).drew.trans hs6
    refine hK.out _ _ (HKC.out _ hc6) (fun hHeld1 => ?_)
    clear hK K hHeld
    try simp only [Act.put, List.setIfInBounds_toArray, List.set_cons_zero, List.set_cons_succ]
    refine take_yes 2 (some 8) (v := ?_) rfl (by kernel_rfl) (by kernel_rfl) (by kernel_rfl) (by kernel_rfl) (fun _ _ _ h => h) (by rfl) (by assumption) ?_ ?_
    rotate_left
    · (intro w' hSw; (try dsimp only at hSw); go_simp; try with_reducible rfl)
    try simp only [Act.put, List.setIfInBounds_toArray, List.set_cons_zero, List.set_cons_succ]
    refine take_yes 3 (some 9) (v := ?_) rfl (by kernel_rfl) (by kernel_rfl) (by kernel_rfl) (by kernel_rfl) (fun _ _ _ h => h) (by rfl) (by assumption) ?_ ?_
    rotate_left
    · (intro w' hSw; (try dsimp only at hSw); go_simp; try with_reducible rfl)
    try simp only [Act.put, List.setIfInBounds_toArray, List.set_cons_zero, List.set_cons_succ]
    refine take_yes 4 (some 10) (v := ?_) rfl (by kernel_rfl) (by kernel_rfl) (by kernel_rfl) (by kernel_rfl) (fun _ _ _ h => h) (by rfl) (by assumption) ?_ ?_
    rotate_left
    · (intro w' hSw; (try dsimp only at hSw); go_simp; try with_reducible rfl)
    try simp only [Act.put, List.setIfInBounds_toArray, List.set_cons_zero, List.set_cons_succ]
    refine take_yes 5 (some 11) (v := ?_) rfl (by kernel_rfl) (by kernel_rfl) (by kernel_rfl) (by kernel_rfl) (fun _ _ _ h => h) (by rfl) (by assumption) ?_ ?_
    rotate_left
    · (intro w' hSw; (try dsimp only at hSw); go_simp; try with_reducible rfl)
    try simp only [Act.put, List.setIfInBounds_toArray, List.set_cons_zero, List.set_cons_succ]
    refine take_yes 6 (some 12) (v := ?_) rfl (by kernel_rfl) (by kernel_rfl) (by kernel_rfl) (by kernel_rfl) (fun _ _ _ h => h) (by rfl) (by assumption) ?_ ?_
    rotate_left
    · (intro w' hSw; (try dsimp only at hSw); go_simp; try with_reducible rfl)
    try simp only [Act.put, List.setIfInBounds_toArray, List.set_cons_zero, List.set_cons_succ]
    refine take_yes 7 (some 13) (v := ?_) rfl (by kernel_rfl) (by kernel_rfl) (by kernel_rfl) (by kernel_rfl) (fun _ _ _ h => h) (by rfl) (by assumption) ?_ ?_
    rotate_left
    · (intro w' hSw; (try dsimp only at hSw); go_simp; try with_reducible rfl)
    try simp only [Act.put, List.setIfInBounds_toArray, List.set_cons_zero, List.set_cons_succ]
    refine take_run 8 rfl (by kernel_rfl) (by rfl) (fun K hK => ?_)
    go_simp
    refine (specLV_any _ x _ (HX.out.since (hs0.trans hc6)) h1).mono ?_
    rintro en w7 ⟨rfl, hs7⟩
    have hc7 := hc6.trans hs7
    refine hK.out _ _ (HKC.out _ hc7) (fun hHeld2 => ?_)
    clear hK K hHeld1
    try simp only [Act.put, List.setIfInBounds_toArray, List.set_cons_zero, List.set_cons_succ]
    refine take_run 9 rfl (by kernel_rfl) (by rfl) (fun K hK => ?_)
    go_simp
    refine (l1In_any m x.f (latH x) _).mono ?_
    rintro en w8 ⟨rfl, rfl⟩
    rw [HIC.out]
    refine hK.out _ _ (HKC.out _ hc7) (fun hHeld3 => ?_)
    clear hK K hHeld2
    try simp only [Act.put, List.setIfInBounds_toArray, List.set_cons_zero, List.set_cons_succ]
    refine take_yes 10 (some 16) (v := ?_) rfl (by kernel_rfl) (by kernel_rfl) (by kernel_rfl) (by kernel_rfl) (fun _ _ _ h => h) (by rfl) (by assumption) ?_ ?_
    rotate_left
    · (intro w' hSw; (try dsimp only at hSw); go_simp; try with_reducible rfl)
    try simp only [Act.put, List.setIfInBounds_toArray, List.set_cons_zero, List.set_cons_succ]
    refine take_yes 11 (some 17) (v := ?_) rfl (by kernel_rfl) (by kernel_rfl) (by kernel_rfl) (by kernel_rfl) (fun _ _ _ h => h) (by rfl) (by assumption) ?_ ?_
    rotate_left
    · (intro w' hSw; (try dsimp only at hSw); go_simp; try with_reducible rfl)
    try simp only [Act.put, List.setIfInBounds_toArray, List.set_cons_zero, List.set_cons_succ]
    refine wpAnyH_done (by kernel_rfl) ?_ _
    clear hHeld3 HKC
    have hs07 := hs0.trans hc7
    obtain ⟨r0, r1, r2, r3⟩ := (BR.out.since hc7).two
    go_wp2
    refine bodyPost_ret (v := .tuple #[.agg #[.slice none 0 0, .slice none 0 0], .bool false]) (by simp [results, Try.results26, go_sem, *]) rfl ?_
    exact gb_no HV.out HR.out ((hs07.setCell (by simp) _).setCell (by simp) _)
  · have HV := Lib.hid hv
    obtain ⟨k, k1, k2, k3, _, k4, k5, k6, k7, k8⟩ := hasV_place hv
    obtain ⟨be, oe, p, q, rfl, hbe, c0, c1, hg⟩ := HC.out k k2
    obtain ⟨vo, vc, eo, ec, rfl, rfl⟩ := grf_shape hg
    have HB0 := Lib.hid (HSM.out.get k k2)
    have HR := Lib.hid (atH_yes hv k3 k2)
    have HG := Lib.hid hg
    have kk0 : (0 : Int) ≤ (k : Int) := by omega
    have kk1 : (k : Int) < (n : Int) := by have := HN.out; omega
    have kk2 : k < n := by have := HN.out; omega
    have hmf : m = x.f + (k : Int) := by omega
    clear hv k1 k3 hg
    generalize x.gs[k] = g at c0 c1 HG HB0 HR
    rw [HV.out, HR.out]
    go_enter Try.func26, Try.ntmps26
    have HMF := Lib.hid hmf
    clear hmf
    go_wp2_with fail
    rw [← hy]
    clear hy
    refine wp_region_held_drew (S := (fun w' => w'.cell? ⟨w.heap.size, 0, none⟩ = some (.int .i64 x.f) ∧ w'.cell? ⟨w.heap.size, 1, none⟩ = some (.slice (some ⟨be, oe, none⟩) n bc))) (by kernel_rfl) (HKC.out _ (Since.refl _).drew) (fun hHeld => ?_)
    refine take_yes 0 (some 6) (v := ?_) rfl (by kernel_rfl) (by kernel_rfl) (by kernel_rfl) (by kernel_rfl) (fun _ _ _ h => h) (by rfl) (by assumption) ?_ ?_
    rotate_left
    · (intro w' hSw; (try dsimp only at hSw); go_simp; try with_reducible rfl)
    try simp only [Act.put, List.setIfInBounds_toArray, List.set_cons_zero, List.set_cons_succ]
    refine take_run 1 rfl (by kernel_rfl) (by rfl) (fun K hK => ?_)
    go_simp
    refine (specVH_any _ x _ (HX.out.since hs0.drew) h1).mono ?_
    rintro en w6 ⟨rfl, hs6⟩
    rw [HVV.out]
    have hc6 := (Since.refl y).drew.trans hs6
    refine hK.out _ _ (HKC.out _ hc6) (fun hHeld1 => ?_)
    clear hK K hHeld
    try simp only [Act.put, List.setIfInBounds_toArray, List.set_cons_zero, List.set_cons_succ]
    refine take_yes 2 (some 8) (v := ?_) rfl (by kernel_rfl) (by kernel_rfl) (by kernel_rfl) (by kernel_rfl) (fun _ _ _ h => h) (by rfl) (by assumption) ?_ ?_
    rotate_left
    · (intro w' hSw; (try dsimp only at hSw); go_simp; try with_reducible rfl)
    try simp only [Act.put, List.setIfInBounds_toArray, List.set_cons_zero, List.set_cons_succ]
    refine take_yes 3 (some 9) (v := ?_) rfl (by kernel_rfl) (by kernel_rfl) (by kernel_rfl) (by kernel_rfl) (fun _ _ _ h => h) (by rfl) (by assumption) ?_ ?_
    rotate_left
    · (intro w' hSw; (try dsimp only at hSw); go_simp; try with_reducible rfl)
    try simp only [Act.put, List.setIfInBounds_toArray, List.set_cons_zero, List.set_cons_succ]
    refine take_yes 4 (some 10) (v := ?_) rfl (by kernel_rfl) (by kernel_rfl) (by kernel_rfl) (by kernel_rfl) (fun _ _ _ h => h) (by rfl) (by assumption) ?_ ?_
    rotate_left
    · (intro w' hSw; (try dsimp only at hSw); go_simp; try with_reducible rfl)
    try simp only [Act.put, List.setIfInBounds_toArray, List.set_cons_zero, List.set_cons_succ]
    refine take_yes 5 (some 11) (v := ?_) rfl (by kernel_rfl) (by kernel_rfl) (by kernel_rfl) (by kernel_rfl) (fun _ _ _ h => h) (by rfl) (by assumption) ?_ ?_
    rotate_left
    · (intro w' hSw; (try dsimp only at hSw); go_simp; try with_reducible rfl)
    try simp only [Act.put, List.setIfInBounds_toArray, List.set_cons_zero, List.set_cons_succ]
    refine take_yes 6 (some 12) (v := ?_) rfl (by kernel_rfl) (by kernel_rfl) (by kernel_rfl) (by kernel_rfl) (fun _ _ _ h => h) (by rfl) (by assumption) ?_ ?_
    rotate_left
    · (intro w' hSw; (try dsimp only at hSw); go_simp; try with_reducible rfl)
    try simp only [Act.put, List.setIfInBounds_toArray, List.set_cons_zero, List.set_cons_succ]
    refine take_yes 7 (some 13) (v := ?_) rfl (by kernel_rfl) (by kernel_rfl) (by kernel_rfl) (by kernel_rfl) (fun _ _ _ h => h) (by rfl) (by assumption) ?_ ?_
    rotate_left
    · (intro w' hSw; (try dsimp only at hSw); go_simp; try with_reducible rfl)
    try simp only [Act.put, List.setIfInBounds_toArray, List.set_cons_zero, List.set_cons_succ]
    refine take_run 8 rfl (by kernel_rfl) (by rfl) (fun K hK => ?_)
    go_simp
    refine (specLV_any _ x _ (HX.out.since (hs0.trans hc6)) h1).mono ?_
    rintro en w7 ⟨rfl, hs7⟩
    have hc7 := hc6.trans hs7
    refine hK.out _ _ (HKC.out _ hc7) (fun hHeld2 => ?_)
    clear hK K hHeld1
    try simp only [Act.put, List.setIfInBounds_toArray, List.set_cons_zero, List.set_cons_succ]
    refine take_run 9 rfl (by kernel_rfl) (by rfl) (fun K hK => ?_)
    go_simp
    refine (l1In_any m x.f (latH x) _).mono ?_
    rintro en w8 ⟨rfl, rfl⟩
    rw [HIC.out]
    refine hK.out _ _ (HKC.out _ hc7) (fun hHeld3 => ?_)
    clear hK K hHeld2
    try simp only [Act.put, List.setIfInBounds_toArray, List.set_cons_zero, List.set_cons_succ]
    refine take_yes 10 (some 16) (v := ?_) rfl (by kernel_rfl) (by kernel_rfl) (by kernel_rfl) (by kernel_rfl) (fun _ _ _ h => h) (by rfl) (by assumption) ?_ ?_
    rotate_left
    · (intro w' hSw; (try dsimp only at hSw); go_simp; try with_reducible rfl)
    try simp only [Act.put, List.setIfInBounds_toArray, List.set_cons_zero, List.set_cons_succ]
    refine take_yes 11 (some 17) (v := ?_) rfl (by kernel_rfl) (by kernel_rfl) (by kernel_rfl) (by kernel_rfl) (fun _ _ _ h => h) (by rfl) (by assumption) ?_ ?_
    rotate_left
    · (intro w' hSw; (try dsimp only at hSw); go_simp; try with_reducible rfl)
    try simp only [Act.put, List.setIfInBounds_toArray, List.set_cons_zero, List.set_cons_succ]
    refine wpAnyH_done (by kernel_rfl) ?_ _
    clear hHeld3
    have hs07 := hs0.trans hc7
    obtain ⟨p0, p1⟩ := HKC.out _ hc7
    have s1 := since_cells hs07 hbe
    rw [← s1] at c0 c1
    have hkm : m - x.f = (k : Int) := by rw [HMF.out]; omega
    clear s1
    go_wp2_with fail
    clear p0 p1 c0 c1 hkm
    refine (l3Copy_any _ g _ (HG.out.since hs07) HB0.out.1 HB0.out.2).mono ?_
    rintro en w9 ⟨v2, rfl, ho2, hs9⟩
    obtain ⟨pa, pb, rfl, ka, ra, kb, rb⟩ := ho2
    obtain ⟨ao, ac, rfl⟩ := ka.len
    obtain ⟨zo, zc, rfl⟩ := kb.len
    have KA := Lib.hid ka
    have KB := Lib.hid kb
    have hs09 := hs07.trans hs9
    have hzw := hc7.size
    obtain ⟨r0, r1, r2, r3⟩ := (BR.out.since (hc7.trans hs9)).two
    clear ka kb ra rb
    go_wp2
    refine bodyPost_ret (v := .tuple #[.agg #[.slice ao g.vs.length ac, .slice zo g.es.length zc], .bool true]) (by simp [results, Try.results26, go_sem, *]) rfl ?_
    refine gbOut_mk rfl (by cases g; rfl) (((KA.out.far (by simp; omega) _).far (by simp; omega) _).mono (by omega)) (((KB.out.far (by simp; omega) _).far (by simp; omega) _).mono (by omega)) ?_
    exact (hs09.setCell (by simp) _).setCell (by simp) _
theorem atH_len {x : Hst} (h : SmH x) (m : Int) : (atH x m).vs.length ≤ 2097154 ∧ (atH x m).es.length ≤ 2097154 := by
  rcases Bool.eq_false_or_eq_true (hasV x m) with hv | hv
  · obtain ⟨k, _, k2, k3, _⟩ := hasV_place hv
    rw [atH_yes hv k3 k2]
    have := h.get k k2
    omega
  · rw [atH_no hv]; exact ⟨by simp [zeroGr], by simp [zeroGr]⟩
end Go.Proofs.Ytgdeiecbkmhbeaa
