/- The model's drawing of two expressions: l8Two, DrawConcatExpr. -/
import Derived.Test.YtiojgahjfndmdaaDoorL7
import Derived.Test.YtiojgahjfndmdaaDoorDrawY
import Derived.Test.YtiojgahjfndmdaaDoorDraw2
import Derived.Test.YtiojgahjfndmdaaDoorXd
namespace Go.Proofs.YtiojgahjfndmdaaDoor
set_option maxRecDepth 100000
open Go.ChangeShapes Go.WideShapes Go.ChangeAt Go.RowKit
set_option linter.unusedVariables false
set_option linter.unusedSimpArgs false

/-- What l8Two and DrawConcatExpr give. -/
def DrawTwo (w : World) (e : Ending) (w' : World) : Prop := ∃ v u xs ys, e = .returned (.tuple #[v, u]) ∧ ExC w' v xs ∧ xs.length ≤ 26 ∧ ExC w' u ys ∧ ys.length ≤ 26 ∧ Since w w'
theorem exC_farX {w : World} {X n c m d : Nat} {o q : Option Addr} {xs : List Tok} (h : ExC w (.agg #[.slice q m d]) xs) (hB : Blk w X 26 #[.slice o n c]) (u : Value) : ExC (w.setCell ⟨X, 0, none⟩ u) (.agg #[.slice q m d]) xs := by
  obtain ⟨⟨b, e, hb⟩, hp⟩ := h
  injection e with e; injection e with e; injection e with e
  subst e
  exact ⟨⟨_, rfl, toks_farS hb hB _⟩, hp⟩
set_option maxHeartbeats 4000000 in
set_option maxRecDepth 100000 in
theorem l8Two_any (B : Nat) (w : World) (v : Value) (hB : B ≤ w.heap.size) (hv : CodeIn B w v) : Calls Tryd.prog 55 #[v] w (DrawTwo w) := by
  obtain ⟨y, hy⟩ : ∃ y, y = (w.alloc (.cells #[.slice none 0 0] 26)).alloc (.cells #[.slice none 0 0] 26) := ⟨_, rfl⟩
  have hs0 : Since w y := by rw [hy]; exact ((Since.refl w).alloc _).alloc _
  have hyz : w.heap.size + 2 = y.heap.size := by rw [hy]; simp
  have BR : Hid (Blk y w.heap.size 26 #[.slice none 0 0]) := by
    rw [hy]; exact (Blk.new rfl _ _ : Blk (w.alloc _) _ _ _).since ((Since.refl _).alloc _)
  have BQ : Hid (Blk y (w.heap.size + 1) 26 #[.slice none 0 0]) := by rw [hy]; exact Blk.new (by simp) _ _
  have HV := Lib.hid (hv.since hs0)
  obtain ⟨ao, len, cap, rfl, hlen, hcode⟩ := hv
  clear hcode hlen
  go_enter Tryd.func55, Tryd.ntmps55
  go_wp2_with fail
  rw [← hy]
  clear hy
  refine (l1New_any B _ _ (by omega) HV.out).mono ?_
  rintro e w1 ⟨cb, rfl, hcb, hc1, hs1⟩
  have HC1 := Lib.hid hc1
  have BR1 := Lib.hid (BR.out.since hs1)
  have BQ1 := Lib.hid (BQ.out.since hs1)
  have hs01 := hs0.trans hs1
  clear hc1
  go_wp2_with fail
  refine (l8Any_any B cb _ HC1.out).mono ?_
  rintro e w2 ⟨v2, xs, rfl, hx, hl, hc2, ht2⟩
  have hs02 := hs01.turn (by omega) ht2
  have BR2 := Lib.hid (BR1.out.turnX ht2 (by omega))
  have BQ2 := Lib.hid (BQ1.out.turnX ht2 (by omega))
  obtain ⟨ao2, ac2, rfl, hta, hac⟩ := hx.open
  obtain ⟨n2, hn2⟩ : ∃ n, n = xs.length := ⟨_, rfl⟩
  rw [← hn2] at hta hac hx ⊢
  have HN := Lib.hid hn2
  have hcb2 : cb < w2.heap.size := hc2.2.1
  obtain ⟨y3, hy3⟩ : ∃ y, y = w2.alloc (.cells #[.slice ao2 n2 ac2] 26) := ⟨_, rfl⟩
  have al3 : Since w2 y3 := by rw [hy3]; exact (Since.refl w2).alloc _
  have BX : Hid (Blk y3 w2.heap.size 26 #[.slice ao2 n2 ac2]) := by rw [hy3]; exact Blk.new rfl _ _
  have BR3 := Lib.hid (BR2.out.since al3)
  have BQ3 := Lib.hid (BQ2.out.since al3)
  have HX3 := Lib.hid (exC_since hx al3)
  have HC3 := Lib.hid (hc2.since al3)
  have hs03 := hs02.trans al3
  clear hn2 hx hc2 hta
  go_wp2_with fail
  rw [← hy3]
  clear hy3
  refine (l1Once_any B cb 5 _ HC3.out (by decide) (by decide)).mono ?_
  rintro e w4 ⟨bb, rfl, hc4, ht4⟩
  have HC4 := Lib.hid hc4
  have BR4 := Lib.hid (BR3.out.turnX ht4 (by omega))
  have BQ4 := Lib.hid (BQ3.out.turnX ht4 (by omega))
  have BX4 := Lib.hid (BX.out.turnX ht4 (by omega))
  have HX4 := Lib.hid (exC_turn HX3.out HC3.out ht4)
  have hs04 := hs03.turn (by omega) ht4
  have hwX : w.heap.size + 1 < w2.heap.size := by have := hs02.size; have := BQ2.out.lt; omega
  clear hc4 ht4
  have HKC : Hid (∀ w', Blk w' w2.heap.size 26 #[.slice ao2 n2 ac2] → w'.cell? ⟨w2.heap.size, 0, none⟩ = some (.slice ao2 n2 ac2)) := fun w' hb => hb.one.1
  cases bb with
  | true =>
    go_upto_region 4 with fail
    refine wp_region_held_drew (S := (fun w' => w'.cell? ⟨w2.heap.size, 0, none⟩ = some (.slice ao2 n2 ac2))) (by kernel_rfl) (HKC.out _ BX4.out.drew) (fun hHeld => ?_)
    refine take_yes 0 (some 12) (v := ?_) rfl (by kernel_rfl) (by kernel_rfl) (by kernel_rfl) (by kernel_rfl) (fun _ _ _ h => h) (by rfl) (by assumption) ?_ ?_
    rotate_left
    · (intro w' hSw; (try dsimp only at hSw); go_simp; try with_reducible rfl)
    try simp only [Act.put, List.setIfInBounds_toArray, List.set_cons_zero, List.set_cons_succ]
    refine take_yes 1 (some 13) (v := ?_) rfl (by kernel_rfl) (by kernel_rfl) (by kernel_rfl) (by kernel_rfl) (fun _ _ _ h => h) (by rfl) (by assumption) ?_ ?_
    rotate_left
    · (intro w' hSw; (try dsimp only at hSw); go_simp; try with_reducible rfl)
    try simp only [Act.put, List.setIfInBounds_toArray, List.set_cons_zero, List.set_cons_succ]
    refine take_yes 2 (some 14) (v := ?_) rfl (by kernel_rfl) (by kernel_rfl) (by kernel_rfl) (by kernel_rfl) (fun _ _ _ h => h) (by rfl) (by assumption) ?_ ?_
    rotate_left
    · (intro w' hSw; (try dsimp only at hSw); go_simp; try with_reducible rfl)
    try simp only [Act.put, List.setIfInBounds_toArray, List.set_cons_zero, List.set_cons_succ]
    refine take_run 3 rfl (by kernel_rfl) (by rfl) (fun K hK => ?_)
    go_simp
    refine (l8Copy_any (.slice ao2 n2 ac2) xs _ (by
      obtain ⟨⟨b, e, hb⟩, _⟩ := HX4.out
      injection e with e; injection e with e; injection e with e
      subst e
      exact hb.since (Since.refl w4).drew) (by omega)).mono ?_
    rintro e w5 ⟨u5, rfl, hu5x, hs5⟩
    have hu5 := hu5x.atC
    clear hu5x
    have hs45 := (Since.refl w4).drew.trans hs5
    have BX5 := Lib.hid (BX4.out.since hs45)
    have BR5 := Lib.hid (BR4.out.since hs45)
    have BQ5 := Lib.hid (BQ4.out.since hs45)
    have HX5 := Lib.hid (exC_since HX4.out hs45)
    have hs05 := hs04.trans hs45
    clear hs5 hs45
    obtain ⟨uo, uc, rfl, _, _⟩ := hu5.open
    obtain ⟨un, hun⟩ : ∃ n, n = xs.length := ⟨_, rfl⟩
    rw [← hun] at hu5 ⊢
    have HU5 := Lib.hid hu5
    have HUN := Lib.hid hun
    refine hK.out _ _ (HKC.out _ BX5.out) (fun hHeld5 => ?_)
    clear hK K hHeld hu5 hun
    try simp only [Act.put, List.setIfInBounds_toArray, List.set_cons_zero, List.set_cons_succ]
    refine take_run 4 rfl (by kernel_rfl) (by rfl) (fun K hK => ?_)
    obtain ⟨q0, q1⟩ := BR5.out.one
    go_simp
    clear q0 q1
    have hne : w2.heap.size ≠ w.heap.size := by omega
    have BX6 := Lib.hid (BX5.out.far (p := ⟨w.heap.size, 0, none⟩) (by show w2.heap.size ≠ w.heap.size; omega) (.slice ao2 n2 ac2))
    have BR6 := Lib.hid (BR5.out.set 0 (.slice ao2 n2 ac2))
    have BQ6 := Lib.hid (BQ5.out.far (p := ⟨w.heap.size, 0, none⟩) (by show (w.heap.size + 1) ≠ w.heap.size; omega) (.slice ao2 n2 ac2))
    have HX6 := Lib.hid (exC_farX HX5.out BR5.out (.slice ao2 n2 ac2))
    have HU6 := Lib.hid (exC_farX HU5.out BR5.out (.slice ao2 n2 ac2))
    have hs06 := hs05.setCell (a := ⟨w.heap.size, 0, none⟩) (by show w.heap.size ≤ w.heap.size; omega) (.slice ao2 n2 ac2)
    clear hne
    refine hK.out _ _ (HKC.out _ BX6.out) (fun hHeld6 => ?_)
    clear hK K hHeld5
    try simp only [Act.put, List.setIfInBounds_toArray, List.set_cons_zero, List.set_cons_succ]
    refine take_run 5 rfl (by kernel_rfl) (by rfl) (fun K hK => ?_)
    obtain ⟨q0, q1⟩ := BQ6.out.one
    go_simp
    clear q0 q1
    have hne : w2.heap.size ≠ (w.heap.size + 1) := by omega
    have BX7 := Lib.hid (BX6.out.far (p := ⟨(w.heap.size + 1), 0, none⟩) (by show w2.heap.size ≠ (w.heap.size + 1); omega) (.slice uo un uc))
    have BQ7 := Lib.hid (BQ6.out.set 0 (.slice uo un uc))
    have BR7 := Lib.hid (BR6.out.far (p := ⟨(w.heap.size + 1), 0, none⟩) (by show w.heap.size ≠ (w.heap.size + 1); omega) (.slice uo un uc))
    have HX7 := Lib.hid (exC_farX HX6.out BQ6.out (.slice uo un uc))
    have HU7 := Lib.hid (exC_farX HU6.out BQ6.out (.slice uo un uc))
    have hs07 := hs06.setCell (a := ⟨(w.heap.size + 1), 0, none⟩) (by show w.heap.size ≤ (w.heap.size + 1); omega) (.slice uo un uc)
    clear hne
    refine hK.out _ _ (HKC.out _ BX7.out) (fun hHeld7 => ?_)
    clear hK K hHeld6
    try simp only [Act.put, List.setIfInBounds_toArray, List.set_cons_zero, List.set_cons_succ]
    refine wpAnyH_done (by kernel_rfl) ?_ _
    clear hHeld7 HKC
    obtain ⟨w9, hw9⟩ : ∃ w9, w9 = (w5.setCell ⟨w.heap.size, 0, none⟩ (.slice ao2 n2 ac2)).setCell ⟨w.heap.size + 1, 0, none⟩ (.slice uo un uc) := ⟨_, rfl⟩
    rw [← hw9] at BX7 BR7 BQ7 HX7 HU7 hs07 ⊢
    clear hw9
    obtain ⟨r0, r1⟩ := BR7.out.one
    obtain ⟨r2, r3⟩ := BQ7.out.one
    go_wp2
    refine bodyPost_ret (v := .tuple #[.agg #[.slice ao2 n2 ac2], .agg #[.slice uo un uc]]) (by simp [results, Tryd.results55, go_sem, *]) rfl ?_
    exact ⟨_, _, xs, xs, rfl, HX7.out, hl, HU7.out, hl, hs07⟩
  | false =>
    go_upto_region 5 with fail
    refine wp_region_held_drew (S := (fun w' => w'.cell? ⟨w2.heap.size, 0, none⟩ = some (.slice ao2 n2 ac2))) (by kernel_rfl) (HKC.out _ BX4.out.drew) (fun hHeld => ?_)
    refine take_yes 0 (some 16) (v := ?_) rfl (by kernel_rfl) (by kernel_rfl) (by kernel_rfl) (by kernel_rfl) (fun _ _ _ h => h) (by rfl) (by assumption) ?_ ?_
    rotate_left
    · (intro w' hSw; (try dsimp only at hSw); go_simp; try with_reducible rfl)
    try simp only [Act.put, List.setIfInBounds_toArray, List.set_cons_zero, List.set_cons_succ]
    refine take_yes 1 (some 17) (v := ?_) rfl (by kernel_rfl) (by kernel_rfl) (by kernel_rfl) (by kernel_rfl) (fun _ _ _ h => h) (by rfl) (by assumption) ?_ ?_
    rotate_left
    · (intro w' hSw; (try dsimp only at hSw); go_simp; try with_reducible rfl)
    try simp only [Act.put, List.setIfInBounds_toArray, List.set_cons_zero, List.set_cons_succ]
    refine take_run 2 rfl (by kernel_rfl) (by rfl) (fun K hK => ?_)
    go_simp
    refine (l8Any_any B cb _ (HC4.out.since (Since.refl w4).drew)).mono ?_
    rintro e w5 ⟨u5, ys, rfl, hu5, hly, hc5, ht5⟩
    have hs4 := (Since.refl w4).drew
    have BX5 := Lib.hid ((BX4.out.since hs4).turnX ht5 (by omega))
    have BR5 := Lib.hid ((BR4.out.since hs4).turnX ht5 (by omega))
    have BQ5 := Lib.hid ((BQ4.out.since hs4).turnX ht5 (by omega))
    have HX5 := Lib.hid (exC_turn (exC_since HX4.out hs4) (HC4.out.since hs4) ht5)
    have hs05 := (hs04.trans hs4).turn (by omega) ht5
    clear hs4 hc5 ht5
    obtain ⟨uo, uc, rfl, _, _⟩ := hu5.open
    obtain ⟨un, hun⟩ : ∃ n, n = ys.length := ⟨_, rfl⟩
    rw [← hun] at hu5 ⊢
    have HU5 := Lib.hid hu5
    have HUN := Lib.hid hun
    refine hK.out _ _ (HKC.out _ BX5.out) (fun hHeld5 => ?_)
    clear hK K hHeld hu5 hun
    try simp only [Act.put, List.setIfInBounds_toArray, List.set_cons_zero, List.set_cons_succ]
    refine take_run 3 rfl (by kernel_rfl) (by rfl) (fun K hK => ?_)
    obtain ⟨q0, q1⟩ := BR5.out.one
    go_simp
    clear q0 q1
    have hne : w2.heap.size ≠ w.heap.size := by omega
    have BX6 := Lib.hid (BX5.out.far (p := ⟨w.heap.size, 0, none⟩) (by show w2.heap.size ≠ w.heap.size; omega) (.slice ao2 n2 ac2))
    have BR6 := Lib.hid (BR5.out.set 0 (.slice ao2 n2 ac2))
    have BQ6 := Lib.hid (BQ5.out.far (p := ⟨w.heap.size, 0, none⟩) (by show (w.heap.size + 1) ≠ w.heap.size; omega) (.slice ao2 n2 ac2))
    have HX6 := Lib.hid (exC_farX HX5.out BR5.out (.slice ao2 n2 ac2))
    have HU6 := Lib.hid (exC_farX HU5.out BR5.out (.slice ao2 n2 ac2))
    have hs06 := hs05.setCell (a := ⟨w.heap.size, 0, none⟩) (by show w.heap.size ≤ w.heap.size; omega) (.slice ao2 n2 ac2)
    clear hne
    refine hK.out _ _ (HKC.out _ BX6.out) (fun hHeld6 => ?_)
    clear hK K hHeld5
    try simp only [Act.put, List.setIfInBounds_toArray, List.set_cons_zero, List.set_cons_succ]
    refine take_run 4 rfl (by kernel_rfl) (by rfl) (fun K hK => ?_)
    obtain ⟨q0, q1⟩ := BQ6.out.one
    go_simp
    clear q0 q1
    have hne : w2.heap.size ≠ (w.heap.size + 1) := by omega
    have BX7 := Lib.hid (BX6.out.far (p := ⟨(w.heap.size + 1), 0, none⟩) (by show w2.heap.size ≠ (w.heap.size + 1); omega) (.slice uo un uc))
    have BQ7 := Lib.hid (BQ6.out.set 0 (.slice uo un uc))
    have BR7 := Lib.hid (BR6.out.far (p := ⟨(w.heap.size + 1), 0, none⟩) (by show w.heap.size ≠ (w.heap.size + 1); omega) (.slice uo un uc))
    have HX7 := Lib.hid (exC_farX HX6.out BQ6.out (.slice uo un uc))
    have HU7 := Lib.hid (exC_farX HU6.out BQ6.out (.slice uo un uc))
    have hs07 := hs06.setCell (a := ⟨(w.heap.size + 1), 0, none⟩) (by show w.heap.size ≤ (w.heap.size + 1); omega) (.slice uo un uc)
    clear hne
    refine hK.out _ _ (HKC.out _ BX7.out) (fun hHeld7 => ?_)
    clear hK K hHeld6
    try simp only [Act.put, List.setIfInBounds_toArray, List.set_cons_zero, List.set_cons_succ]
    refine wpAnyH_done (by kernel_rfl) ?_ _
    clear hHeld7 HKC
    obtain ⟨w9, hw9⟩ : ∃ w9, w9 = (w5.setCell ⟨w.heap.size, 0, none⟩ (.slice ao2 n2 ac2)).setCell ⟨w.heap.size + 1, 0, none⟩ (.slice uo un uc) := ⟨_, rfl⟩
    rw [← hw9] at BX7 BR7 BQ7 HX7 HU7 hs07 ⊢
    clear hw9
    obtain ⟨r0, r1⟩ := BR7.out.one
    obtain ⟨r2, r3⟩ := BQ7.out.one
    go_wp2
    refine bodyPost_ret (v := .tuple #[.agg #[.slice ao2 n2 ac2], .agg #[.slice uo un uc]]) (by simp [results, Tryd.results55, go_sem, *]) rfl ?_
    exact ⟨_, _, xs, ys, rfl, HX7.out, hl, HU7.out, hly, hs07⟩
set_option maxHeartbeats 4000000 in
set_option maxRecDepth 100000 in
theorem drawCE_any (B : Nat) (w : World) (v : Value) (hB : B ≤ w.heap.size) (hv : CodeIn B w v) : Calls Tryd.prog 13 #[v] w (DrawTwo w) := by
  obtain ⟨y, hy⟩ : ∃ y, y = (w.alloc (.cells #[.slice none 0 0] 26)).alloc (.cells #[.slice none 0 0] 26) := ⟨_, rfl⟩
  have hs0 : Since w y := by rw [hy]; exact ((Since.refl w).alloc _).alloc _
  have hyz : w.heap.size + 2 = y.heap.size := by rw [hy]; simp
  have BR : Hid (Blk y w.heap.size 26 #[.slice none 0 0]) := by
    rw [hy]; exact (Blk.new rfl _ _ : Blk (w.alloc _) _ _ _).since ((Since.refl _).alloc _)
  have BQ : Hid (Blk y (w.heap.size + 1) 26 #[.slice none 0 0]) := by rw [hy]; exact Blk.new (by simp) _ _
  have HV := Lib.hid (hv.since hs0)
  obtain ⟨ao, len, cap, rfl, hlen, hcode⟩ := hv
  clear hcode hlen
  go_enter Tryd.func13, Tryd.ntmps13
  go_wp2_with fail
  rw [← hy]
  clear hy
  refine (l8Two_any B _ _ (by omega) HV.out).mono ?_
  rintro e w2 ⟨v2, u2, xs, ys, rfl, hx, hl, hu, hlu, hs2⟩
  have hs02 := hs0.trans hs2
  have BR2 := Lib.hid (BR.out.since hs2)
  have BQ2 := Lib.hid (BQ.out.since hs2)
  obtain ⟨ao2, ac2, rfl, _, _⟩ := hx.open
  obtain ⟨uo, uc, rfl, _, _⟩ := hu.open
  obtain ⟨n2, hn2⟩ : ∃ n, n = xs.length := ⟨_, rfl⟩
  rw [← hn2] at hx ⊢
  obtain ⟨un, hun⟩ : ∃ n, n = ys.length := ⟨_, rfl⟩
  rw [← hun] at hu ⊢
  obtain ⟨y3, hy3⟩ : ∃ y, y = (w2.alloc (.cells #[.slice ao2 n2 ac2] 26)).alloc (.cells #[.slice uo un uc] 26) := ⟨_, rfl⟩
  have al3 : Since w2 y3 := by rw [hy3]; exact ((Since.refl w2).alloc _).alloc _
  have BX3 : Hid (Blk y3 w2.heap.size 26 #[.slice ao2 n2 ac2]) := by rw [hy3]; exact (Blk.new rfl _ _ : Blk (w2.alloc _) _ _ _).since ((Since.refl _).alloc _)
  have BY3 : Hid (Blk y3 (w2.heap.size + 1) 26 #[.slice uo un uc]) := by rw [hy3]; exact Blk.new (by simp) _ _
  have al4 := al3.drew
  have HX5 := Lib.hid (exC_since hx al4)
  have HU5 := Lib.hid (exC_since hu al4)
  have BR5 := Lib.hid (BR2.out.since al4)
  have BQ5 := Lib.hid (BQ2.out.since al4)
  have BX5 := Lib.hid (BX3.out.since (Since.refl y3).drew)
  have BY5 := Lib.hid (BY3.out.since (Since.refl y3).drew)
  have hs05 := hs02.trans al4
  have hwX : w.heap.size + 1 < w2.heap.size := by have := hs02.size; have := BQ2.out.lt; omega
  clear hn2 hun hx hu al4 al3
  go_upto_region 2 with fail
  rw [← hy3]
  clear hy3
  have HKC : Hid (∀ w', Blk w' w2.heap.size 26 #[.slice ao2 n2 ac2] → Blk w' (w2.heap.size + 1) 26 #[.slice uo un uc] → w'.cell? ⟨w2.heap.size, 0, none⟩ = some (.slice ao2 n2 ac2) ∧ w'.cell? ⟨(w2.heap.size + 1), 0, none⟩ = some (.slice uo un uc)) := fun w' hb hd => ⟨hb.one.1, hd.one.1⟩
  refine wp_region_held_drew (S := (fun w' => w'.cell? ⟨w2.heap.size, 0, none⟩ = some (.slice ao2 n2 ac2) ∧ w'.cell? ⟨(w2.heap.size + 1), 0, none⟩ = some (.slice uo un uc))) (by kernel_rfl) (HKC.out _ BX5.out BY5.out) (fun hHeld5 => ?_)
  refine take_yes 0 (some 11) (v := ?_) rfl (by kernel_rfl) (by kernel_rfl) (by kernel_rfl) (by kernel_rfl) (fun _ _ _ h => h) (by rfl) (by assumption) ?_ ?_
  rotate_left
  · (intro w' hSw; (try dsimp only at hSw); go_simp; try with_reducible rfl)
  try simp only [Act.put, List.setIfInBounds_toArray, List.set_cons_zero, List.set_cons_succ]
  refine take_yes 1 (some 12) (v := ?_) rfl (by kernel_rfl) (by kernel_rfl) (by kernel_rfl) (by kernel_rfl) (fun _ _ _ h => h) (by rfl) (by assumption) ?_ ?_
  rotate_left
  · (intro w' hSw; (try dsimp only at hSw); go_simp; try with_reducible rfl)
  try simp only [Act.put, List.setIfInBounds_toArray, List.set_cons_zero, List.set_cons_succ]
  generalize y3.drew = w5 at BX5 BY5 BR5 BQ5 HX5 HU5 hs05 hHeld5 ⊢
  refine take_run 2 rfl (by kernel_rfl) (by rfl) (fun K hK => ?_)
  obtain ⟨q0, q1⟩ := BR5.out.one
  go_simp
  clear q0 q1
  have BX6 := Lib.hid (BX5.out.far (p := ⟨w.heap.size, 0, none⟩) (by show w2.heap.size ≠ w.heap.size; omega) (.slice ao2 n2 ac2))
  have BY6 := Lib.hid (BY5.out.far (p := ⟨w.heap.size, 0, none⟩) (by show w2.heap.size + 1 ≠ w.heap.size; omega) (.slice ao2 n2 ac2))
  have BR6 := Lib.hid (BR5.out.set 0 (.slice ao2 n2 ac2))
  have BQ6 := Lib.hid (BQ5.out.far (p := ⟨w.heap.size, 0, none⟩) (by show (w.heap.size + 1) ≠ w.heap.size; omega) (.slice ao2 n2 ac2))
  have HX6 := Lib.hid (exC_farX HX5.out BR5.out (.slice ao2 n2 ac2))
  have HU6 := Lib.hid (exC_farX HU5.out BR5.out (.slice ao2 n2 ac2))
  have hs06 := hs05.setCell (a := ⟨w.heap.size, 0, none⟩) (by show w.heap.size ≤ w.heap.size; omega) (.slice ao2 n2 ac2)
  refine hK.out _ _ (HKC.out _ BX6.out BY6.out) (fun hHeld6 => ?_)
  clear hK K hHeld5
  try simp only [Act.put, List.setIfInBounds_toArray, List.set_cons_zero, List.set_cons_succ]
  refine take_run 3 rfl (by kernel_rfl) (by rfl) (fun K hK => ?_)
  obtain ⟨q0, q1⟩ := BQ6.out.one
  go_simp
  clear q0 q1
  have BX7 := Lib.hid (BX6.out.far (p := ⟨(w.heap.size + 1), 0, none⟩) (by show w2.heap.size ≠ (w.heap.size + 1); omega) (.slice uo un uc))
  have BY7 := Lib.hid (BY6.out.far (p := ⟨(w.heap.size + 1), 0, none⟩) (by show w2.heap.size + 1 ≠ (w.heap.size + 1); omega) (.slice uo un uc))
  have BQ7 := Lib.hid (BQ6.out.set 0 (.slice uo un uc))
  have BR7 := Lib.hid (BR6.out.far (p := ⟨(w.heap.size + 1), 0, none⟩) (by show w.heap.size ≠ (w.heap.size + 1); omega) (.slice uo un uc))
  have HX7 := Lib.hid (exC_farX HX6.out BQ6.out (.slice uo un uc))
  have HU7 := Lib.hid (exC_farX HU6.out BQ6.out (.slice uo un uc))
  have hs07 := hs06.setCell (a := ⟨(w.heap.size + 1), 0, none⟩) (by show w.heap.size ≤ (w.heap.size + 1); omega) (.slice uo un uc)
  refine hK.out _ _ (HKC.out _ BX7.out BY7.out) (fun hHeld7 => ?_)
  clear hK K hHeld6
  try simp only [Act.put, List.setIfInBounds_toArray, List.set_cons_zero, List.set_cons_succ]
  refine wpAnyH_done (by kernel_rfl) ?_ _
  clear hHeld7 HKC
  obtain ⟨w9, hw9⟩ : ∃ w9, w9 = (w5.setCell ⟨w.heap.size, 0, none⟩ (.slice ao2 n2 ac2)).setCell ⟨w.heap.size + 1, 0, none⟩ (.slice uo un uc) := ⟨_, rfl⟩
  rw [← hw9] at BX7 BR7 BQ7 HX7 HU7 hs07 ⊢
  clear hw9
  obtain ⟨r0, r1⟩ := BR7.out.one
  obtain ⟨r2, r3⟩ := BQ7.out.one
  go_wp2
  refine bodyPost_ret (v := .tuple #[.agg #[.slice ao2 n2 ac2], .agg #[.slice uo un uc]]) (by simp [results, Tryd.results13, go_sem, *]) rfl ?_
  exact ⟨_, _, xs, ys, rfl, HX7.out, hl, HU7.out, hlu, hs07⟩
end Go.Proofs.YtiojgahjfndmdaaDoor
