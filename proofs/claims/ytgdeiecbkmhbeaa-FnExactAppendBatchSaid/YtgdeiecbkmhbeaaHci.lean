/- The program's copyHistory. -/
import Derived.Test.YtgdeiecbkmhbeaaHcp
namespace Go.Proofs.Ytgdeiecbkmhbeaa
set_option maxRecDepth 100000
open Go.ChangeShapes Go.WideShapes Go.ChangeAt Go.RowKit
set_option linter.unusedVariables false
set_option linter.unusedSimpArgs false

theorem Nest.grownT {w w' : World} {row : Option Nat} {T : TypeId} (hT : T ≠ 3 ∧ T ≠ 93) (k : w.grownBy w' row) (hr : ∀ b, row = some b → ∃ cur fz, w.heap[b]? = some (.cells cur T fz)) : ∀ {lo hi : Nat} {ps : List (Value × Value)} {gs : List Grf}, Nest w lo hi ps gs → Nest w' lo hi ps gs
  | lo, hi, [], [], h => h
  | lo, hi, p :: ps, g :: gs, ⟨m, h1, h2, ⟨a, b, e, ka, ra, kb, rb⟩, h4⟩ => by
    refine ⟨m, h1, h2, ⟨a, b, e, ⟨ka.1, ka.2.kept k ?_⟩, ra, ⟨kb.1, kb.2.kept k ?_⟩, rb⟩, Nest.grownT hT k hr h4⟩
    · cases row with
      | none => cases ha : a.ownBlock with
        | none => exact .inl rfl
        | some q => exact .inr (by simp)
      | some q =>
        obtain ⟨cur, fz, hq⟩ := hr q rfl
        exact .inr (other_type ka.2 hq (fun e => hT.1 e.symm))
    · cases row with
      | none => cases ha : b.ownBlock with
        | none => exact .inl rfl
        | some q => exact .inr (by simp)
      | some q =>
        obtain ⟨cur, fz, hq⟩ := hr q rfl
        exact .inr (other_type kb.2 hq (fun e => hT.2 e.symm))
  | _, _, [], _ :: _, h => h.elim
  | _, _, _ :: _, [], h => h.elim
theorem setCell_grownG (w : World) (B i : Nat) (u : Value) : w.grownBy (w.setCell ⟨B, i, none⟩ u) (some B) := ⟨rfl, rfl, rfl, by simp [World.setCell], fun k _ hn => Below.heap_setCell w ⟨B, i, none⟩ u k (fun e => hn (by rw [e]))⟩
/-- A cell of a history's box written: graphs stand. -/
theorem OwnR.farT {lo hi B : Nat} {w : World} {v : Value} {gs : List Grf} {cs : Array Value} (h : OwnR lo hi w v gs) (hb : Blk w B 26 cs) (i : Nat) (u : Value) : OwnR lo hi (w.setCell ⟨B, i, none⟩ u) v gs := by
  obtain ⟨ps, h1, h2, h3, h4⟩ := h
  have hg := setCell_grownG w B i u
  have hr : ∀ b, some B = some b → ∃ cur fz, w.heap[b]? = some (.cells cur 26 fz) := fun b e => by injection e with e; subst e; exact ⟨_, _, hb⟩
  exact ⟨ps, h1.kept hg (.inr (other_type h1 hb (by decide))), h2, h3, h4.grownT ⟨by decide, by decide⟩ hg hr⟩
set_option maxHeartbeats 2000000 in
set_option maxRecDepth 100000 in
theorem copyHistory_any (v : Value) (x : Hst) (w : World) (h : HstAt w v x) (h1 : SmH x) :
    Calls Try.prog 52 #[v] w (PHOut w x) := by
  obtain ⟨b, rfl, hb⟩ := h
  obtain ⟨bo, bc, rfl, HC⟩ := hb
  obtain ⟨i0, hi, hz0, hz1, hz2⟩ := info_parts info_graph
  have HZ2 := Lib.hid hz2
  clear hz2
  have HSM := Lib.hid h1
  obtain ⟨n, hn⟩ : ∃ n, n = x.gs.length := ⟨_, rfl⟩
  have hn9 : n ≤ 1048577 := by have := h1.1; omega
  have HN := Lib.hid hn
  rw [← hn]
  clear hn h1
  obtain ⟨y, hy⟩ : ∃ y, y = w.alloc (.cells #[.int .i64 x.f, .slice bo n bc] 26) := ⟨_, rfl⟩
  have hs0 : Since w y := by rw [hy]; exact (Since.refl w).alloc _
  have hz : w.heap.size + 1 = y.heap.size := by rw [hy]; simp
  have BW : Hid (Blk y w.heap.size 26 #[.int .i64 x.f, .slice bo n bc]) := by rw [hy]; exact Blk.new rfl _ _
  have HKC : Hid (∀ w', Since y w' → w'.cell? ⟨w.heap.size, 0, none⟩ = some (.int .i64 x.f) ∧ w'.cell? ⟨w.heap.size, 1, none⟩ = some (.slice bo n bc)) := by
    intro w' hs
    obtain ⟨x0, x1, _, _⟩ := (BW.out.since hs).two
    exact ⟨x0, x1⟩
  go_enter Try.func52, Try.ntmps52
  go_wp2_with fail
  rw [← hy]
  clear hy
  refine wp_region_held_drew (S := (fun w' => w'.cell? ⟨w.heap.size, 0, none⟩ = some (.int .i64 x.f) ∧ w'.cell? ⟨w.heap.size, 1, none⟩ = some (.slice bo n bc))) (by kernel_rfl) (HKC.out _ (Since.refl _).drew) (fun hHeld => ?_)
  refine take_yes 0 (some 6) (v := ?_) rfl (by kernel_rfl) (by kernel_rfl) (by kernel_rfl) (by kernel_rfl) (fun _ _ _ h => h) (by rfl) (by assumption) ?_ ?_
  rotate_left
  · (intro w' hSw; (try dsimp only at hSw); go_simp; try with_reducible rfl)
  try simp only [Act.put, List.setIfInBounds_toArray, List.set_cons_zero, List.set_cons_succ]
  refine take_yes 1 (some 7) (v := ?_) rfl (by kernel_rfl) (by kernel_rfl) (by kernel_rfl) (by kernel_rfl) (fun _ _ _ h => h) (by rfl) (by assumption) ?_ ?_
  rotate_left
  · (intro w' hSw; (try dsimp only at hSw); go_simp; try with_reducible rfl)
  try simp only [Act.put, List.setIfInBounds_toArray, List.set_cons_zero, List.set_cons_succ]
  refine take_yes 2 (some 8) (v := ?_) rfl (by kernel_rfl) (by kernel_rfl) (by kernel_rfl) (by kernel_rfl) (fun _ _ _ h => h) (by rfl) (by assumption) ?_ ?_
  rotate_left
  · (intro w' hSw; (try dsimp only at hSw); go_simp; try with_reducible rfl)
  try simp only [Act.put, List.setIfInBounds_toArray, List.set_cons_zero, List.set_cons_succ]
  refine take_yes 3 (some 9) (v := ?_) rfl (by kernel_rfl) (by kernel_rfl) (by kernel_rfl) (by kernel_rfl) (fun _ _ _ h => h) (by rfl) (by assumption) ?_ ?_
  rotate_left
  · (intro w' hSw; (try dsimp only at hSw); go_simp; try with_reducible rfl)
  try simp only [Act.put, List.setIfInBounds_toArray, List.set_cons_zero, List.set_cons_succ]
  refine take_yes 4 (some 10) (v := ?_) rfl (by kernel_rfl) (by kernel_rfl) (by kernel_rfl) (by kernel_rfl) (fun _ _ _ h => h) (by rfl) (by assumption) ?_ ?_
  rotate_left
  · (intro w' hSw; (try dsimp only at hSw); go_simp; try with_reducible rfl)
  try simp only [Act.put, List.setIfInBounds_toArray, List.set_cons_zero, List.set_cons_succ]
  refine take_run 5 rfl (by kernel_rfl) (by rfl) (fun K hK => ?_)
  refine wp_make_full _ _ _ 24 rfl y.heap.size 39 i0 (.agg #[nilV, nilV]) 2 Try.underlying24 hi hz0 hz1 .i64 .i64 _ _ n rfl rfl rfl rfl (by rw [HZ2.out]; omega) (by unfold maxLen; omega) (Nat.le_refl _) ?_
  intro w1 hown hgrow
  have hsin : Since y w1 := ((Since.refl y).drew).grown hgrow (fun _ h => by simp at h)
  have hzr : y.heap.size + 1 ≤ w1.heap.size := (hown.lt y.heap.size rfl).2
  have hF1 := Lib.hid (FillR.zero (gs := x.gs) hown hsin hzr)
  clear hown hgrow
  refine hK.out _ _ (HKC.out _ hsin) (fun hHeld1 => ?_)
  clear hK K hHeld
  try simp only [Act.put, List.setIfInBounds_toArray, List.set_cons_zero, List.set_cons_succ]
  refine take_yes 6 (some 12) (v := ?_) rfl (by kernel_rfl) (by kernel_rfl) (by kernel_rfl) (by kernel_rfl) (fun _ _ _ h => h) (by rfl) (by assumption) ?_ ?_
  rotate_left
  · (intro w' hSw; (try dsimp only at hSw); go_simp; try with_reducible rfl)
  try simp only [Act.put, List.setIfInBounds_toArray, List.set_cons_zero, List.set_cons_succ]
  refine take_run 7 rfl (by kernel_rfl) (by rfl) (fun K hK => ?_)
  go_simp
  obtain ⟨w2, hw2⟩ : ∃ W, W = w1.alloc (.cells #[.int .i64 x.f, .slice (some ⟨y.heap.size, 0, none⟩) n n] 26) := ⟨_, rfl⟩
  have hs12 : Since w1 w2 := by rw [hw2]; exact (Since.refl w1).alloc _
  obtain ⟨B, hB⟩ : ∃ B, B = w1.heap.size := ⟨_, rfl⟩
  have BX : Hid (Blk w2 B 26 #[.int .i64 x.f, .slice (some ⟨y.heap.size, 0, none⟩) n n]) := by rw [hw2]; exact Blk.new hB _ _
  have hRB : y.heap.size < B := by rw [hB]; omega
  rw [← hw2, ← hB]
  clear hw2 hB
  have hF2 := Lib.hid (hF1.out.since hs12)
  have hs2 := hsin.trans hs12
  refine hK.out _ _ (HKC.out _ hs2) (fun hHeld2 => ?_)
  clear hK K hHeld1
  try simp only [Act.put, List.setIfInBounds_toArray, List.set_cons_zero, List.set_cons_succ]
  refine take_yes 8 (some 3) (v := ?_) rfl (by kernel_rfl) (by kernel_rfl) (by kernel_rfl) (by kernel_rfl) (fun _ _ _ h => h) (by rfl) (by assumption) ?_ ?_
  rotate_left
  · (intro w' hSw; (try dsimp only at hSw); go_simp; try with_reducible rfl)
  try simp only [Act.put, List.setIfInBounds_toArray, List.set_cons_zero, List.set_cons_succ]
  refine wpAnyH_done (by kernel_rfl) ?_ _
  clear hHeld2 hF1
  obtain ⟨p0, p1⟩ := HKC.out _ hs2
  have hR2 : y.heap.size < w2.heap.size := by have := hs2.size; have := hs12.size; omega
  go_wp2_with fail
  clear p0 p1
  go_loopw [17] (fun i wr => ∃ k : Nat, k ≤ n ∧ i = .int .i64 k ∧ Hid (FillR y.heap.size y wr n k x.gs) ∧ Hid (Blk wr B 26 #[.int .i64 x.f, .slice (some ⟨y.heap.size, 0, none⟩) n n]) ∧ y.heap.size < wr.heap.size) (fun i _ => n - (intOf i).toNat)
  case atStart => exact ⟨0, Nat.zero_le _, rfl, hF2.out, BX.out, hR2⟩
  case round =>
    obtain ⟨k, hk, rfl, HF, HBX, hwz⟩ := hrel
    have hsw : Since y wr := by obtain ⟨_, _, _, _, h⟩ := HF.out; exact h
    have hs0w := hs0.trans hsw
    by_cases hlt : k < n
    · have hx : k < x.gs.length := by have := HN.out; omega
      obtain ⟨be, oe, p, q, rfl, hbe, c0, c1, hg⟩ := HC.out k hx
      obtain ⟨vo, vc, eo, ec, rfl, rfl⟩ := grf_shape hg
      have HB0 := Lib.hid (HSM.out.get k hx)
      have HG := Lib.hid (hg.since hs0w)
      have s1 := since_cells hs0w hbe
      rw [← s1] at c0 c1
      clear s1 hg
      have HSTEP : Hid (∀ (w2 : World) (p q : Value), Since wr w2 → OwnG wr.heap.size w2.heap.size w2 (.agg #[p, q]) x.gs[k] → FillR y.heap.size y ((w2.setCell ⟨y.heap.size, k * 2, none⟩ p).setCell ⟨y.heap.size, k * 2 + 1, none⟩ q) n (k + 1) x.gs) := fun w2 p q hs ho => HF.out.step (Nat.le_refl _) hwz hlt hx hs ho
      generalize x.gs[k] = g at c0 c1 HG HB0 HSTEP
      have kk0 : (0 : Int) ≤ (k : Int) := by omega
      have kk1 : (k : Int) < (n : Int) := by omega
      obtain ⟨CB, hCB⟩ : ∃ CB, CB = wr.heap.size := ⟨_, rfl⟩
      obtain ⟨y5, hy5⟩ : ∃ y5, y5 = wr.alloc (.cells #[.slice vo g.vs.length vc, .slice eo g.es.length ec] 39) := ⟨_, rfl⟩
      have hs5 : Since wr y5 := by rw [hy5]; exact (Since.refl wr).alloc _
      have BC : Hid (Blk y5 CB 39 #[.slice vo g.vs.length vc, .slice eo g.es.length ec]) := by rw [hy5]; exact Blk.new hCB _ _
      have hnC : CB ≠ y.heap.size := by omega
      have hnB : B ≠ y.heap.size := by omega
      have hz5 : wr.heap.size ≤ y5.heap.size := hs5.size
      have HKD : Hid (∀ w', Since y5 w' → w'.cell? ⟨CB, 0, none⟩ = some (.slice vo g.vs.length vc) ∧ w'.cell? ⟨CB, 1, none⟩ = some (.slice eo g.es.length ec) ∧ w'.cell? ⟨B, 1, none⟩ = some (.slice (some ⟨y.heap.size, 0, none⟩) n n)) := by
        intro w' hs
        obtain ⟨x0, x1, _, _⟩ := (BC.out.since hs).two
        obtain ⟨_, x2, _, _⟩ := (HBX.out.since (hs5.trans hs)).two
        exact ⟨x0, x1, x2⟩
      go_wp2_with fail
      rw [← hy5, ← hCB]
      clear hy5 hCB c0 c1
      refine wp_region_held_drew (S := (fun w' => w'.cell? ⟨CB, 0, none⟩ = some (.slice vo g.vs.length vc) ∧ w'.cell? ⟨CB, 1, none⟩ = some (.slice eo g.es.length ec) ∧ w'.cell? ⟨B, 1, none⟩ = some (.slice (some ⟨y.heap.size, 0, none⟩) n n))) (by kernel_rfl) (HKD.out _ (Since.refl _).drew) (fun hHeld => ?_)
      refine take_yes 0 (some 22) (v := ?_) rfl (by kernel_rfl) (by kernel_rfl) (by kernel_rfl) (by kernel_rfl) (fun _ _ _ h => h) (by rfl) (by assumption) ?_ ?_
      rotate_left
      · (intro w' hSw; (try dsimp only at hSw); go_simp; try with_reducible rfl)
      try simp only [Act.put, List.setIfInBounds_toArray, List.set_cons_zero, List.set_cons_succ]
      refine take_yes 1 (some 23) (v := ?_) rfl (by kernel_rfl) (by kernel_rfl) (by kernel_rfl) (by kernel_rfl) (fun _ _ _ h => h) (by rfl) (by assumption) ?_ ?_
      rotate_left
      · (intro w' hSw; (try dsimp only at hSw); go_simp; try with_reducible rfl)
      try simp only [Act.put, List.setIfInBounds_toArray, List.set_cons_zero, List.set_cons_succ]
      refine take_yes 2 (some 24) (v := ?_) rfl (by kernel_rfl) (by kernel_rfl) (by kernel_rfl) (by kernel_rfl) (fun _ _ _ h => h) (by rfl) (by assumption) ?_ ?_
      rotate_left
      · (intro w' hSw; (try dsimp only at hSw); go_simp; try with_reducible rfl)
      try simp only [Act.put, List.setIfInBounds_toArray, List.set_cons_zero, List.set_cons_succ]
      refine take_yes 3 (some 25) (v := ?_) rfl (by kernel_rfl) (by kernel_rfl) (by kernel_rfl) (by kernel_rfl) (fun _ _ _ h => h) (by rfl) (by assumption) ?_ ?_
      rotate_left
      · (intro w' hSw; (try dsimp only at hSw); go_simp; try with_reducible rfl)
      try simp only [Act.put, List.setIfInBounds_toArray, List.set_cons_zero, List.set_cons_succ]
      refine take_yes 4 (some 26) (v := ?_) rfl (by kernel_rfl) (by kernel_rfl) (by kernel_rfl) (by kernel_rfl) (fun _ _ _ h => h) (by rfl) (by assumption) ?_ ?_
      rotate_left
      · (intro w' hSw; (try dsimp only at hSw); go_simp; try with_reducible rfl)
      try simp only [Act.put, List.setIfInBounds_toArray, List.set_cons_zero, List.set_cons_succ]
      refine take_yes 5 (some 27) (v := ?_) rfl (by kernel_rfl) (by kernel_rfl) (by kernel_rfl) (by kernel_rfl) (fun _ _ _ h => h) (by rfl) (by assumption) ?_ ?_
      rotate_left
      · (intro w' hSw; (try dsimp only at hSw); go_simp; try with_reducible rfl)
      try simp only [Act.put, List.setIfInBounds_toArray, List.set_cons_zero, List.set_cons_succ]
      refine take_run 6 rfl (by kernel_rfl) (by rfl) (fun K hK => ?_)
      go_simp
      refine (copyGraph_any _ g _ (HG.out.since hs5.drew) HB0.out.1 HB0.out.2).mono ?_
      rintro en w6 ⟨v6, rfl, ho6, hs6⟩
      obtain ⟨pa, pb, rfl, ka, ra, kb, rb⟩ := ho6
      obtain ⟨ao, ac, rfl⟩ := ka.len
      obtain ⟨zo, zc, rfl⟩ := kb.len
      have HO6 : Hid (OwnG wr.heap.size w6.heap.size w6 (.agg #[.slice ao g.vs.length ac, .slice zo g.es.length zc]) g) := (show OwnG y5.heap.size w6.heap.size w6 _ g from ⟨_, _, rfl, ka, ra, kb, rb⟩).wider hz5 (Nat.le_refl _)
      clear ka ra kb rb
      have hc6 := (Since.refl y5).drew.trans hs6
      refine hK.out _ _ (HKD.out _ hc6) (fun hHeld1 => ?_)
      clear hK K hHeld
      try simp only [Act.put, List.setIfInBounds_toArray, List.set_cons_zero, List.set_cons_succ]
      refine take_yes 7 (some 29) (v := ?_) rfl (by kernel_rfl) (by kernel_rfl) (by kernel_rfl) (by kernel_rfl) (fun _ _ _ h => h) (by rfl) (by assumption) ?_ ?_
      rotate_left
      · (intro w' hSw; (try dsimp only at hSw); go_simp; try with_reducible rfl)
      try simp only [Act.put, List.setIfInBounds_toArray, List.set_cons_zero, List.set_cons_succ]
      refine take_run 8 rfl (by kernel_rfl) (by rfl) (fun K hK => ?_)
      obtain ⟨d0, d1, f0, f1⟩ := (HF.out.since (hs5.trans hc6)).cells hlt
      have HST := Lib.hid (HSTEP.out w6 _ _ (hs5.trans hc6) HO6.out)
      have BX7 : Hid (Blk ((w6.setCell ⟨y.heap.size, k * 2, none⟩ (.slice ao g.vs.length ac)).setCell ⟨y.heap.size, k * 2 + 1, none⟩ (.slice zo g.es.length zc)) B 26 #[.int .i64 x.f, .slice (some ⟨y.heap.size, 0, none⟩) n n]) := ((HBX.out.since (hs5.trans hc6)).far hnB _).far hnB _
      have BC7 : Hid (Blk ((w6.setCell ⟨y.heap.size, k * 2, none⟩ (.slice ao g.vs.length ac)).setCell ⟨y.heap.size, k * 2 + 1, none⟩ (.slice zo g.es.length zc)) CB 39 #[.slice vo g.vs.length vc, .slice eo g.es.length ec]) := ((BC.out.since hc6).far hnC _).far hnC _
      have hzz : y.heap.size < ((w6.setCell ⟨y.heap.size, k * 2, none⟩ (.slice ao g.vs.length ac)).setCell ⟨y.heap.size, k * 2 + 1, none⟩ (.slice zo g.es.length zc)).heap.size := by have := hc6.size; simp; omega
      go_simp
      clear d0 d1 f0 f1
      obtain ⟨wz, hwz⟩ : ∃ W, W = ((w6.setCell ⟨y.heap.size, k * 2, none⟩ (.slice ao g.vs.length ac)).setCell ⟨y.heap.size, k * 2 + 1, none⟩ (.slice zo g.es.length zc)) := ⟨_, rfl⟩
      rw [← hwz] at HST BX7 BC7 hzz ⊢
      clear hwz
      refine hK.out _ _ ⟨BC7.out.two.1, BC7.out.two.2.1, BX7.out.two.2.1⟩ (fun hHeld2 => ?_)
      clear hK K hHeld1
      try simp only [Act.put, List.setIfInBounds_toArray, List.set_cons_zero, List.set_cons_succ]
      refine wpAnyH_done (by kernel_rfl) ?_ _
      clear hHeld2 HKD hc6 hs6
      go_wp2
      go_roundw
      case rel => exact ⟨k + 1, by omega, by go_num, HST.out, BX7.out, hzz⟩
      case measure => simp [intOf]; omega
    · obtain rfl : k = n := by omega
      have HO := Lib.hid (HF.out.done HN.out (Nat.le_refl _))
      go_wp2
      go_ret
      refine ⟨B, some ⟨y.heap.size, 0, none⟩, k, rfl, by omega, ?_, ?_, hs0w⟩
      · rw [← HN.out]; exact HBX.out
      · rw [← HN.out]; exact HO.out.wider (by omega) (Nat.le_refl _)
end Go.Proofs.Ytgdeiecbkmhbeaa
