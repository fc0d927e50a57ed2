/- The model's ParseExpr. -/
import Derived.Test.YtiojgahjfndmdaaDoorPxS
import Derived.Test.YtiojgahjfndmdaaDoorIx
import Derived.Test.YtiojgahjfndmdaaDoorXf
namespace Go.Proofs.YtiojgahjfndmdaaDoor
set_option maxRecDepth 100000
open Go.ChangeShapes Go.WideShapes Go.ChangeAt Go.RowKit
set_option linter.unusedVariables false
set_option linter.unusedSimpArgs false

theorem within_grownX {lo hi : Nat} {y a b : World} {row : Option Nat} (h : Within lo hi y a) (k : a.grownBy b row) (hr : ∀ j, row = some j → y.heap.size ≤ j) : Within lo hi y b :=
  ⟨k.os.trans h.os, k.tape.trans h.tape, k.output.trans h.output, Nat.le_trans h.size k.size, fun i hi hn => (k.block i (Nat.lt_of_lt_of_le hi h.size) (fun e => by have := hr i e.symm; omega)).trans (h.block i hi hn)⟩
theorem toks_blkX {w : World} {L : Nat} {t : Tok} (h : Blk w L 65 #[.int .i64 t.kd, .int .i64 t.lr, .int .i64 t.lo, .int .i64 t.hi]) (ht : t.In) : ToksAt w (.slice (some ⟨L, 0, none⟩) 1 1) [t] := by
  refine ⟨fun x hx => by simp at hx; subst hx; exact ht, .inr ⟨L, 0, 1, rfl, h.lt, fun i hi => ?_⟩⟩
  obtain rfl : i = 0 := by simp at hi; omega
  obtain ⟨a, b, c, d, _⟩ := h.four
  exact ⟨a, b, c, d⟩
theorem px_no {w w1 : World} {B : Nat} (hB : w.heap.size ≤ B) (hs : Since w w1) (u : Value) :
    XBOut w [] false (.returned (.tuple #[.agg #[.slice none 0 0], .bool false])) (w1.setCell ⟨B, 0, none⟩ u) :=
  ⟨_, rfl, OwnX.mk ⟨fun x hx => by simp at hx, World.ownsRow_nil _ _ _ _⟩, hs.setCell hB u⟩
theorem px_yes {w w1 : World} {xs : List Tok} {B : Nat} {v : Value} {lo : Nat} (ho : OwnK lo w1 v xs) (hlo : w.heap.size ≤ lo) (hB2 : B < lo) (hB : w.heap.size ≤ B) (hs : Since w w1) (u : Value) :
    XBOut w xs true (.returned (.tuple #[.agg #[v], .bool true])) (w1.setCell ⟨B, 0, none⟩ u) :=
  ⟨_, rfl, OwnX.mk ((ho.far (p := ⟨B, 0, none⟩) hB2 u).mono hlo), hs.setCell hB u⟩
set_option maxHeartbeats 16000000 in
set_option maxRecDepth 100000 in
theorem specPX_any (s : ByteArray) (w : World) (hs : s.size ≤ 1048576) :
    Calls Tryd.prog 120 #[.string s] w (XBOut w (pxA s) (pxB s)) := by
  obtain ⟨y, hy⟩ : ∃ y, y = w.alloc (.cells #[.slice none 0 0] 26) := ⟨_, rfl⟩
  have hs0 : Since w y := by rw [hy]; exact (Since.refl w).alloc _
  have hz : w.heap.size + 1 = y.heap.size := by rw [hy]; simp
  have BR : Hid (Blk y w.heap.size 26 #[.slice none 0 0]) := by rw [hy]; exact Blk.new rfl _ _
  obtain ⟨yx, hyx⟩ : ∃ yx, yx = y.alloc (.cells #[.slice none 0 0] 26) := ⟨_, rfl⟩
  have hsx : Since y yx := by rw [hyx]; exact (Since.refl y).alloc _
  have hzx : y.heap.size + 1 = yx.heap.size := by rw [hyx]; simp
  have BX : Hid (Blk yx y.heap.size 26 #[.slice none 0 0]) := by rw [hyx]; exact Blk.new rfl _ _
  obtain ⟨P, hP⟩ : ∃ P, P = cutL s.data.toList := ⟨_, rfl⟩
  have HPX : Hid (pxL s = (P.take 25).map rdL) := by rw [hP]; rfl
  have HVX := Lib.hid (fun V W (hV : ExAt W V (pxL s)) => specVX_any V (pxL s) W hV (by unfold pxL; rw [List.length_map, List.length_take]; omega))
  have HAN : Hid (pxB s = true → pxA s = pxL s) := fun h => by unfold pxA; rw [if_pos h]
  have HAF : Hid (pxB s = false → pxA s = []) := fun h => by unfold pxA; rw [h]; rfl
  have HBV : Hid (validXB (pxL s) = pxB s) := rfl
  rw [HBV.out] at HVX
  clear HBV
  generalize pxL s = R at HVX HPX HAN
  generalize pxA s = A at HAN HAF ⊢
  generalize pxB s = B at HVX HAN HAF ⊢
  have HCT := Lib.hid (fun W => cut_partsX s W hs)
  rw [← hP] at HCT
  have hP1 : 1 ≤ P.length := by rw [hP]; exact cutL_pos _
  have HPS : Hid (∀ k (hk : k < P.length), (bX P[k]).size ≤ 1048576) := fun k hk => by
    have h := cutL_part_le s.data.toList P[k] (by rw [← hP]; exact List.getElem_mem hk)
    have e : s.data.toList.length = s.size := by rw [Array.length_toList]; rfl
    rw [bX_size]; omega
  have hn9 : P.length ≤ 4611686018427387904 := by
    have h := cutL_length_le s.data.toList
    rw [← hP] at h
    have e : s.data.toList.length = s.size := by rw [Array.length_toList]; rfl
    omega
  clear hP
  unfold PartsOutX at HCT
  obtain ⟨n, hn0⟩ : ∃ n, n = P.length := ⟨_, rfl⟩
  have HN := Lib.hid hn0
  rw [← hn0] at HCT hP1 hn9
  clear hn0
  go_enter Tryd.func120, Tryd.ntmps120
  go_wp2_with fail
  rw [← hy]
  clear hy
  go_wp2_with fail
  rw [← hyx]
  clear hyx
  refine (HCT.out _).mono ?_
  rintro en w1 ⟨g, cap, rfl, hcap, hs1, HG⟩
  have BX1 := Lib.hid (BX.out.since hs1)
  have hxl := BX1.out.lt
  have hg0 := HG.out w1 (Since.refl _) 0 (by have := HN.out; omega)
  have hgl : g < w1.heap.size := by have := World.block_lt_of_cell? _ _ hg0; simpa using this
  have hgX : g ≠ y.heap.size := by
    intro e
    rw [e, BX1.out.one.1] at hg0
    injection hg0 with hg0
    cases hg0
  have hsy1 := hsx.trans hs1
  have HXL : Hid (w.heap.size < y.heap.size ∧ y.heap.size < w1.heap.size) := ⟨by omega, by have := hs1.size; omega⟩
  have HGW : Hid (∀ W, Within y.heap.size (y.heap.size + 1) w1 W → ∀ k (hk : k < P.length), W.cell? ⟨g, k, none⟩ = some (.string (bX P[k]))) := fun W hW k hk =>
    (World.cell?_of_block (w := w1) (w' := W) (a := ⟨g, k, none⟩) (hW.block g hgl (by omega))).trans (HG.out w1 (Since.refl _) k hk)
  clear HG hg0 BX hsx hs1 hz hzx hxl
  go_wp2_with fail
  go_loopw [6] (fun i wr => ∃ (k : Nat) (v : Value), k ≤ n ∧ k ≤ 25 ∧ i = .int .i64 k ∧ Hid (Blk wr y.heap.size 26 #[v]) ∧ Hid (OwnK w1.heap.size wr v ((P.take k).map rdL)) ∧ Hid (Within y.heap.size (y.heap.size + 1) w1 wr) ∧ Since y wr) (fun i _ => n - (intOf i).toNat)
  case atStart => exact ⟨0, .slice none 0 0, Nat.zero_le _, by omega, rfl, BX1.out, ⟨fun x hx => by simp at hx, World.ownsRow_nil _ _ _ _⟩, Within.refl _ _ _, hsy1⟩
  case round =>
    obtain ⟨k, v, hk, hk25, rfl, HB, HO, HW, hsw⟩ := hrel
    by_cases hgo : k < n ∧ k ≤ 24
    · obtain ⟨hlt, hk24⟩ := hgo
      have hkr : k < P.length := by have := HN.out; omega
      have hcell := HGW.out wr HW.out k hkr
      have kk0 : (0 : Int) ≤ (k : Int) := by omega
      have kk1 : (k : Int) < (n : Int) := by omega
      have kk24 : (k : Int) ≤ 24 := by omega
      have kc : (k : Int) < (cap : Int) := by omega
      have HRW : Hid (∀ q, v.ownBlock = some q → w1.heap.size ≤ q ∧ q < wr.heap.size) := fun q hq => HO.out.2.lt q hq
      have HZW : Hid (w1.heap.size ≤ wr.heap.size) := HW.out.size
      have HML : Hid (((P.take k).map rdL).length ≤ 25) := by unfold Hid; rw [List.length_map, List.length_take]; omega
      have HTK0 : Hid ((P.take (k + 1)).map rdL = ((P.take k).map rdL) ++ [rdL P[k]]) := by
        unfold Hid; rw [List.take_succ_eq_append_getElem hkr, List.map_append]; rfl
      have HRD0 := Lib.hid (fun W => l8Read_any (bX P[k]) W (HPS.out k hkr))
      rw [bX_list] at HRD0
      have HIN0 : Hid ((rdL P[k]).In) := rdL_in _
      generalize rdL P[k] = tk at HTK0 HRD0 HIN0
      generalize bX P[k] = tb at HRD0 hcell
      have HTK := HTK0
      have HIN := HIN0
      have HRD : Hid (∀ W, Calls Tryd.prog 126 #[.string tb] W fun e w' => e = .returned (.agg #[.int .i64 tk.kd, .int .i64 tk.lr, .int .i64 tk.lo, .int .i64 tk.hi]) ∧ Since W w') := HRD0.out
      have HGL : Hid (g < wr.heap.size ∧ g ≠ y.heap.size ∧ g < w1.heap.size) := ⟨Nat.lt_of_lt_of_le hgl HZW.out, hgX, hgl⟩
      have HKX : Hid (∀ w' : World, w'.heap[g]? = wr.heap[g]? → w'.cell? ⟨g, k, none⟩ = some (.string tb)) := fun w' hb => (World.cell?_of_block (w := wr) (w' := w') (a := ⟨g, k, none⟩) hb).trans hcell
      have HKD : Hid (∀ w' : World, Since wr w' → w'.cell? ⟨g, k, none⟩ = some (.string tb)) := fun w' hs => HKX.out w' (hs.block g HGL.out.1)
      clear HTK0 HIN0 HRD0 hcell
      go_upto_region 6 with fail
      refine wp_region_held_drew (S := (fun w' => w'.cell? ⟨g, k, none⟩ = some (.string tb))) (by kernel_rfl) (HKD.out _ (Since.refl _).drew) (fun hHeld => ?_)
      refine take_yes 0 (some 20) (v := ?_) rfl (by kernel_rfl) (by kernel_rfl) (by kernel_rfl) (by kernel_rfl) (fun _ _ _ h => h) (by rfl) (by assumption) ?_ ?_
      rotate_left
      · (intro w' hSw; (try dsimp only at hSw); go_simp; try with_reducible rfl)
      try simp only [Act.put, List.setIfInBounds_toArray, List.set_cons_zero, List.set_cons_succ]
      refine take_yes 2 (some 22) (v := ?_) rfl (by kernel_rfl) (by kernel_rfl) (by kernel_rfl) (by kernel_rfl) (fun _ _ _ h => h) (by rfl) (by assumption) ?_ ?_
      rotate_left
      · (intro w' hSw; (try dsimp only at hSw); go_simp; try with_reducible rfl)
      try simp only [Act.put, List.setIfInBounds_toArray, List.set_cons_zero, List.set_cons_succ]
      refine take_yes 3 (some 23) (v := ?_) rfl (by kernel_rfl) (by kernel_rfl) (by kernel_rfl) (by kernel_rfl) (fun _ _ _ h => h) (by rfl) (by assumption) ?_ ?_
      rotate_left
      · (intro w' hSw; (try dsimp only at hSw); go_simp; try with_reducible rfl)
      try simp only [Act.put, List.setIfInBounds_toArray, List.set_cons_zero, List.set_cons_succ]
      refine take_yes 4 (some 24) (v := ?_) rfl (by kernel_rfl) (by kernel_rfl) (by kernel_rfl) (by kernel_rfl) (fun _ _ _ h => h) (by rfl) (by assumption) ?_ ?_
      rotate_left
      · (intro w' hSw; (try dsimp only at hSw); go_simp; try with_reducible rfl)
      try simp only [Act.put, List.setIfInBounds_toArray, List.set_cons_zero, List.set_cons_succ]
      refine take_yes 5 (some 25) (v := ?_) rfl (by kernel_rfl) (by kernel_rfl) (by kernel_rfl) (by kernel_rfl) (fun _ _ _ h => h) (by rfl) (by assumption) ?_ ?_
      rotate_left
      · (intro w' hSw; (try dsimp only at hSw); go_simp; try with_reducible rfl)
      try simp only [Act.put, List.setIfInBounds_toArray, List.set_cons_zero, List.set_cons_succ]
      refine take_two 1 6 rfl rfl (by kernel_rfl) (by rfl) (by rfl) (fun K hK => ?_) (fun K hK => ?_)
      · skip
        obtain ⟨q0, q1⟩ := (HB.out.since (Since.refl wr).drew).one
        go_simp
        clear q0 q1
        refine hK.out _ _ (HKD.out _ (Since.refl wr).drew) (fun hHeld1 => ?_)
        clear hK K hHeld
        try simp only [Act.put, List.setIfInBounds_toArray, List.set_cons_zero, List.set_cons_succ]
        refine take_run 6 rfl (by kernel_rfl) (by rfl) (fun K hK => ?_)
        go_simp
        refine (HRD.out _).mono ?_
        rintro en u2 ⟨rfl, hs2⟩
        have c2 := Since.trans (Since.refl wr).drew hs2
        have z2 := c2.size
        refine hK.out _ _ (HKD.out _ c2) (fun hHeld2 => ?_)
        clear hK K hHeld1
        try simp only [Act.put, List.setIfInBounds_toArray, List.set_cons_zero, List.set_cons_succ]
        refine take_run 7 rfl (by kernel_rfl) (by rfl) (fun K hK => ?_)
        go_simp
        have al3 : Since (u2) ((u2).alloc (.cells #[.int .i64 tk.kd, .int .i64 tk.lr, .int .i64 tk.lo, .int .i64 tk.hi] 65)) := (Since.refl _).alloc _
        have c3 := Since.trans c2 al3
        have z3 := c3.size
        have LT : Hid (Blk ((u2).alloc (.cells #[.int .i64 tk.kd, .int .i64 tk.lr, .int .i64 tk.lo, .int .i64 tk.hi] 65)) (u2).heap.size 65 #[.int .i64 tk.kd, .int .i64 tk.lr, .int .i64 tk.lo, .int .i64 tk.hi]) := Blk.new (by simp) _ _
        refine hK.out _ _ (HKD.out _ c3) (fun hHeld3 => ?_)
        clear hK K hHeld2
        try simp only [Act.put, List.setIfInBounds_toArray, List.set_cons_zero, List.set_cons_succ]
        refine take_run 8 rfl (by kernel_rfl) (by rfl) (fun K hK => ?_)
        refine wp_append_toks (o := ⟨some 28, _, _, _, _, _⟩) (.tmp 21) (.tmp 27) rfl w1.heap.size _ ((P.take k).map rdL) rfl (HO.out.since c3) _ _ _ rfl [tk] (toks_blkX LT.out HIN.out) (by have := HML.out; simp only [List.length_cons, List.length_nil]; omega) (by have := HZW.out; have := (c3).size; omega) ?_
        intro v4 w4 ho4 hg4 hb4
        rw [← HTK.out] at ho4
        have hc4 : Since y w4 := (hsw.trans c3).grown hg4 (fun q hq => by have := HRW.out q hq; have := HXL.out; omega)
        have HB4 : Hid (Blk w4 y.heap.size 26 #[v]) := (HB.out.since c3).grwK hg4 (fun e => by have := HRW.out _ e.symm; have := HXL.out; omega)
        have HWI4 : Hid (Within y.heap.size (y.heap.size + 1) w1 w4) := within_grownX (HW.out.trans (Within.of_since c3)) hg4 (fun q hq => by have := HRW.out q hq; have := HXL.out; omega)
        have k4 : w4.heap[g]? = wr.heap[g]? := (hg4.block g (Nat.lt_of_lt_of_le HGL.out.1 ((c3).size)) (fun e => by have := HRW.out _ e.symm; have := HGL.out; omega)).trans ((c3).block g HGL.out.1)
        obtain ⟨o4, c4, hv4⟩ := ho4.len
        obtain ⟨n4, hn4⟩ : ∃ n, ((P.take (k + 1)).map rdL).length = n := ⟨_, rfl⟩
        rw [hn4] at hv4
        subst hv4
        clear hn4
        refine hK.out _ _ (HKX.out _ k4) (fun hHeld4 => ?_)
        clear hK K hHeld3
        try simp only [Act.put, List.setIfInBounds_toArray, List.set_cons_zero, List.set_cons_succ]
        refine take_yes 9 (some 29) (v := ?_) rfl (by kernel_rfl) (by kernel_rfl) (by kernel_rfl) (by kernel_rfl) (fun _ _ _ h => h) (by rfl) (by assumption) ?_ ?_
        rotate_left
        · (intro w' hSw; (try dsimp only at hSw); go_simp; try with_reducible rfl)
        try simp only [Act.put, List.setIfInBounds_toArray, List.set_cons_zero, List.set_cons_succ]
        refine take_run 10 rfl (by kernel_rfl) (by rfl) (fun K hK => ?_)
        obtain ⟨q0, q1⟩ := HB4.out.one
        go_simp
        clear q0 q1
        have hcz : Since y (w4.setCell ⟨y.heap.size, 0, none⟩ (.slice o4 n4 c4)) := hc4.setCell (Nat.le_refl _) _
        have HWI5 : Hid (Within y.heap.size (y.heap.size + 1) w1 (w4.setCell ⟨y.heap.size, 0, none⟩ (.slice o4 n4 c4))) := HWI4.out.trans (Within.cell w4 ⟨y.heap.size, 0, none⟩ _)
        refine hK.out _ _ (HKX.out _ ((Below.heap_setCell w4 ⟨y.heap.size, 0, none⟩ _ g (by have := HGL.out; simp; omega)).trans k4)) (fun hHeld5 => ?_)
        clear hK K hHeld4
        try simp only [Act.put, List.setIfInBounds_toArray, List.set_cons_zero, List.set_cons_succ]
        refine wpAnyH_done (by kernel_rfl) ?_ _
        clear hHeld5
        have HB5 : Hid (Blk (w4.setCell ⟨y.heap.size, 0, none⟩ (.slice o4 n4 c4)) y.heap.size 26 #[.slice o4 n4 c4]) := HB4.out.set 0 (.slice o4 n4 c4)
        have HO5 := Lib.hid (ho4.far (p := ⟨y.heap.size, 0, none⟩) (by have := HXL.out; simp; omega) (.slice o4 n4 c4))
        clear hc4 HB4 hb4 hg4 HWI4 LT
        go_wp2
        go_roundw
        case rel => exact ⟨k + 1, _, by omega, by omega, by go_num, HB5.out, HO5.out, HWI5.out, hcz⟩
        case measure => simp [intOf]; omega
      · skip
        go_simp
        refine (HRD.out _).mono ?_
        rintro en u1 ⟨rfl, hs1⟩
        have c1 := Since.trans (Since.refl wr).drew hs1
        have z1 := c1.size
        refine hK.out _ _ (HKD.out _ c1) (fun hHeld1 => ?_)
        clear hK K hHeld
        try simp only [Act.put, List.setIfInBounds_toArray, List.set_cons_zero, List.set_cons_succ]
        refine take_two 1 7 rfl rfl (by kernel_rfl) (by rfl) (by rfl) (fun K hK => ?_) (fun K hK => ?_)
        · skip
          obtain ⟨q0, q1⟩ := (HB.out.since c1).one
          go_simp
          clear q0 q1
          refine hK.out _ _ (HKD.out _ c1) (fun hHeld2 => ?_)
          clear hK K hHeld1
          try simp only [Act.put, List.setIfInBounds_toArray, List.set_cons_zero, List.set_cons_succ]
          refine take_run 7 rfl (by kernel_rfl) (by rfl) (fun K hK => ?_)
          go_simp
          have al3 : Since (u1) ((u1).alloc (.cells #[.int .i64 tk.kd, .int .i64 tk.lr, .int .i64 tk.lo, .int .i64 tk.hi] 65)) := (Since.refl _).alloc _
          have c3 := Since.trans c1 al3
          have z3 := c3.size
          have LT : Hid (Blk ((u1).alloc (.cells #[.int .i64 tk.kd, .int .i64 tk.lr, .int .i64 tk.lo, .int .i64 tk.hi] 65)) (u1).heap.size 65 #[.int .i64 tk.kd, .int .i64 tk.lr, .int .i64 tk.lo, .int .i64 tk.hi]) := Blk.new (by simp) _ _
          refine hK.out _ _ (HKD.out _ c3) (fun hHeld3 => ?_)
          clear hK K hHeld2
          try simp only [Act.put, List.setIfInBounds_toArray, List.set_cons_zero, List.set_cons_succ]
          refine take_run 8 rfl (by kernel_rfl) (by rfl) (fun K hK => ?_)
          refine wp_append_toks (o := ⟨some 28, _, _, _, _, _⟩) (.tmp 21) (.tmp 27) rfl w1.heap.size _ ((P.take k).map rdL) rfl (HO.out.since c3) _ _ _ rfl [tk] (toks_blkX LT.out HIN.out) (by have := HML.out; simp only [List.length_cons, List.length_nil]; omega) (by have := HZW.out; have := (c3).size; omega) ?_
          intro v4 w4 ho4 hg4 hb4
          rw [← HTK.out] at ho4
          have hc4 : Since y w4 := (hsw.trans c3).grown hg4 (fun q hq => by have := HRW.out q hq; have := HXL.out; omega)
          have HB4 : Hid (Blk w4 y.heap.size 26 #[v]) := (HB.out.since c3).grwK hg4 (fun e => by have := HRW.out _ e.symm; have := HXL.out; omega)
          have HWI4 : Hid (Within y.heap.size (y.heap.size + 1) w1 w4) := within_grownX (HW.out.trans (Within.of_since c3)) hg4 (fun q hq => by have := HRW.out q hq; have := HXL.out; omega)
          have k4 : w4.heap[g]? = wr.heap[g]? := (hg4.block g (Nat.lt_of_lt_of_le HGL.out.1 ((c3).size)) (fun e => by have := HRW.out _ e.symm; have := HGL.out; omega)).trans ((c3).block g HGL.out.1)
          obtain ⟨o4, c4, hv4⟩ := ho4.len
          obtain ⟨n4, hn4⟩ : ∃ n, ((P.take (k + 1)).map rdL).length = n := ⟨_, rfl⟩
          rw [hn4] at hv4
          subst hv4
          clear hn4
          refine hK.out _ _ (HKX.out _ k4) (fun hHeld4 => ?_)
          clear hK K hHeld3
          try simp only [Act.put, List.setIfInBounds_toArray, List.set_cons_zero, List.set_cons_succ]
          refine take_yes 9 (some 29) (v := ?_) rfl (by kernel_rfl) (by kernel_rfl) (by kernel_rfl) (by kernel_rfl) (fun _ _ _ h => h) (by rfl) (by assumption) ?_ ?_
          rotate_left
          · (intro w' hSw; (try dsimp only at hSw); go_simp; try with_reducible rfl)
          try simp only [Act.put, List.setIfInBounds_toArray, List.set_cons_zero, List.set_cons_succ]
          refine take_run 10 rfl (by kernel_rfl) (by rfl) (fun K hK => ?_)
          obtain ⟨q0, q1⟩ := HB4.out.one
          go_simp
          clear q0 q1
          have hcz : Since y (w4.setCell ⟨y.heap.size, 0, none⟩ (.slice o4 n4 c4)) := hc4.setCell (Nat.le_refl _) _
          have HWI5 : Hid (Within y.heap.size (y.heap.size + 1) w1 (w4.setCell ⟨y.heap.size, 0, none⟩ (.slice o4 n4 c4))) := HWI4.out.trans (Within.cell w4 ⟨y.heap.size, 0, none⟩ _)
          refine hK.out _ _ (HKX.out _ ((Below.heap_setCell w4 ⟨y.heap.size, 0, none⟩ _ g (by have := HGL.out; simp; omega)).trans k4)) (fun hHeld5 => ?_)
          clear hK K hHeld4
          try simp only [Act.put, List.setIfInBounds_toArray, List.set_cons_zero, List.set_cons_succ]
          refine wpAnyH_done (by kernel_rfl) ?_ _
          clear hHeld5
          have HB5 : Hid (Blk (w4.setCell ⟨y.heap.size, 0, none⟩ (.slice o4 n4 c4)) y.heap.size 26 #[.slice o4 n4 c4]) := HB4.out.set 0 (.slice o4 n4 c4)
          have HO5 := Lib.hid (ho4.far (p := ⟨y.heap.size, 0, none⟩) (by have := HXL.out; simp; omega) (.slice o4 n4 c4))
          clear hc4 HB4 hb4 hg4 HWI4 LT
          go_wp2
          go_roundw
          case rel => exact ⟨k + 1, _, by omega, by omega, by go_num, HB5.out, HO5.out, HWI5.out, hcz⟩
          case measure => simp [intOf]; omega
        · skip
          go_simp
          have al2 : Since (u1) ((u1).alloc (.cells #[.int .i64 tk.kd, .int .i64 tk.lr, .int .i64 tk.lo, .int .i64 tk.hi] 65)) := (Since.refl _).alloc _
          have c2 := Since.trans c1 al2
          have z2 := c2.size
          have LT : Hid (Blk ((u1).alloc (.cells #[.int .i64 tk.kd, .int .i64 tk.lr, .int .i64 tk.lo, .int .i64 tk.hi] 65)) (u1).heap.size 65 #[.int .i64 tk.kd, .int .i64 tk.lr, .int .i64 tk.lo, .int .i64 tk.hi]) := Blk.new (by simp) _ _
          refine hK.out _ _ (HKD.out _ c2) (fun hHeld2 => ?_)
          clear hK K hHeld1
          try simp only [Act.put, List.setIfInBounds_toArray, List.set_cons_zero, List.set_cons_succ]
          refine take_run 1 rfl (by kernel_rfl) (by rfl) (fun K hK => ?_)
          obtain ⟨q0, q1⟩ := (HB.out.since c2).one
          go_simp
          clear q0 q1
          refine hK.out _ _ (HKD.out _ c2) (fun hHeld3 => ?_)
          clear hK K hHeld2
          try simp only [Act.put, List.setIfInBounds_toArray, List.set_cons_zero, List.set_cons_succ]
          refine take_run 8 rfl (by kernel_rfl) (by rfl) (fun K hK => ?_)
          refine wp_append_toks (o := ⟨some 28, _, _, _, _, _⟩) (.tmp 21) (.tmp 27) rfl w1.heap.size _ ((P.take k).map rdL) rfl (HO.out.since c2) _ _ _ rfl [tk] (toks_blkX LT.out HIN.out) (by have := HML.out; simp only [List.length_cons, List.length_nil]; omega) (by have := HZW.out; have := (c2).size; omega) ?_
          intro v4 w4 ho4 hg4 hb4
          rw [← HTK.out] at ho4
          have hc4 : Since y w4 := (hsw.trans c2).grown hg4 (fun q hq => by have := HRW.out q hq; have := HXL.out; omega)
          have HB4 : Hid (Blk w4 y.heap.size 26 #[v]) := (HB.out.since c2).grwK hg4 (fun e => by have := HRW.out _ e.symm; have := HXL.out; omega)
          have HWI4 : Hid (Within y.heap.size (y.heap.size + 1) w1 w4) := within_grownX (HW.out.trans (Within.of_since c2)) hg4 (fun q hq => by have := HRW.out q hq; have := HXL.out; omega)
          have k4 : w4.heap[g]? = wr.heap[g]? := (hg4.block g (Nat.lt_of_lt_of_le HGL.out.1 ((c2).size)) (fun e => by have := HRW.out _ e.symm; have := HGL.out; omega)).trans ((c2).block g HGL.out.1)
          obtain ⟨o4, c4, hv4⟩ := ho4.len
          obtain ⟨n4, hn4⟩ : ∃ n, ((P.take (k + 1)).map rdL).length = n := ⟨_, rfl⟩
          rw [hn4] at hv4
          subst hv4
          clear hn4
          refine hK.out _ _ (HKX.out _ k4) (fun hHeld4 => ?_)
          clear hK K hHeld3
          try simp only [Act.put, List.setIfInBounds_toArray, List.set_cons_zero, List.set_cons_succ]
          refine take_yes 9 (some 29) (v := ?_) rfl (by kernel_rfl) (by kernel_rfl) (by kernel_rfl) (by kernel_rfl) (fun _ _ _ h => h) (by rfl) (by assumption) ?_ ?_
          rotate_left
          · (intro w' hSw; (try dsimp only at hSw); go_simp; try with_reducible rfl)
          try simp only [Act.put, List.setIfInBounds_toArray, List.set_cons_zero, List.set_cons_succ]
          refine take_run 10 rfl (by kernel_rfl) (by rfl) (fun K hK => ?_)
          obtain ⟨q0, q1⟩ := HB4.out.one
          go_simp
          clear q0 q1
          have hcz : Since y (w4.setCell ⟨y.heap.size, 0, none⟩ (.slice o4 n4 c4)) := hc4.setCell (Nat.le_refl _) _
          have HWI5 : Hid (Within y.heap.size (y.heap.size + 1) w1 (w4.setCell ⟨y.heap.size, 0, none⟩ (.slice o4 n4 c4))) := HWI4.out.trans (Within.cell w4 ⟨y.heap.size, 0, none⟩ _)
          refine hK.out _ _ (HKX.out _ ((Below.heap_setCell w4 ⟨y.heap.size, 0, none⟩ _ g (by have := HGL.out; simp; omega)).trans k4)) (fun hHeld5 => ?_)
          clear hK K hHeld4
          try simp only [Act.put, List.setIfInBounds_toArray, List.set_cons_zero, List.set_cons_succ]
          refine wpAnyH_done (by kernel_rfl) ?_ _
          clear hHeld5
          have HB5 : Hid (Blk (w4.setCell ⟨y.heap.size, 0, none⟩ (.slice o4 n4 c4)) y.heap.size 26 #[.slice o4 n4 c4]) := HB4.out.set 0 (.slice o4 n4 c4)
          have HO5 := Lib.hid (ho4.far (p := ⟨y.heap.size, 0, none⟩) (by have := HXL.out; simp; omega) (.slice o4 n4 c4))
          clear hc4 HB4 hb4 hg4 HWI4 LT
          go_wp2
          go_roundw
          case rel => exact ⟨k + 1, _, by omega, by omega, by go_num, HB5.out, HO5.out, HWI5.out, hcz⟩
          case measure => simp [intOf]; omega
    · have HT25 : Hid (((P.take k).map rdL) = R) := by
        unfold Hid
        rw [HPX.out]
        have := HN.out
        by_cases h : k = 25
        · rw [h]
        · rw [List.take_of_length_le (by omega), List.take_of_length_le (by omega)]
      by_cases hlt : k < n
      · have kk1 : (k : Int) < (n : Int) := by omega
        have kk24 : ¬ (k : Int) ≤ 24 := by omega
        clear hgo
        obtain ⟨b0, b1⟩ := HB.out.one
        have HXX : Hid (OwnK w1.heap.size wr v R) := by unfold Hid; rw [← HT25.out]; exact HO.out
        clear HO HT25
        obtain ⟨vo, vc, hv⟩ := HXX.out.len
        obtain ⟨q, hq⟩ : ∃ q, R.length = q := ⟨_, rfl⟩
        rw [hq] at hv
        subst hv
        clear hq
        go_wp2_with fail
        refine (HVX.out _ _ ⟨_, rfl, HXX.out.at⟩).mono ?_
        rintro en w9 ⟨rfl, hs9⟩
        have hsw9 := hsw.trans hs9
        obtain ⟨c0, c1⟩ := (HB.out.since hs9).one
        obtain ⟨r0, r1⟩ := (BR.out.since hsw9).one
        have hs09 := hs0.trans hsw9
        have HO9 := Lib.hid (HXX.out.since hs9)
        cases B with
        | true =>
          have HA := Lib.hid (HAN.out rfl)
          clear HAN HAF
          go_wp2_with fail
          refine bodyPost_ret (v := .tuple #[.agg #[.slice vo q vc], .bool true]) (by simp [results, Tryd.results120, go_sem, *]) rfl ?_
          rw [HA.out]
          exact px_yes HO9.out (by have := HXL.out; omega) (by have := HXL.out; omega) (Nat.le_refl _) hs09 _
        | false =>
          have HA := Lib.hid (HAF.out rfl)
          clear HAN HAF
          go_wp2_with fail
          refine bodyPost_ret (v := .tuple #[.agg #[.slice none 0 0], .bool false]) (by simp [results, Tryd.results120, go_sem, *]) rfl ?_
          rw [HA.out]
          exact px_no (Nat.le_refl _) hs09 _
      · have kk1 : ¬ (k : Int) < (n : Int) := by omega
        clear hgo
        obtain ⟨b0, b1⟩ := HB.out.one
        have HXX : Hid (OwnK w1.heap.size wr v R) := by unfold Hid; rw [← HT25.out]; exact HO.out
        clear HO HT25
        obtain ⟨vo, vc, hv⟩ := HXX.out.len
        obtain ⟨q, hq⟩ : ∃ q, R.length = q := ⟨_, rfl⟩
        rw [hq] at hv
        subst hv
        clear hq
        go_wp2_with fail
        refine (HVX.out _ _ ⟨_, rfl, HXX.out.at⟩).mono ?_
        rintro en w9 ⟨rfl, hs9⟩
        have hsw9 := hsw.trans hs9
        obtain ⟨c0, c1⟩ := (HB.out.since hs9).one
        obtain ⟨r0, r1⟩ := (BR.out.since hsw9).one
        have hs09 := hs0.trans hsw9
        have HO9 := Lib.hid (HXX.out.since hs9)
        cases B with
        | true =>
          have HA := Lib.hid (HAN.out rfl)
          clear HAN HAF
          go_wp2_with fail
          refine bodyPost_ret (v := .tuple #[.agg #[.slice vo q vc], .bool true]) (by simp [results, Tryd.results120, go_sem, *]) rfl ?_
          rw [HA.out]
          exact px_yes HO9.out (by have := HXL.out; omega) (by have := HXL.out; omega) (Nat.le_refl _) hs09 _
        | false =>
          have HA := Lib.hid (HAF.out rfl)
          clear HAN HAF
          go_wp2_with fail
          refine bodyPost_ret (v := .tuple #[.agg #[.slice none 0 0], .bool false]) (by simp [results, Tryd.results120, go_sem, *]) rfl ?_
          rw [HA.out]
          exact px_no (Nat.le_refl _) hs09 _
end Go.Proofs.YtiojgahjfndmdaaDoor
