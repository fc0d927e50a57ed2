/- The model's DrawStepsFrom, DrawHoldsAt. -/
import Derived.Test.YtilkheclimammaaDrawB
import Derived.Test.YtilkheclimammaaDrawN
import Derived.Test.YtilkheclimammaaK1
namespace Go.Proofs.Ytilkheclimammaa
set_option maxRecDepth 100000
set_option linter.unusedVariables false
set_option linter.unusedSimpArgs false
open Go.ChangeShapes Go.WideShapes Go.ChangeAt Go.RowKit

theorem OwnG.turnG {lo hi cb : Nat} {w w' : World} {v : Value} {g : Grf} (h : OwnG lo hi w v g) (k : Turn cb w w') (hcb : cb < lo) : OwnG lo hi w' v g := by
  obtain ⟨a, b, rfl, h1, r1, h2, r2⟩ := h
  exact ⟨a, b, rfl, h1.grownX k (own_block_not h1 hcb), r1, h2.grownX k (ownE_block_not h2 hcb), r2⟩
theorem OwnG.fresh {lo hi lo' : Nat} {w : World} {v : Value} {g : Grf} (h : OwnG lo hi w v g) (hl : lo' ≤ lo) : OwnG lo' w.heap.size w v g := by
  obtain ⟨a, b, rfl, h1, r1, h2, r2⟩ := h
  exact OwnG.mk (h1.mono hl) (h2.mono hl)
def DrawGI (w : World) (e : Ending) (w' : World) : Prop := ∃ v g x, -9223372036854775808 ≤ x ∧ x ≤ 9223372036854775807 ∧ e = .returned (.tuple #[v, .int .i64 x]) ∧ OwnG w.heap.size w'.heap.size w' v g ∧ g.vs.length ≤ 5 ∧ g.es.length ≤ 11 ∧ Since w w'
def DrawGII (w : World) (e : Ending) (w' : World) : Prop := ∃ v g x y, -9223372036854775808 ≤ x ∧ x ≤ 9223372036854775807 ∧ -9223372036854775808 ≤ y ∧ y ≤ 9223372036854775807 ∧ e = .returned (.tuple #[v, .int .i64 x, .int .i64 y]) ∧ OwnG w.heap.size w'.heap.size w' v g ∧ g.vs.length ≤ 5 ∧ g.es.length ≤ 11 ∧ Since w w'
set_option maxHeartbeats 1000000 in
set_option maxRecDepth 100000 in
theorem drawSF_any (B : Nat) (w : World) (v : Value) (hB : B ≤ w.heap.size) (hv : CodeIn B w v) : Calls Try.prog 13 #[v] w (DrawGI w) := by
  have hs0 : Since w (w.alloc (.cells #[.slice none 0 0, .slice none 0 0] 27)) := (Since.refl w).alloc _
  have R0 : Hid (Blk (w.alloc (.cells #[.slice none 0 0, .slice none 0 0] 27)) w.heap.size 27 #[.slice none 0 0, .slice none 0 0]) := Blk.new rfl _ _
  have hz0 : w.heap.size + 1 = (w.alloc (.cells #[.slice none 0 0, .slice none 0 0] 27)).heap.size := by simp
  have H := Lib.hid (l1New_any B _ v (show B ≤ (w.alloc (.cells #[.slice none 0 0, .slice none 0 0] 27)).heap.size by omega) (hv.since hs0))
  clear hv
  go_enter Try.func13, Try.ntmps13
  go_wp2_with fail
  refine H.out.mono ?_
  rintro e w1 ⟨cb, rfl, hcb, hc1, hs1⟩
  have hwcb : w.heap.size ≤ cb := by omega
  have hwcb1 : w.heap.size < cb := by omega
  go_wp2_with fail
  refine (l3Any_any B cb _ hc1).mono ?_
  rintro en w2 ⟨vg, g, rfl, hog, hv5, he11, hc2, ht2⟩
  have hz1 := hs1.size
  have hcl := hc1.2.1
  have HOG := Lib.hid (hog.wider (a' := w1.heap.size) (b' := w2.heap.size) (by omega) (by omega))
  obtain ⟨va, vb, rfl, ha, _, hb, _⟩ := hog
  obtain ⟨ao, ac, rfl⟩ := ha.len
  obtain ⟨bo, bc, rfl⟩ := hb.len
  clear ha hb
  have R2 : Hid (Blk w2 w.heap.size 27 #[.slice none 0 0, .slice none 0 0]) := (R0.out.since hs1).grownQ ht2 (fun e => by injection e; omega)
  have S2 := Lib.hid ((hs0.trans hs1).turn hwcb ht2)
  have C2 := Lib.hid hc2
  have HV5 := Lib.hid hv5
  have HE11 := Lib.hid he11
  have hz2 := ht2.size
  clear hs0 hs1 R0 hc1 hc2 ht2 hz0 H
  obtain ⟨n, hn⟩ : ∃ n, n = g.vs.length := ⟨_, rfl⟩
  obtain ⟨m, hm⟩ : ∃ m, m = g.es.length := ⟨_, rfl⟩
  rw [← hn, ← hm] at HOG ⊢
  clear hn hm
  have hsA : Since w2 (w2.alloc (.cells #[.slice ao n ac, .slice bo m bc] 27)) := (Since.refl w2).alloc _
  have BG : Hid (Blk (w2.alloc (.cells #[.slice ao n ac, .slice bo m bc] 27)) w2.heap.size 27 #[.slice ao n ac, .slice bo m bc]) := Blk.new rfl _ _
  have RG := Lib.hid (R2.out.since hsA)
  have CG := Lib.hid (C2.out.since hsA)
  have SG := Lib.hid (S2.out.trans hsA)
  have OG := Lib.hid (HOG.out.since hsA)
  clear R2 C2 S2 HOG hsA
  obtain ⟨G, hG⟩ : ∃ G, G = w2.heap.size := ⟨_, rfl⟩
  rw [← hG] at BG
  have hGc : cb < G := by omega
  have hGw : w.heap.size < G := by omega
  go_wp2_with fail
  rw [← hG]
  generalize (w2.alloc (.cells #[.slice ao n ac, .slice bo m bc] 27)) = y at BG RG CG SG OG ⊢
  have BD := BG.out.drew
  have RD := RG.out.drew
  have CD := CG.out.since (Since.refl y).drew
  have SD := SG.out.drew
  have OD := OG.out.since (Since.refl y).drew
  clear BG RG CG SG OG hG
  refine wp_region_held_drew (S := (fun w' => w'.cell? ⟨G, 0, none⟩ = some (.slice ao n ac) ∧ w'.cell? ⟨G, 1, none⟩ = some (.slice bo m bc))) (by kernel_rfl) ⟨BD.two.1, BD.two.2.1⟩ (fun hHeld => ?_)
  refine take_yes 0 (some 10) (v := ?_) rfl (by kernel_rfl) (by kernel_rfl) (by kernel_rfl) (by kernel_rfl) (fun _ _ _ h => h) (by rfl) (by assumption) ?_ ?_
  rotate_left
  · (intro w' hSw; (try dsimp only at hSw); go_simp; try with_reducible rfl)
  try simp only [Act.put, List.setIfInBounds_toArray, List.set_cons_zero, List.set_cons_succ]
  refine take_yes 1 (some 11) (v := ?_) rfl (by kernel_rfl) (by kernel_rfl) (by kernel_rfl) (by kernel_rfl) (fun _ _ _ h => h) (by rfl) (by assumption) ?_ ?_
  rotate_left
  · (intro w' hSw; (try dsimp only at hSw); go_simp; try with_reducible rfl)
  try simp only [Act.put, List.setIfInBounds_toArray, List.set_cons_zero, List.set_cons_succ]
  refine take_yes 2 (some 12) (v := ?_) rfl (by kernel_rfl) (by kernel_rfl) (by kernel_rfl) (by kernel_rfl) (fun _ _ _ h => h) (by rfl) (by assumption) ?_ ?_
  rotate_left
  · (intro w' hSw; (try dsimp only at hSw); go_simp; try with_reducible rfl)
  try simp only [Act.put, List.setIfInBounds_toArray, List.set_cons_zero, List.set_cons_succ]
  refine take_run 3 rfl (by kernel_rfl) (by rfl) (fun K hK => ?_)
  go_simp
  refine (l4Node_any B cb _ g _ CD OD.at HV5.out).mono ?_
  rintro en wq2 ⟨x, hx0, hx9, rfl, hcq, htq⟩
  have B3 := BD.grownQ htq (fun e => by injection e; omega)
  have R4 := RD.grownQ htq (fun e => by injection e; omega)
  have T6 := SD.turn hwcb htq
  have O7 := OD.turnG htq (by omega)
  have C5 := hcq
  refine hK.out _ _ ⟨B3.two.1, B3.two.2.1⟩ (fun hHeld1 => ?_)
  clear hK K hHeld hcq htq
  try simp only [Act.put, List.setIfInBounds_toArray, List.set_cons_zero, List.set_cons_succ]
  refine take_run 4 rfl (by kernel_rfl) (by rfl) (fun K hK => ?_)
  obtain ⟨a0, a1, a2, a3⟩ := R4.two
  obtain ⟨q0, q1, q2, q3⟩ := B3.two
  go_simp
  clear a0 a1 a2 a3 q0 q1 q2 q3
  have BZ := (B3.far (p := ⟨w.heap.size, 0, none⟩) (by simp; omega) (.slice ao n ac)).far (p := ⟨w.heap.size, 1, none⟩) (by simp; omega) (.slice bo m bc)
  have RZ := (R4.set 0 (.slice ao n ac)).set 1 (.slice bo m bc)
  have OZ := (O7.far (p := ⟨w.heap.size, 0, none⟩) (by simp; omega) (.slice ao n ac)).far (p := ⟨w.heap.size, 1, none⟩) (by simp; omega) (.slice bo m bc)
  have SZ := (T6.setCell (a := ⟨w.heap.size, 0, none⟩) (Nat.le_refl _) (.slice ao n ac)).setCell (a := ⟨w.heap.size, 1, none⟩) (Nat.le_refl _) (.slice bo m bc)
  refine hK.out _ _ ⟨BZ.two.1, BZ.two.2.1⟩ (fun hHeld8 => ?_)
  clear hK K hHeld1 BZ
  try simp only [Act.put, List.setIfInBounds_toArray, List.set_cons_zero, List.set_cons_succ]
  refine take_yes 5 (some 3) (v := ?_) rfl (by kernel_rfl) (by kernel_rfl) (by kernel_rfl) (by kernel_rfl) (fun _ _ _ h => h) (by rfl) (by assumption) ?_ ?_
  rotate_left
  · (intro w' hSw; (try dsimp only at hSw); go_simp; try with_reducible rfl)
  try simp only [Act.put, List.setIfInBounds_toArray, List.set_cons_zero, List.set_cons_succ]
  refine wpAnyH_done (by kernel_rfl) ?_ _
  clear hHeld8
  obtain ⟨a0, a1, a2, a3⟩ := RZ.two
  have hZs := OZ.at
  go_wp2_with fail
  refine bodyPost_ret (v := .tuple #[.agg #[.slice ao n ac, .slice bo m bc], .int .i64 x]) (by simp [results, Try.results13, go_sem, *]) rfl ?_
  exact ⟨_, g, x, hx0, hx9, rfl, OZ.fresh (by omega), HV5.out, HE11.out, SZ⟩
set_option maxHeartbeats 1000000 in
set_option maxRecDepth 100000 in
theorem drawHA_any (B : Nat) (w : World) (v : Value) (hB : B ≤ w.heap.size) (hv : CodeIn B w v) : Calls Try.prog 23 #[v] w (DrawGII w) := by
  have hs0 : Since w (w.alloc (.cells #[.slice none 0 0, .slice none 0 0] 27)) := (Since.refl w).alloc _
  have R0 : Hid (Blk (w.alloc (.cells #[.slice none 0 0, .slice none 0 0] 27)) w.heap.size 27 #[.slice none 0 0, .slice none 0 0]) := Blk.new rfl _ _
  have hz0 : w.heap.size + 1 = (w.alloc (.cells #[.slice none 0 0, .slice none 0 0] 27)).heap.size := by simp
  have H := Lib.hid (l1New_any B _ v (show B ≤ (w.alloc (.cells #[.slice none 0 0, .slice none 0 0] 27)).heap.size by omega) (hv.since hs0))
  clear hv
  go_enter Try.func23, Try.ntmps23
  go_wp2_with fail
  refine H.out.mono ?_
  rintro e w1 ⟨cb, rfl, hcb, hc1, hs1⟩
  have hwcb : w.heap.size ≤ cb := by omega
  have hwcb1 : w.heap.size < cb := by omega
  go_wp2_with fail
  refine (l3Any_any B cb _ hc1).mono ?_
  rintro en w2 ⟨vg, g, rfl, hog, hv5, he11, hc2, ht2⟩
  have hz1 := hs1.size
  have hcl := hc1.2.1
  have HOG := Lib.hid (hog.wider (a' := w1.heap.size) (b' := w2.heap.size) (by omega) (by omega))
  obtain ⟨va, vb, rfl, ha, _, hb, _⟩ := hog
  obtain ⟨ao, ac, rfl⟩ := ha.len
  obtain ⟨bo, bc, rfl⟩ := hb.len
  clear ha hb
  have R2 : Hid (Blk w2 w.heap.size 27 #[.slice none 0 0, .slice none 0 0]) := (R0.out.since hs1).grownQ ht2 (fun e => by injection e; omega)
  have S2 := Lib.hid ((hs0.trans hs1).turn hwcb ht2)
  have C2 := Lib.hid hc2
  have HV5 := Lib.hid hv5
  have HE11 := Lib.hid he11
  have hz2 := ht2.size
  clear hs0 hs1 R0 hc1 hc2 ht2 hz0 H
  obtain ⟨n, hn⟩ : ∃ n, n = g.vs.length := ⟨_, rfl⟩
  obtain ⟨m, hm⟩ : ∃ m, m = g.es.length := ⟨_, rfl⟩
  rw [← hn, ← hm] at HOG ⊢
  clear hn hm
  have hsA : Since w2 (w2.alloc (.cells #[.slice ao n ac, .slice bo m bc] 27)) := (Since.refl w2).alloc _
  have BG : Hid (Blk (w2.alloc (.cells #[.slice ao n ac, .slice bo m bc] 27)) w2.heap.size 27 #[.slice ao n ac, .slice bo m bc]) := Blk.new rfl _ _
  have RG := Lib.hid (R2.out.since hsA)
  have CG := Lib.hid (C2.out.since hsA)
  have SG := Lib.hid (S2.out.trans hsA)
  have OG := Lib.hid (HOG.out.since hsA)
  clear R2 C2 S2 HOG hsA
  obtain ⟨G, hG⟩ : ∃ G, G = w2.heap.size := ⟨_, rfl⟩
  rw [← hG] at BG
  have hGc : cb < G := by omega
  have hGw : w.heap.size < G := by omega
  go_wp2_with fail
  rw [← hG]
  generalize (w2.alloc (.cells #[.slice ao n ac, .slice bo m bc] 27)) = y at BG RG CG SG OG ⊢
  have BD := BG.out.drew
  have RD := RG.out.drew
  have CD := CG.out.since (Since.refl y).drew
  have SD := SG.out.drew
  have OD := OG.out.since (Since.refl y).drew
  clear BG RG CG SG OG hG
  refine wp_region_held_drew (S := (fun w' => w'.cell? ⟨G, 0, none⟩ = some (.slice ao n ac) ∧ w'.cell? ⟨G, 1, none⟩ = some (.slice bo m bc))) (by kernel_rfl) ⟨BD.two.1, BD.two.2.1⟩ (fun hHeld => ?_)
  refine take_yes 0 (some 11) (v := ?_) rfl (by kernel_rfl) (by kernel_rfl) (by kernel_rfl) (by kernel_rfl) (fun _ _ _ h => h) (by rfl) (by assumption) ?_ ?_
  rotate_left
  · (intro w' hSw; (try dsimp only at hSw); go_simp; try with_reducible rfl)
  try simp only [Act.put, List.setIfInBounds_toArray, List.set_cons_zero, List.set_cons_succ]
  refine take_yes 1 (some 12) (v := ?_) rfl (by kernel_rfl) (by kernel_rfl) (by kernel_rfl) (by kernel_rfl) (fun _ _ _ h => h) (by rfl) (by assumption) ?_ ?_
  rotate_left
  · (intro w' hSw; (try dsimp only at hSw); go_simp; try with_reducible rfl)
  try simp only [Act.put, List.setIfInBounds_toArray, List.set_cons_zero, List.set_cons_succ]
  refine take_yes 2 (some 13) (v := ?_) rfl (by kernel_rfl) (by kernel_rfl) (by kernel_rfl) (by kernel_rfl) (fun _ _ _ h => h) (by rfl) (by assumption) ?_ ?_
  rotate_left
  · (intro w' hSw; (try dsimp only at hSw); go_simp; try with_reducible rfl)
  try simp only [Act.put, List.setIfInBounds_toArray, List.set_cons_zero, List.set_cons_succ]
  refine take_yes 4 (some 15) (v := ?_) rfl (by kernel_rfl) (by kernel_rfl) (by kernel_rfl) (by kernel_rfl) (fun _ _ _ h => h) (by rfl) (by assumption) ?_ ?_
  rotate_left
  · (intro w' hSw; (try dsimp only at hSw); go_simp; try with_reducible rfl)
  try simp only [Act.put, List.setIfInBounds_toArray, List.set_cons_zero, List.set_cons_succ]
  refine take_run 3 rfl (by kernel_rfl) (by rfl) (fun K hK => ?_)
  go_simp
  refine (l4Node_any B cb _ g _ CD OD.at HV5.out).mono ?_
  rintro en wq10 ⟨x, hx0, hx9, rfl, hcq, htq⟩
  have B11 := BD.grownQ htq (fun e => by injection e; omega)
  have R12 := RD.grownQ htq (fun e => by injection e; omega)
  have T14 := SD.turn hwcb htq
  have O15 := OD.turnG htq (by omega)
  have C13 := hcq
  refine hK.out _ _ ⟨B11.two.1, B11.two.2.1⟩ (fun hHeld9 => ?_)
  clear hK K hHeld hcq htq
  try simp only [Act.put, List.setIfInBounds_toArray, List.set_cons_zero, List.set_cons_succ]
  refine take_run 5 rfl (by kernel_rfl) (by rfl) (fun K hK => ?_)
  go_simp
  refine (l1Below_any B cb 11 _ C13 (by omega) (by omega)).mono ?_
  rintro en wq17 ⟨z, hz0, hz9, rfl, hcq, htq⟩
  have hzw : IntKind.i64.wrap (z - 1) = z - 1 := by rw [IntKind.wrap_i64]; omega
  have B18 := B11.grownQ htq (fun e => by injection e; omega)
  have R19 := R12.grownQ htq (fun e => by injection e; omega)
  have T21 := T14.turn hwcb htq
  have O22 := O15.turnG htq (by omega)
  have C20 := hcq
  refine hK.out _ _ ⟨B18.two.1, B18.two.2.1⟩ (fun hHeld16 => ?_)
  clear hK K hHeld9 hcq htq
  try simp only [Act.put, List.setIfInBounds_toArray, List.set_cons_zero, List.set_cons_succ]
  refine take_yes 6 (some 17) (v := ?_) rfl (by kernel_rfl) (by kernel_rfl) (by kernel_rfl) (by kernel_rfl) (fun _ _ _ h => h) (by rfl) (by assumption) ?_ ?_
  rotate_left
  · (intro w' hSw; (try dsimp only at hSw); go_simp; try with_reducible rfl)
  try simp only [Act.put, List.setIfInBounds_toArray, List.set_cons_zero, List.set_cons_succ]
  refine take_run 7 rfl (by kernel_rfl) (by rfl) (fun K hK => ?_)
  obtain ⟨a0, a1, a2, a3⟩ := R19.two
  obtain ⟨q0, q1, q2, q3⟩ := B18.two
  go_simp
  clear a0 a1 a2 a3 q0 q1 q2 q3
  have BZ := (B18.far (p := ⟨w.heap.size, 0, none⟩) (by simp; omega) (.slice ao n ac)).far (p := ⟨w.heap.size, 1, none⟩) (by simp; omega) (.slice bo m bc)
  have RZ := (R19.set 0 (.slice ao n ac)).set 1 (.slice bo m bc)
  have OZ := (O22.far (p := ⟨w.heap.size, 0, none⟩) (by simp; omega) (.slice ao n ac)).far (p := ⟨w.heap.size, 1, none⟩) (by simp; omega) (.slice bo m bc)
  have SZ := (T21.setCell (a := ⟨w.heap.size, 0, none⟩) (Nat.le_refl _) (.slice ao n ac)).setCell (a := ⟨w.heap.size, 1, none⟩) (Nat.le_refl _) (.slice bo m bc)
  refine hK.out _ _ ⟨BZ.two.1, BZ.two.2.1⟩ (fun hHeld23 => ?_)
  clear hK K hHeld16 BZ
  try simp only [Act.put, List.setIfInBounds_toArray, List.set_cons_zero, List.set_cons_succ]
  refine take_yes 8 (some 3) (v := ?_) rfl (by kernel_rfl) (by kernel_rfl) (by kernel_rfl) (by kernel_rfl) (fun _ _ _ h => h) (by rfl) (by assumption) ?_ ?_
  rotate_left
  · (intro w' hSw; (try dsimp only at hSw); go_simp; try with_reducible rfl)
  try simp only [Act.put, List.setIfInBounds_toArray, List.set_cons_zero, List.set_cons_succ]
  refine take_yes 9 (some 4) (v := ?_) rfl (by kernel_rfl) (by kernel_rfl) (by kernel_rfl) (by kernel_rfl) (fun _ _ _ h => h) (by rfl) (by assumption) ?_ ?_
  rotate_left
  · (intro w' hSw; (try dsimp only at hSw); go_simp; try with_reducible rfl)
  try simp only [Act.put, List.setIfInBounds_toArray, List.set_cons_zero, List.set_cons_succ]
  refine wpAnyH_done (by kernel_rfl) ?_ _
  clear hHeld23
  obtain ⟨a0, a1, a2, a3⟩ := RZ.two
  have hZs := OZ.at
  go_wp2_with fail
  refine bodyPost_ret (v := .tuple #[.agg #[.slice ao n ac, .slice bo m bc], .int .i64 x, .int .i64 (z - 1)]) (by simp [results, Try.results23, go_sem, *]) rfl ?_
  exact ⟨_, g, x, z - 1, hx0, hx9, by omega, by omega, rfl, OZ.fresh (by omega), HV5.out, HE11.out, SZ⟩
end Go.Proofs.Ytilkheclimammaa
