/- FormatEdge, the model's and the program's; its law. -/
import Derived.Test.YtpmkpeclfhmhlaaDoorFmt
import Derived.Test.YtpmkpeclfhmhlaaDoorLetF
import Derived.Test.YtpmkpeclfhmhlaaDoorK2
import Derived.Test.YtpmkpeclfhmhlaaDoorK1
import Derived.Lib.ItoaLen
namespace Go.Proofs.YtpmkpeclfhmhlaaDoor
set_option maxRecDepth 100000
open Go.ChangeShapes Go.WideShapes Go.ChangeAt Go.RowKit
set_option linter.unusedVariables false
set_option linter.unusedSimpArgs false

def itoaS (n : Int) : ByteArray := ⟨(Lib.itoa n).toArray⟩
theorem itoaS_size (n : Int) (h0 : -9223372036854775808 ≤ n) (h1 : n ≤ 9223372036854775807) : (itoaS n).size ≤ 21 := by
  unfold itoaS; simpa [ByteArray.size] using Lib.itoa_length_le n h0 h1
theorem fmtL_size2 (x : Int) : (fmtL x).size ≤ 2 := by
  cases h : inB x 0 8 with
  | false => rw [fmtL_out h]; decide
  | true =>
    obtain ⟨k, hk, rfl⟩ := inB_nat h
    rw [fmtL_in hk]
    rcases nine hk with rfl | rfl | rfl | rfl | rfl | rfl | rfl | rfl | rfl <;> decide
/-- The format of an edge. -/
def fmtE (e : Edg) : ByteArray := if edB 5 e = true then itoaS e.id ++ ⟨#[58]⟩ ++ itoaS e.fr ++ fmtL (2 * e.lb) ++ itoaS e.to else ⟨#[]⟩
theorem fmtE_in {e : Edg} (h : edB 5 e = true) : fmtE e = itoaS e.id ++ ⟨#[58]⟩ ++ itoaS e.fr ++ fmtL (2 * e.lb) ++ itoaS e.to := by unfold fmtE; rw [if_pos h]
theorem fmtE_out {e : Edg} (h : edB 5 e = false) : fmtE e = ⟨#[]⟩ := by unfold fmtE; rw [if_neg (by rw [h]; decide)]
set_option maxHeartbeats 2000000 in
set_option maxRecDepth 100000 in
theorem specFE_any (e : Edg) (w : World) : Calls Tryd.prog 7 #[ev e] w fun en w' => en = .returned (.string (fmtE e)) ∧ Since w w' := by
  unfold ev
  have hs0 : Since w (w.alloc (.cells #[.int .i64 e.id, .int .i64 e.fr, .int .i64 e.to, .int .i64 e.lb] 25)) := (Since.refl w).alloc _
  have B0 : Hid (Blk (w.alloc (.cells #[.int .i64 e.id, .int .i64 e.fr, .int .i64 e.to, .int .i64 e.lb] 25)) w.heap.size 25 #[.int .i64 e.id, .int .i64 e.fr, .int .i64 e.to, .int .i64 e.lb]) := Blk.new rfl _ _
  rcases Bool.eq_false_or_eq_true (edB 5 e) with hb | hb
  · skip
    obtain ⟨c0, c1, c2, c3⟩ := (edB_iff 5 e).1 hb
    obtain ⟨i0, i9⟩ := c0
    obtain ⟨f0, f9⟩ := c1
    obtain ⟨t0, t9⟩ := c2
    obtain ⟨l0, l9⟩ := c3
    have HO := Lib.hid (fmtE_in hb)
    have sA := itoaS_size e.id (by omega) (by omega)
    have sB := itoaS_size e.fr (by omega) (by omega)
    have sC := fmtL_size2 (2 * e.lb)
    have sD := itoaS_size e.to (by omega) (by omega)
    have HA : Hid (∀ W, Calls Tryd.prog 23 #[.int .i64 e.id] W fun en w' => en = .returned (.string (itoaS e.id)) ∧ Since W w') := fun W => specFI_any e.id W (by omega) (by omega)
    have HB : Hid (∀ W, Calls Tryd.prog 23 #[.int .i64 e.fr] W fun en w' => en = .returned (.string (itoaS e.fr)) ∧ Since W w') := fun W => specFI_any e.fr W (by omega) (by omega)
    have HC : Hid (∀ W, Calls Tryd.prog 24 #[.int .i64 (2 * e.lb)] W fun en w' => en = .returned (.string (fmtL (2 * e.lb))) ∧ Since W w') := fun W => specFL_any (2 * e.lb) W
    have HD : Hid (∀ W, Calls Tryd.prog 23 #[.int .i64 e.to] W fun en w' => en = .returned (.string (itoaS e.to)) ∧ Since W w') := fun W => specFI_any e.to W (by omega) (by omega)
    generalize itoaS e.id = A at HO sA HA
    generalize itoaS e.fr = B at HO sB HB
    generalize fmtL (2 * e.lb) = C at HO sC HC
    generalize itoaS e.to = D at HO sD HD
    have n1 : ¬ 9223372036854775807 < A.size + 1 := by omega
    have n2 : ¬ 9223372036854775807 < A.size + 1 + B.size := by omega
    have n3 : ¬ 9223372036854775807 < A.size + 1 + B.size + C.size := by omega
    have n4 : ¬ 9223372036854775807 < A.size + 1 + B.size + C.size + D.size := by omega
    have n5 : IntKind.i64.wrap (2 * e.lb) = 2 * e.lb := by rw [IntKind.wrap_i64]; omega
    have d1 := inB_true i0 i9
    have d2 := inB_true (x := e.fr) (lo := 0) (hi := 4) f0 (by omega)
    have d3 := inB_true (x := e.to) (lo := 0) (hi := 4) t0 (by omega)
    have d4 := inB_true (x := e.lb) (lo := 0) (hi := 2) l0 l9
    clear hb
    go_enter Tryd.func7, Tryd.ntmps7
    go_wp2_with (go_at_call 22; refine (l1In_any _ _ _ _).mono ?_; rintro en w' ⟨rfl, rfl⟩)
    obtain ⟨y, hy⟩ : ∃ y, y = (w.alloc (.cells #[.int .i64 e.id, .int .i64 e.fr, .int .i64 e.to, .int .i64 e.lb] 25)) := ⟨_, rfl⟩
    rw [← hy] at hs0 B0 ⊢
    have hs := hs0
    have b0 := B0
    clear hy hs0 B0
    have HKC : Hid (∀ w', Since y w' → w'.cell? ⟨w.heap.size, 0, none⟩ = some (.int .i64 e.id) ∧ w'.cell? ⟨w.heap.size, 1, none⟩ = some (.int .i64 e.fr) ∧ w'.cell? ⟨w.heap.size, 2, none⟩ = some (.int .i64 e.to) ∧ w'.cell? ⟨w.heap.size, 3, none⟩ = some (.int .i64 e.lb)) := by
      intro w' hs
      obtain ⟨x0, x1, x2, x3, _, _, _, _⟩ := (b0.out.since hs).four
      exact ⟨x0, x1, x2, x3⟩
    go_wp2_with fail
    refine wp_region_held_drew (S := (fun w' => w'.cell? ⟨w.heap.size, 0, none⟩ = some (.int .i64 e.id) ∧ w'.cell? ⟨w.heap.size, 1, none⟩ = some (.int .i64 e.fr) ∧ w'.cell? ⟨w.heap.size, 2, none⟩ = some (.int .i64 e.to) ∧ w'.cell? ⟨w.heap.size, 3, none⟩ = some (.int .i64 e.lb))) (by kernel_rfl) (HKC.out _ (Since.refl _).drew) (fun hHeld => ?_)
    refine take_yes 0 (some 25) (v := ?_) rfl (by kernel_rfl) (by kernel_rfl) (by kernel_rfl) (by kernel_rfl) (fun _ _ _ h => h) (by rfl) (by assumption) ?_ ?_
    rotate_left
    · (intro w' hSw; (try dsimp only at hSw); go_simp; try with_reducible rfl)
    try simp only [Act.put, List.setIfInBounds_toArray, List.set_cons_zero, List.set_cons_succ]
    refine take_yes 1 (some 26) (v := ?_) rfl (by kernel_rfl) (by kernel_rfl) (by kernel_rfl) (by kernel_rfl) (fun _ _ _ h => h) (by rfl) (by assumption) ?_ ?_
    rotate_left
    · (intro w' hSw; (try dsimp only at hSw); go_simp; try with_reducible rfl)
    try simp only [Act.put, List.setIfInBounds_toArray, List.set_cons_zero, List.set_cons_succ]
    refine take_yes 4 (some 29) (v := ?_) rfl (by kernel_rfl) (by kernel_rfl) (by kernel_rfl) (by kernel_rfl) (fun _ _ _ h => h) (by rfl) (by assumption) ?_ ?_
    rotate_left
    · (intro w' hSw; (try dsimp only at hSw); go_simp; try with_reducible rfl)
    try simp only [Act.put, List.setIfInBounds_toArray, List.set_cons_zero, List.set_cons_succ]
    refine take_yes 5 (some 30) (v := ?_) rfl (by kernel_rfl) (by kernel_rfl) (by kernel_rfl) (by kernel_rfl) (fun _ _ _ h => h) (by rfl) (by assumption) ?_ ?_
    rotate_left
    · (intro w' hSw; (try dsimp only at hSw); go_simp; try with_reducible rfl)
    try simp only [Act.put, List.setIfInBounds_toArray, List.set_cons_zero, List.set_cons_succ]
    refine take_yes 8 (some 33) (v := ?_) rfl (by kernel_rfl) (by kernel_rfl) (by kernel_rfl) (by kernel_rfl) (fun _ _ _ h => h) (by rfl) (by assumption) ?_ ?_
    rotate_left
    · (intro w' hSw; (try dsimp only at hSw); go_simp; try with_reducible rfl)
    try simp only [Act.put, List.setIfInBounds_toArray, List.set_cons_zero, List.set_cons_succ]
    refine take_yes 9 (some 34) (v := ?_) rfl (by kernel_rfl) (by kernel_rfl) (by kernel_rfl) (by kernel_rfl) (fun _ _ _ h => h) (by rfl) (by assumption) ?_ ?_
    rotate_left
    · (intro w' hSw; (try dsimp only at hSw); go_simp; try with_reducible rfl)
    try simp only [Act.put, List.setIfInBounds_toArray, List.set_cons_zero, List.set_cons_succ]
    refine take_yes 10 (some 35) (v := ?_) rfl (by kernel_rfl) (by kernel_rfl) (by kernel_rfl) (by kernel_rfl) (fun _ _ _ h => h) (by rfl) (by assumption) ?_ ?_
    rotate_left
    · (intro w' hSw; (try dsimp only at hSw); go_simp; try with_reducible rfl)
    try simp only [Act.put, List.setIfInBounds_toArray, List.set_cons_zero, List.set_cons_succ]
    refine take_yes 13 (some 38) (v := ?_) rfl (by kernel_rfl) (by kernel_rfl) (by kernel_rfl) (by kernel_rfl) (fun _ _ _ h => h) (by rfl) (by assumption) ?_ ?_
    rotate_left
    · (intro w' hSw; (try dsimp only at hSw); go_simp; try with_reducible rfl)
    try simp only [Act.put, List.setIfInBounds_toArray, List.set_cons_zero, List.set_cons_succ]
    refine take_yes 14 (some 39) (v := ?_) rfl (by kernel_rfl) (by kernel_rfl) (by kernel_rfl) (by kernel_rfl) (fun _ _ _ h => h) (by rfl) (by assumption) ?_ ?_
    rotate_left
    · (intro w' hSw; (try dsimp only at hSw); go_simp; try with_reducible rfl)
    try simp only [Act.put, List.setIfInBounds_toArray, List.set_cons_zero, List.set_cons_succ]
    refine take_run 2 rfl (by kernel_rfl) (by rfl) (fun K hK => ?_)
    go_simp
    refine (HA.out _).mono ?_
    rintro en q1 ⟨rfl, hq1⟩
    have hc1 := Since.trans (Since.refl y).drew hq1
    refine hK.out _ _ (HKC.out _ hc1) (fun hHeld1 => ?_)
    clear hK K hHeld
    try simp only [Act.put, List.setIfInBounds_toArray, List.set_cons_zero, List.set_cons_succ]
    refine take_yes 3 (some 28) (v := ?_) rfl (by kernel_rfl) (by kernel_rfl) (by kernel_rfl) (by kernel_rfl) (fun _ _ _ h => h) (by rfl) (by assumption) ?_ ?_
    rotate_left
    · (intro w' hSw; (try dsimp only at hSw); go_simp; try with_reducible rfl)
    try simp only [Act.put, List.setIfInBounds_toArray, List.set_cons_zero, List.set_cons_succ]
    refine take_run 6 rfl (by kernel_rfl) (by rfl) (fun K hK => ?_)
    go_simp
    refine (HB.out _).mono ?_
    rintro en q2 ⟨rfl, hq2⟩
    have hc2 := Since.trans hc1 hq2
    refine hK.out _ _ (HKC.out _ hc2) (fun hHeld2 => ?_)
    clear hK K hHeld1
    try simp only [Act.put, List.setIfInBounds_toArray, List.set_cons_zero, List.set_cons_succ]
    refine take_yes 7 (some 32) (v := ?_) rfl (by kernel_rfl) (by kernel_rfl) (by kernel_rfl) (by kernel_rfl) (fun _ _ _ h => h) (by rfl) (by assumption) ?_ ?_
    rotate_left
    · (intro w' hSw; (try dsimp only at hSw); go_simp; try with_reducible rfl)
    try simp only [Act.put, List.setIfInBounds_toArray, List.set_cons_zero, List.set_cons_succ]
    refine take_run 11 rfl (by kernel_rfl) (by rfl) (fun K hK => ?_)
    go_simp
    refine (HC.out _).mono ?_
    rintro en q3 ⟨rfl, hq3⟩
    have hc3 := Since.trans hc2 hq3
    refine hK.out _ _ (HKC.out _ hc3) (fun hHeld3 => ?_)
    clear hK K hHeld2
    try simp only [Act.put, List.setIfInBounds_toArray, List.set_cons_zero, List.set_cons_succ]
    refine take_yes 12 (some 37) (v := ?_) rfl (by kernel_rfl) (by kernel_rfl) (by kernel_rfl) (by kernel_rfl) (fun _ _ _ h => h) (by rfl) (by assumption) ?_ ?_
    rotate_left
    · (intro w' hSw; (try dsimp only at hSw); go_simp; try with_reducible rfl)
    try simp only [Act.put, List.setIfInBounds_toArray, List.set_cons_zero, List.set_cons_succ]
    refine take_run 15 rfl (by kernel_rfl) (by rfl) (fun K hK => ?_)
    go_simp
    refine (HD.out _).mono ?_
    rintro en q4 ⟨rfl, hq4⟩
    have hc4 := Since.trans hc3 hq4
    refine hK.out _ _ (HKC.out _ hc4) (fun hHeld4 => ?_)
    clear hK K hHeld3
    try simp only [Act.put, List.setIfInBounds_toArray, List.set_cons_zero, List.set_cons_succ]
    refine take_yes 16 (some 41) (v := ?_) rfl (by kernel_rfl) (by kernel_rfl) (by kernel_rfl) (by kernel_rfl) (fun _ _ _ h => h) (by rfl) (by assumption) ?_ ?_
    rotate_left
    · (intro w' hSw; (try dsimp only at hSw); go_simp; try with_reducible rfl)
    try simp only [Act.put, List.setIfInBounds_toArray, List.set_cons_zero, List.set_cons_succ]
    refine take_yes 17 (some 2) (v := ?_) rfl (by kernel_rfl) (by kernel_rfl) (by kernel_rfl) (by kernel_rfl) (fun _ _ _ h => h) (by rfl) (by assumption) ?_ ?_
    rotate_left
    · (intro w' hSw; (try dsimp only at hSw); go_simp; try with_reducible rfl)
    try simp only [Act.put, List.setIfInBounds_toArray, List.set_cons_zero, List.set_cons_succ]
    refine wpAnyH_done (by kernel_rfl) ?_ _
    clear hHeld4 HKC
    have hs9 := hs.trans hc4
    go_wp2
    go_ret
    exact ⟨ret_str HO.out.symm, hs9⟩
  · have HO := Lib.hid (fmtE_out hb)
    have hb' := hb
    rw [edB_split 5 e 4 rfl] at hb'
    clear hb
    rcases Bool.eq_false_or_eq_true (inB e.id 1 99) with d1 | d1
    · rcases Bool.eq_false_or_eq_true (inB e.fr 0 4) with d2 | d2
      · rcases Bool.eq_false_or_eq_true (inB e.to 0 4) with d3 | d3
        · have d4 : inB e.lb 0 2 = false := by rw [d1, d2, d3] at hb'; simpa using hb'
          clear hb'
          go_enter Tryd.func7, Tryd.ntmps7
          go_wp2_with (go_at_call 22; refine (l1In_any _ _ _ _).mono ?_; rintro en w' ⟨rfl, rfl⟩)
          go_ret
          exact ⟨ret_str HO.out.symm, hs0⟩
        · clear hb'
          go_enter Tryd.func7, Tryd.ntmps7
          go_wp2_with (go_at_call 22; refine (l1In_any _ _ _ _).mono ?_; rintro en w' ⟨rfl, rfl⟩)
          go_ret
          exact ⟨ret_str HO.out.symm, hs0⟩
      · clear hb'
        go_enter Tryd.func7, Tryd.ntmps7
        go_wp2_with (go_at_call 22; refine (l1In_any _ _ _ _).mono ?_; rintro en w' ⟨rfl, rfl⟩)
        go_ret
        exact ⟨ret_str HO.out.symm, hs0⟩
    · clear hb'
      go_enter Tryd.func7, Tryd.ntmps7
      go_wp2_with (go_at_call 22; refine (l1In_any _ _ _ _).mono ?_; rintro en w' ⟨rfl, rfl⟩)
      go_ret
      exact ⟨ret_str HO.out.symm, hs0⟩

set_option maxHeartbeats 2000000 in
set_option maxRecDepth 100000 in
theorem implFE_any (e : Edg) (w : World) (htab : Tab w) (hfm : Fmts w) : Calls Tryd.prog 9 #[ev e] w fun en w' => en = .returned (.string (fmtE e)) ∧ Since w w' := by
  unfold ev
  have hs0 : Since w (w.alloc (.cells #[.int .i64 e.id, .int .i64 e.fr, .int .i64 e.to, .int .i64 e.lb] 25)) := (Since.refl w).alloc _
  have B0 : Hid (Blk (w.alloc (.cells #[.int .i64 e.id, .int .i64 e.fr, .int .i64 e.to, .int .i64 e.lb] 25)) w.heap.size 25 #[.int .i64 e.id, .int .i64 e.fr, .int .i64 e.to, .int .i64 e.lb]) := Blk.new rfl _ _
  rcases Bool.eq_false_or_eq_true (edB 5 e) with hb | hb
  · skip
    obtain ⟨c0, c1, c2, c3⟩ := (edB_iff 5 e).1 hb
    obtain ⟨i0, i9⟩ := c0
    obtain ⟨f0, f9⟩ := c1
    obtain ⟨t0, t9⟩ := c2
    obtain ⟨l0, l9⟩ := c3
    have HO := Lib.hid (fmtE_in hb)
    have sA := itoaS_size e.id (by omega) (by omega)
    have sB := itoaS_size e.fr (by omega) (by omega)
    have sC := fmtL_size2 (2 * e.lb)
    have sD := itoaS_size e.to (by omega) (by omega)
    have HE : Hid (∀ W, Calls Tryd.prog 25 #[.agg #[.int .i64 e.id, .int .i64 e.fr, .int .i64 e.to, .int .i64 e.lb], .int .i64 5] W fun en w' => en = .returned (.bool true) ∧ Since W w') := fun W => isEdge_is e 5 true W hb
    have HA : Hid (∀ W, Since w W → Calls Tryd.prog 26 #[.int .i64 e.id] W fun en w' => en = .returned (.string (itoaS e.id)) ∧ Since W w') := fun W hW => implFI_any e.id W (by omega) (by omega) (htab.since hW)
    have HB : Hid (∀ W, Since w W → Calls Tryd.prog 26 #[.int .i64 e.fr] W fun en w' => en = .returned (.string (itoaS e.fr)) ∧ Since W w') := fun W hW => implFI_any e.fr W (by omega) (by omega) (htab.since hW)
    have HC : Hid (∀ W, Since w W → Calls Tryd.prog 27 #[.int .i64 (2 * e.lb)] W fun en w' => en = .returned (.string (fmtL (2 * e.lb))) ∧ Since W w') := fun W hW => implFL_any (2 * e.lb) W (hfm.since hW)
    have HD : Hid (∀ W, Since w W → Calls Tryd.prog 26 #[.int .i64 e.to] W fun en w' => en = .returned (.string (itoaS e.to)) ∧ Since W w') := fun W hW => implFI_any e.to W (by omega) (by omega) (htab.since hW)
    generalize itoaS e.id = A at HO sA HA
    generalize itoaS e.fr = B at HO sB HB
    generalize fmtL (2 * e.lb) = C at HO sC HC
    generalize itoaS e.to = D at HO sD HD
    have n1 : ¬ 9223372036854775807 < A.size + 1 := by omega
    have n2 : ¬ 9223372036854775807 < A.size + 1 + B.size := by omega
    have n3 : ¬ 9223372036854775807 < A.size + 1 + B.size + C.size := by omega
    have n4 : ¬ 9223372036854775807 < A.size + 1 + B.size + C.size + D.size := by omega
    have n5 : IntKind.i64.wrap (2 * e.lb) = 2 * e.lb := by rw [IntKind.wrap_i64]; omega
    clear hb htab hfm
    go_enter Tryd.func9, Tryd.ntmps9
    go_wp2_with fail
    refine (HE.out _).mono ?_
    rintro en y ⟨rfl, hs1⟩
    have hs := hs0.trans hs1
    have b0 := Lib.hid (B0.out.since hs1)
    clear hs0 B0 hs1
    have HKC : Hid (∀ w', Since y w' → w'.cell? ⟨w.heap.size, 0, none⟩ = some (.int .i64 e.id) ∧ w'.cell? ⟨w.heap.size, 1, none⟩ = some (.int .i64 e.fr) ∧ w'.cell? ⟨w.heap.size, 2, none⟩ = some (.int .i64 e.to) ∧ w'.cell? ⟨w.heap.size, 3, none⟩ = some (.int .i64 e.lb)) := by
      intro w' hs
      obtain ⟨x0, x1, x2, x3, _, _, _, _⟩ := (b0.out.since hs).four
      exact ⟨x0, x1, x2, x3⟩
    go_wp2_with fail
    refine wp_region_held_drew (S := (fun w' => w'.cell? ⟨w.heap.size, 0, none⟩ = some (.int .i64 e.id) ∧ w'.cell? ⟨w.heap.size, 1, none⟩ = some (.int .i64 e.fr) ∧ w'.cell? ⟨w.heap.size, 2, none⟩ = some (.int .i64 e.to) ∧ w'.cell? ⟨w.heap.size, 3, none⟩ = some (.int .i64 e.lb))) (by kernel_rfl) (HKC.out _ (Since.refl _).drew) (fun hHeld => ?_)
    refine take_yes 0 (some 6) (v := ?_) rfl (by kernel_rfl) (by kernel_rfl) (by kernel_rfl) (by kernel_rfl) (fun _ _ _ h => h) (by rfl) (by assumption) ?_ ?_
    rotate_left
    · (intro w' hSw; (try dsimp only at hSw); go_simp; try with_reducible rfl)
    try simp only [Act.put, List.setIfInBounds_toArray, List.set_cons_zero, List.set_cons_succ]
    refine take_yes 1 (some 7) (v := ?_) rfl (by kernel_rfl) (by kernel_rfl) (by kernel_rfl) (by kernel_rfl) (fun _ _ _ h => h) (by rfl) (by assumption) ?_ ?_
    rotate_left
    · (intro w' hSw; (try dsimp only at hSw); go_simp; try with_reducible rfl)
    try simp only [Act.put, List.setIfInBounds_toArray, List.set_cons_zero, List.set_cons_succ]
    refine take_yes 4 (some 10) (v := ?_) rfl (by kernel_rfl) (by kernel_rfl) (by kernel_rfl) (by kernel_rfl) (fun _ _ _ h => h) (by rfl) (by assumption) ?_ ?_
    rotate_left
    · (intro w' hSw; (try dsimp only at hSw); go_simp; try with_reducible rfl)
    try simp only [Act.put, List.setIfInBounds_toArray, List.set_cons_zero, List.set_cons_succ]
    refine take_yes 5 (some 11) (v := ?_) rfl (by kernel_rfl) (by kernel_rfl) (by kernel_rfl) (by kernel_rfl) (fun _ _ _ h => h) (by rfl) (by assumption) ?_ ?_
    rotate_left
    · (intro w' hSw; (try dsimp only at hSw); go_simp; try with_reducible rfl)
    try simp only [Act.put, List.setIfInBounds_toArray, List.set_cons_zero, List.set_cons_succ]
    refine take_yes 8 (some 14) (v := ?_) rfl (by kernel_rfl) (by kernel_rfl) (by kernel_rfl) (by kernel_rfl) (fun _ _ _ h => h) (by rfl) (by assumption) ?_ ?_
    rotate_left
    · (intro w' hSw; (try dsimp only at hSw); go_simp; try with_reducible rfl)
    try simp only [Act.put, List.setIfInBounds_toArray, List.set_cons_zero, List.set_cons_succ]
    refine take_yes 9 (some 15) (v := ?_) rfl (by kernel_rfl) (by kernel_rfl) (by kernel_rfl) (by kernel_rfl) (fun _ _ _ h => h) (by rfl) (by assumption) ?_ ?_
    rotate_left
    · (intro w' hSw; (try dsimp only at hSw); go_simp; try with_reducible rfl)
    try simp only [Act.put, List.setIfInBounds_toArray, List.set_cons_zero, List.set_cons_succ]
    refine take_yes 10 (some 16) (v := ?_) rfl (by kernel_rfl) (by kernel_rfl) (by kernel_rfl) (by kernel_rfl) (fun _ _ _ h => h) (by rfl) (by assumption) ?_ ?_
    rotate_left
    · (intro w' hSw; (try dsimp only at hSw); go_simp; try with_reducible rfl)
    try simp only [Act.put, List.setIfInBounds_toArray, List.set_cons_zero, List.set_cons_succ]
    refine take_yes 13 (some 19) (v := ?_) rfl (by kernel_rfl) (by kernel_rfl) (by kernel_rfl) (by kernel_rfl) (fun _ _ _ h => h) (by rfl) (by assumption) ?_ ?_
    rotate_left
    · (intro w' hSw; (try dsimp only at hSw); go_simp; try with_reducible rfl)
    try simp only [Act.put, List.setIfInBounds_toArray, List.set_cons_zero, List.set_cons_succ]
    refine take_yes 14 (some 20) (v := ?_) rfl (by kernel_rfl) (by kernel_rfl) (by kernel_rfl) (by kernel_rfl) (fun _ _ _ h => h) (by rfl) (by assumption) ?_ ?_
    rotate_left
    · (intro w' hSw; (try dsimp only at hSw); go_simp; try with_reducible rfl)
    try simp only [Act.put, List.setIfInBounds_toArray, List.set_cons_zero, List.set_cons_succ]
    refine take_run 2 rfl (by kernel_rfl) (by rfl) (fun K hK => ?_)
    go_simp
    refine (HA.out _ (hs.trans (Since.refl y).drew)).mono ?_
    rintro en q1 ⟨rfl, hq1⟩
    have hc1 := Since.trans (Since.refl y).drew hq1
    refine hK.out _ _ (HKC.out _ hc1) (fun hHeld1 => ?_)
    clear hK K hHeld
    try simp only [Act.put, List.setIfInBounds_toArray, List.set_cons_zero, List.set_cons_succ]
    refine take_yes 3 (some 9) (v := ?_) rfl (by kernel_rfl) (by kernel_rfl) (by kernel_rfl) (by kernel_rfl) (fun _ _ _ h => h) (by rfl) (by assumption) ?_ ?_
    rotate_left
    · (intro w' hSw; (try dsimp only at hSw); go_simp; try with_reducible rfl)
    try simp only [Act.put, List.setIfInBounds_toArray, List.set_cons_zero, List.set_cons_succ]
    refine take_run 6 rfl (by kernel_rfl) (by rfl) (fun K hK => ?_)
    go_simp
    refine (HB.out _ (hs.trans hc1)).mono ?_
    rintro en q2 ⟨rfl, hq2⟩
    have hc2 := Since.trans hc1 hq2
    refine hK.out _ _ (HKC.out _ hc2) (fun hHeld2 => ?_)
    clear hK K hHeld1
    try simp only [Act.put, List.setIfInBounds_toArray, List.set_cons_zero, List.set_cons_succ]
    refine take_yes 7 (some 13) (v := ?_) rfl (by kernel_rfl) (by kernel_rfl) (by kernel_rfl) (by kernel_rfl) (fun _ _ _ h => h) (by rfl) (by assumption) ?_ ?_
    rotate_left
    · (intro w' hSw; (try dsimp only at hSw); go_simp; try with_reducible rfl)
    try simp only [Act.put, List.setIfInBounds_toArray, List.set_cons_zero, List.set_cons_succ]
    refine take_run 11 rfl (by kernel_rfl) (by rfl) (fun K hK => ?_)
    go_simp
    refine (HC.out _ (hs.trans hc2)).mono ?_
    rintro en q3 ⟨rfl, hq3⟩
    have hc3 := Since.trans hc2 hq3
    refine hK.out _ _ (HKC.out _ hc3) (fun hHeld3 => ?_)
    clear hK K hHeld2
    try simp only [Act.put, List.setIfInBounds_toArray, List.set_cons_zero, List.set_cons_succ]
    refine take_yes 12 (some 18) (v := ?_) rfl (by kernel_rfl) (by kernel_rfl) (by kernel_rfl) (by kernel_rfl) (fun _ _ _ h => h) (by rfl) (by assumption) ?_ ?_
    rotate_left
    · (intro w' hSw; (try dsimp only at hSw); go_simp; try with_reducible rfl)
    try simp only [Act.put, List.setIfInBounds_toArray, List.set_cons_zero, List.set_cons_succ]
    refine take_run 15 rfl (by kernel_rfl) (by rfl) (fun K hK => ?_)
    go_simp
    refine (HD.out _ (hs.trans hc3)).mono ?_
    rintro en q4 ⟨rfl, hq4⟩
    have hc4 := Since.trans hc3 hq4
    refine hK.out _ _ (HKC.out _ hc4) (fun hHeld4 => ?_)
    clear hK K hHeld3
    try simp only [Act.put, List.setIfInBounds_toArray, List.set_cons_zero, List.set_cons_succ]
    refine take_yes 16 (some 22) (v := ?_) rfl (by kernel_rfl) (by kernel_rfl) (by kernel_rfl) (by kernel_rfl) (fun _ _ _ h => h) (by rfl) (by assumption) ?_ ?_
    rotate_left
    · (intro w' hSw; (try dsimp only at hSw); go_simp; try with_reducible rfl)
    try simp only [Act.put, List.setIfInBounds_toArray, List.set_cons_zero, List.set_cons_succ]
    refine take_yes 17 (some 2) (v := ?_) rfl (by kernel_rfl) (by kernel_rfl) (by kernel_rfl) (by kernel_rfl) (fun _ _ _ h => h) (by rfl) (by assumption) ?_ ?_
    rotate_left
    · (intro w' hSw; (try dsimp only at hSw); go_simp; try with_reducible rfl)
    try simp only [Act.put, List.setIfInBounds_toArray, List.set_cons_zero, List.set_cons_succ]
    refine wpAnyH_done (by kernel_rfl) ?_ _
    clear hHeld4 HKC
    have hs9 := hs.trans hc4
    go_wp2
    go_ret
    exact ⟨ret_str HO.out.symm, hs9⟩
  · have HO := Lib.hid (fmtE_out hb)
    have HE : Hid (∀ W, Calls Tryd.prog 25 #[.agg #[.int .i64 e.id, .int .i64 e.fr, .int .i64 e.to, .int .i64 e.lb], .int .i64 5] W fun en w' => en = .returned (.bool false) ∧ Since W w') := fun W => isEdge_is e 5 false W hb
    clear hb htab hfm
    go_enter Tryd.func9, Tryd.ntmps9
    go_wp2_with fail
    refine (HE.out _).mono ?_
    rintro en y ⟨rfl, hs1⟩
    have hs := hs0.trans hs1
    go_wp2
    go_ret
    exact ⟨ret_str HO.out.symm, hs⟩

end Go.Proofs.YtpmkpeclfhmhlaaDoor
