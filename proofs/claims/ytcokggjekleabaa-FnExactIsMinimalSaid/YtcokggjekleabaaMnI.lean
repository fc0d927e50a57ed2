/- IsMinimal, the program's and the model's. -/
import Derived.Test.YtcokggjekleabaaMzI
import Derived.Test.YtcokggjekleabaaAuE
namespace Go.Proofs.Ytcokggjekleabaa
set_option maxRecDepth 100000
open Go.ChangeShapes Go.WideShapes Go.ChangeAt Go.RowKit Go.Maps
set_option linter.unusedVariables false
set_option linter.unusedSimpArgs false

def mnB (A : Aut) (f : Nat → Bool) : Bool := validA A && decide (A = minN A f)
theorem mnB_eq {A : Aut} {f : Nat → Bool} (h : validA A = true) : mnB A f = decide (A = minN A f) := by unfold mnB; rw [h, Bool.true_and]
theorem mnB_eq' {A : Aut} {f : Nat → Bool} (h : validA A = true) : mnB A f = decide (minN A f = A) := by
  rw [mnB_eq h]
  by_cases e : A = minN A f
  · rw [decide_eq_true e, decide_eq_true e.symm]
  · rw [decide_eq_false e, decide_eq_false (fun k => e k.symm)]
set_option maxHeartbeats 8000000 in
set_option maxRecDepth 100000 in
theorem implMN_any (v : Value) (A : Aut) (f : Nat → Bool) (w : World) (h : AutAt w v A) (hm : MxA A) (hb : BgA A) (hf : ∀ s, f s = true ↔ LiveP A s) :
    Calls Try.prog 47 #[v] w fun e w' => e = .returned (.bool (mnB A f)) ∧ Since w w' := by
  have HVA : Hid (∀ W, Since w W → Calls Try.prog 51 #[v] W fun e w' => e = .returned (.bool (validA A)) ∧ Since W w') := fun W hW => implVA_any v A W (h.since hW) hm
  cases e : validA A with
  | false =>
    have HB := Lib.hid e
    have HE : Hid (mnB A f = false) := by unfold Hid mnB; rw [e]; rfl
    obtain ⟨a, b, rfl, _, ha, hb⟩ := h
    obtain ⟨ao, ca, rfl⟩ := ha.len
    obtain ⟨bo, cb, rfl⟩ := hb.len
    clear ha hb hm hf e
    obtain ⟨n, hn⟩ : ∃ n, n = A.ac.length := ⟨_, rfl⟩
    obtain ⟨m, hmm⟩ : ∃ n, n = A.nx.length := ⟨_, rfl⟩
    rw [← hn, ← hmm] at HVA
    rw [← hn, ← hmm, HE.out]
    clear hn hmm
    obtain ⟨y, hy⟩ : ∃ y, y = w.alloc (.cells #[.int .i64 A.st, .slice ao n ca, .slice bo m cb] 27) := ⟨_, rfl⟩
    have hs0 : Since w y := by rw [hy]; exact (Since.refl w).alloc _
    have B0 : Hid (Blk y w.heap.size 27 #[.int .i64 A.st, .slice ao n ca, .slice bo m cb]) := by rw [hy]; exact Blk.new rfl _ _
    have HY := Lib.hid hy
    have HSW := Lib.hid hs0
    have HKC : Hid (∀ w', Since y w' → w'.cell? ⟨w.heap.size, 0, none⟩ = some (.int .i64 A.st) ∧ w'.cell? ⟨w.heap.size, 1, none⟩ = some (.slice ao n ca) ∧ w'.cell? ⟨w.heap.size, 2, none⟩ = some (.slice bo m cb)) := by
      intro w' hs
      obtain ⟨⟨r0, r1, r2⟩, _⟩ := (B0.out.since hs).threeA
      exact ⟨r0, r1, r2⟩
    clear hy hs0
    go_enter Try.func47, Try.ntmps47
    go_upto_region 1 with fail
    rw [← HY.out]
    go_wp2_with fail
    refine wp_region_held_drew (S := (fun w' => w'.cell? ⟨w.heap.size, 0, none⟩ = some (.int .i64 A.st) ∧ w'.cell? ⟨w.heap.size, 1, none⟩ = some (.slice ao n ca) ∧ w'.cell? ⟨w.heap.size, 2, none⟩ = some (.slice bo m cb))) (by kernel_rfl) (HKC.out _ (Since.refl _).drew) (fun hHeld => ?_)
    refine take_yes 0 (some 3) (v := ?_) rfl (by kernel_rfl) (by kernel_rfl) (by kernel_rfl) (by kernel_rfl) (fun _ _ _ h => h) (by rfl) (by assumption) ?_ ?_
    rotate_left
    · (intro w' hSw; (try dsimp only at hSw); go_simp; try with_reducible rfl)
    try simp only [Act.put, List.setIfInBounds_toArray, List.set_cons_zero, List.set_cons_succ]
    refine take_run 1 rfl (by kernel_rfl) (by rfl) (fun K hK => ?_)
    go_simp
    refine (HVA.out _ (HSW.out.trans (Since.refl _).drew)).mono ?_
    rintro e w2 ⟨rfl, hs2⟩
    rw [HB.out]
    have hc2 := Since.of_drew hs2
    refine hK.out _ _ (HKC.out _ hc2) (fun hHeld2 => ?_)
    clear hK K hHeld
    try simp only [Act.put, List.setIfInBounds_toArray, List.set_cons_zero, List.set_cons_succ]
    refine take_yes 2 (some 5) (v := ?_) rfl (by kernel_rfl) (by kernel_rfl) (by kernel_rfl) (by kernel_rfl) (fun _ _ _ h => h) (by rfl) (by assumption) ?_ ?_
    rotate_left
    · (intro w' hSw; (try dsimp only at hSw); go_simp; try with_reducible rfl)
    try simp only [Act.put, List.setIfInBounds_toArray, List.set_cons_zero, List.set_cons_succ]
    refine take_no 3 (some 6) rfl (by kernel_rfl) (by kernel_rfl) (by kernel_rfl) (by kernel_rfl) (fun _ _ _ h => h) (by rfl) (by assumption) ?_
    try simp only [Act.put, List.setIfInBounds_toArray, List.set_cons_zero, List.set_cons_succ]
    refine take_no 4 (some 7) rfl (by kernel_rfl) (by kernel_rfl) (by kernel_rfl) (by kernel_rfl) (fun _ _ _ h => h) (by rfl) (by assumption) ?_
    try simp only [Act.put, List.setIfInBounds_toArray, List.set_cons_zero, List.set_cons_succ]
    refine take_no 5 (some 8) rfl (by kernel_rfl) (by kernel_rfl) (by kernel_rfl) (by kernel_rfl) (fun _ _ _ h => h) (by rfl) (by assumption) ?_
    try simp only [Act.put, List.setIfInBounds_toArray, List.set_cons_zero, List.set_cons_succ]
    refine take_no 6 (some 9) rfl (by kernel_rfl) (by kernel_rfl) (by kernel_rfl) (by kernel_rfl) (fun _ _ _ h => h) (by rfl) (by assumption) ?_
    try simp only [Act.put, List.setIfInBounds_toArray, List.set_cons_zero, List.set_cons_succ]
    refine take_yes 7 (some 10) (v := ?_) rfl (by kernel_rfl) (by kernel_rfl) (by kernel_rfl) (by kernel_rfl) (fun _ _ _ h => h) (by rfl) (by assumption) ?_ ?_
    rotate_left
    · (intro w' hSw; (try dsimp only at hSw); go_simp; try with_reducible rfl)
    try simp only [Act.put, List.setIfInBounds_toArray, List.set_cons_zero, List.set_cons_succ]
    refine take_yes 8 (some 2) (v := ?_) rfl (by kernel_rfl) (by kernel_rfl) (by kernel_rfl) (by kernel_rfl) (fun _ _ _ h => h) (by rfl) (by assumption) ?_ ?_
    rotate_left
    · (intro w' hSw; (try dsimp only at hSw); go_simp; try with_reducible rfl)
    try simp only [Act.put, List.setIfInBounds_toArray, List.set_cons_zero, List.set_cons_succ]
    refine wpAnyH_done (by kernel_rfl) ?_ _
    clear hHeld2
    have hfin := HSW.out.trans hc2
    go_wp2
    go_ret
    exact ⟨rfl, hfin⟩
  | true =>
    have HB := Lib.hid e
    have hbm : BgA (minN A f) := by
      have k := minA_bg A f hf
      rw [minA_yes e] at k
      exact k
    have HMZ : Hid (∀ W, Since w W → Calls Try.prog 45 #[v] W (AOut W (minN A f))) := fun W hW => by
      have k := implMZ_any v A f W (h.since hW) hm hf
      rw [minA_yes e] at k
      exact k
    have HEQ : Hid (∀ u W, Since w W → AutAt W u (minN A f) → Calls Try.prog 94 #[v, u] W fun e w' => e = .returned (.bool (mnB A f)) ∧ Since W w') := fun u W hW hu => by
      have k := implEA_any v u A (minN A f) W (h.since hW) hu hb hbm
      rw [← mnB_eq e] at k
      exact k
    obtain ⟨C, hC⟩ : ∃ C, C = mnB A f := ⟨_, rfl⟩
    rw [← hC] at HEQ ⊢
    obtain ⟨M, hM⟩ : ∃ M, M = minN A f := ⟨_, rfl⟩
    rw [← hM] at HEQ HMZ
    obtain ⟨a, b, rfl, _, ha, hb⟩ := h
    obtain ⟨ao, ca, rfl⟩ := ha.len
    obtain ⟨bo, cb, rfl⟩ := hb.len
    clear ha hb hm hf e hC hM hbm
    obtain ⟨n, hn⟩ : ∃ n, n = A.ac.length := ⟨_, rfl⟩
    obtain ⟨m, hmm⟩ : ∃ n, n = A.nx.length := ⟨_, rfl⟩
    rw [← hn, ← hmm] at HVA HMZ HEQ ⊢
    clear hn hmm
    obtain ⟨y, hy⟩ : ∃ y, y = w.alloc (.cells #[.int .i64 A.st, .slice ao n ca, .slice bo m cb] 27) := ⟨_, rfl⟩
    have hs0 : Since w y := by rw [hy]; exact (Since.refl w).alloc _
    have B0 : Hid (Blk y w.heap.size 27 #[.int .i64 A.st, .slice ao n ca, .slice bo m cb]) := by rw [hy]; exact Blk.new rfl _ _
    have HY := Lib.hid hy
    have HSW := Lib.hid hs0
    have HKC : Hid (∀ w', Since y w' → w'.cell? ⟨w.heap.size, 0, none⟩ = some (.int .i64 A.st) ∧ w'.cell? ⟨w.heap.size, 1, none⟩ = some (.slice ao n ca) ∧ w'.cell? ⟨w.heap.size, 2, none⟩ = some (.slice bo m cb)) := by
      intro w' hs
      obtain ⟨⟨r0, r1, r2⟩, _⟩ := (B0.out.since hs).threeA
      exact ⟨r0, r1, r2⟩
    clear hy hs0
    go_enter Try.func47, Try.ntmps47
    go_upto_region 1 with fail
    rw [← HY.out]
    go_wp2_with fail
    refine wp_region_held_drew (S := (fun w' => w'.cell? ⟨w.heap.size, 0, none⟩ = some (.int .i64 A.st) ∧ w'.cell? ⟨w.heap.size, 1, none⟩ = some (.slice ao n ca) ∧ w'.cell? ⟨w.heap.size, 2, none⟩ = some (.slice bo m cb))) (by kernel_rfl) (HKC.out _ (Since.refl _).drew) (fun hHeld => ?_)
    refine take_yes 0 (some 3) (v := ?_) rfl (by kernel_rfl) (by kernel_rfl) (by kernel_rfl) (by kernel_rfl) (fun _ _ _ h => h) (by rfl) (by assumption) ?_ ?_
    rotate_left
    · (intro w' hSw; (try dsimp only at hSw); go_simp; try with_reducible rfl)
    try simp only [Act.put, List.setIfInBounds_toArray, List.set_cons_zero, List.set_cons_succ]
    refine take_run 1 rfl (by kernel_rfl) (by rfl) (fun K hK => ?_)
    go_simp
    refine (HVA.out _ (HSW.out.trans (Since.refl _).drew)).mono ?_
    rintro e w2 ⟨rfl, hs2⟩
    rw [HB.out]
    have hc2 := Since.of_drew hs2
    refine hK.out _ _ (HKC.out _ hc2) (fun hHeld2 => ?_)
    clear hK K hHeld
    try simp only [Act.put, List.setIfInBounds_toArray, List.set_cons_zero, List.set_cons_succ]
    refine take_yes 2 (some 5) (v := ?_) rfl (by kernel_rfl) (by kernel_rfl) (by kernel_rfl) (by kernel_rfl) (fun _ _ _ h => h) (by rfl) (by assumption) ?_ ?_
    rotate_left
    · (intro w' hSw; (try dsimp only at hSw); go_simp; try with_reducible rfl)
    try simp only [Act.put, List.setIfInBounds_toArray, List.set_cons_zero, List.set_cons_succ]
    refine take_yes 3 (some 6) (v := ?_) rfl (by kernel_rfl) (by kernel_rfl) (by kernel_rfl) (by kernel_rfl) (fun _ _ _ h => h) (by rfl) (by assumption) ?_ ?_
    rotate_left
    · (intro w' hSw; (try dsimp only at hSw); go_simp; try with_reducible rfl)
    try simp only [Act.put, List.setIfInBounds_toArray, List.set_cons_zero, List.set_cons_succ]
    refine take_yes 4 (some 7) (v := ?_) rfl (by kernel_rfl) (by kernel_rfl) (by kernel_rfl) (by kernel_rfl) (fun _ _ _ h => h) (by rfl) (by assumption) ?_ ?_
    rotate_left
    · (intro w' hSw; (try dsimp only at hSw); go_simp; try with_reducible rfl)
    try simp only [Act.put, List.setIfInBounds_toArray, List.set_cons_zero, List.set_cons_succ]
    refine take_run 5 rfl (by kernel_rfl) (by rfl) (fun K hK => ?_)
    go_simp
    refine (HMZ.out _ (HSW.out.trans hc2)).mono ?_
    rintro e w3 ⟨v3, rfl, ho3, hs3⟩
    have hc3 := hc2.trans hs3
    have HA3 := Lib.hid ho3.at
    clear ho3
    refine hK.out _ _ (HKC.out _ hc3) (fun hHeld3 => ?_)
    clear hK K hHeld2
    try simp only [Act.put, List.setIfInBounds_toArray, List.set_cons_zero, List.set_cons_succ]
    refine take_run 6 rfl (by kernel_rfl) (by rfl) (fun K hK => ?_)
    go_simp
    refine (HEQ.out _ _ (HSW.out.trans hc3) HA3.out).mono ?_
    rintro e w4 ⟨rfl, hs4⟩
    have hc4 := hc3.trans hs4
    refine hK.out _ _ (HKC.out _ hc4) (fun hHeld4 => ?_)
    clear hK K hHeld3
    try simp only [Act.put, List.setIfInBounds_toArray, List.set_cons_zero, List.set_cons_succ]
    refine take_yes 7 (some 10) (v := ?_) rfl (by kernel_rfl) (by kernel_rfl) (by kernel_rfl) (by kernel_rfl) (fun _ _ _ h => h) (by rfl) (by assumption) ?_ ?_
    rotate_left
    · (intro w' hSw; (try dsimp only at hSw); go_simp; try with_reducible rfl)
    try simp only [Act.put, List.setIfInBounds_toArray, List.set_cons_zero, List.set_cons_succ]
    refine take_yes 8 (some 2) (v := ?_) rfl (by kernel_rfl) (by kernel_rfl) (by kernel_rfl) (by kernel_rfl) (fun _ _ _ h => h) (by rfl) (by assumption) ?_ ?_
    rotate_left
    · (intro w' hSw; (try dsimp only at hSw); go_simp; try with_reducible rfl)
    try simp only [Act.put, List.setIfInBounds_toArray, List.set_cons_zero, List.set_cons_succ]
    refine wpAnyH_done (by kernel_rfl) ?_ _
    clear hHeld4
    have hfin := HSW.out.trans hc4
    go_wp2
    go_ret
    exact ⟨rfl, hfin⟩
set_option maxHeartbeats 8000000 in
set_option maxRecDepth 100000 in
theorem specMN_any (v : Value) (A : Aut) (f : Nat → Bool) (w : World) (h : AutAt w v A) (hm : MxA A) (hb : BgA A) (hf : ∀ s, f s = true ↔ LiveP A s) :
    Calls Try.prog 46 #[v] w fun e w' => e = .returned (.bool (mnB A f)) ∧ Since w w' := by
  have HVA : Hid (∀ W, Since w W → Calls Try.prog 20 #[v] W fun e w' => e = .returned (.bool (validA A)) ∧ Since W w') := fun W hW => specVA_any v A W (h.since hW) hm
  cases e : validA A with
  | false =>
    have HB := Lib.hid e
    have HE : Hid (mnB A f = false) := by unfold Hid mnB; rw [e]; rfl
    obtain ⟨a, b, rfl, _, ha, hb⟩ := h
    obtain ⟨ao, ca, rfl⟩ := ha.len
    obtain ⟨bo, cb, rfl⟩ := hb.len
    clear ha hb hm hf e
    obtain ⟨n, hn⟩ : ∃ n, n = A.ac.length := ⟨_, rfl⟩
    obtain ⟨m, hmm⟩ : ∃ n, n = A.nx.length := ⟨_, rfl⟩
    rw [← hn, ← hmm] at HVA
    rw [← hn, ← hmm, HE.out]
    clear hn hmm
    obtain ⟨y, hy⟩ : ∃ y, y = w.alloc (.cells #[.int .i64 A.st, .slice ao n ca, .slice bo m cb] 27) := ⟨_, rfl⟩
    have hs0 : Since w y := by rw [hy]; exact (Since.refl w).alloc _
    have B0 : Hid (Blk y w.heap.size 27 #[.int .i64 A.st, .slice ao n ca, .slice bo m cb]) := by rw [hy]; exact Blk.new rfl _ _
    have HY := Lib.hid hy
    have HSW := Lib.hid hs0
    have HKC : Hid (∀ w', Since y w' → w'.cell? ⟨w.heap.size, 0, none⟩ = some (.int .i64 A.st) ∧ w'.cell? ⟨w.heap.size, 1, none⟩ = some (.slice ao n ca) ∧ w'.cell? ⟨w.heap.size, 2, none⟩ = some (.slice bo m cb)) := by
      intro w' hs
      obtain ⟨⟨r0, r1, r2⟩, _⟩ := (B0.out.since hs).threeA
      exact ⟨r0, r1, r2⟩
    clear hy hs0
    go_enter Try.func46, Try.ntmps46
    go_upto_region 1 with fail
    rw [← HY.out]
    go_wp2_with fail
    refine wp_region_held_drew (S := (fun w' => w'.cell? ⟨w.heap.size, 0, none⟩ = some (.int .i64 A.st) ∧ w'.cell? ⟨w.heap.size, 1, none⟩ = some (.slice ao n ca) ∧ w'.cell? ⟨w.heap.size, 2, none⟩ = some (.slice bo m cb))) (by kernel_rfl) (HKC.out _ (Since.refl _).drew) (fun hHeld => ?_)
    refine take_yes 0 (some 3) (v := ?_) rfl (by kernel_rfl) (by kernel_rfl) (by kernel_rfl) (by kernel_rfl) (fun _ _ _ h => h) (by rfl) (by assumption) ?_ ?_
    rotate_left
    · (intro w' hSw; (try dsimp only at hSw); go_simp; try with_reducible rfl)
    try simp only [Act.put, List.setIfInBounds_toArray, List.set_cons_zero, List.set_cons_succ]
    refine take_run 1 rfl (by kernel_rfl) (by rfl) (fun K hK => ?_)
    go_simp
    refine (HVA.out _ (HSW.out.trans (Since.refl _).drew)).mono ?_
    rintro e w2 ⟨rfl, hs2⟩
    rw [HB.out]
    have hc2 := Since.of_drew hs2
    refine hK.out _ _ (HKC.out _ hc2) (fun hHeld2 => ?_)
    clear hK K hHeld
    try simp only [Act.put, List.setIfInBounds_toArray, List.set_cons_zero, List.set_cons_succ]
    refine take_yes 2 (some 5) (v := ?_) rfl (by kernel_rfl) (by kernel_rfl) (by kernel_rfl) (by kernel_rfl) (fun _ _ _ h => h) (by rfl) (by assumption) ?_ ?_
    rotate_left
    · (intro w' hSw; (try dsimp only at hSw); go_simp; try with_reducible rfl)
    try simp only [Act.put, List.setIfInBounds_toArray, List.set_cons_zero, List.set_cons_succ]
    refine take_no 3 (some 6) rfl (by kernel_rfl) (by kernel_rfl) (by kernel_rfl) (by kernel_rfl) (fun _ _ _ h => h) (by rfl) (by assumption) ?_
    try simp only [Act.put, List.setIfInBounds_toArray, List.set_cons_zero, List.set_cons_succ]
    refine take_no 4 (some 7) rfl (by kernel_rfl) (by kernel_rfl) (by kernel_rfl) (by kernel_rfl) (fun _ _ _ h => h) (by rfl) (by assumption) ?_
    try simp only [Act.put, List.setIfInBounds_toArray, List.set_cons_zero, List.set_cons_succ]
    refine take_no 5 (some 8) rfl (by kernel_rfl) (by kernel_rfl) (by kernel_rfl) (by kernel_rfl) (fun _ _ _ h => h) (by rfl) (by assumption) ?_
    try simp only [Act.put, List.setIfInBounds_toArray, List.set_cons_zero, List.set_cons_succ]
    refine take_no 6 (some 9) rfl (by kernel_rfl) (by kernel_rfl) (by kernel_rfl) (by kernel_rfl) (fun _ _ _ h => h) (by rfl) (by assumption) ?_
    try simp only [Act.put, List.setIfInBounds_toArray, List.set_cons_zero, List.set_cons_succ]
    refine take_yes 7 (some 10) (v := ?_) rfl (by kernel_rfl) (by kernel_rfl) (by kernel_rfl) (by kernel_rfl) (fun _ _ _ h => h) (by rfl) (by assumption) ?_ ?_
    rotate_left
    · (intro w' hSw; (try dsimp only at hSw); go_simp; try with_reducible rfl)
    try simp only [Act.put, List.setIfInBounds_toArray, List.set_cons_zero, List.set_cons_succ]
    refine take_yes 8 (some 2) (v := ?_) rfl (by kernel_rfl) (by kernel_rfl) (by kernel_rfl) (by kernel_rfl) (fun _ _ _ h => h) (by rfl) (by assumption) ?_ ?_
    rotate_left
    · (intro w' hSw; (try dsimp only at hSw); go_simp; try with_reducible rfl)
    try simp only [Act.put, List.setIfInBounds_toArray, List.set_cons_zero, List.set_cons_succ]
    refine wpAnyH_done (by kernel_rfl) ?_ _
    clear hHeld2
    have hfin := HSW.out.trans hc2
    go_wp2
    go_ret
    exact ⟨rfl, hfin⟩
  | true =>
    have HB := Lib.hid e
    have hbm : BgA (minN A f) := by
      have k := minA_bg A f hf
      rw [minA_yes e] at k
      exact k
    have HMZ : Hid (∀ W, Since w W → Calls Try.prog 91 #[v] W (AOut W (minN A f))) := fun W hW => specMz_any v A f W (h.since hW) ((validA_iff A).1 e) hf
    have HEQ : Hid (∀ u W, Since w W → AutAt W u (minN A f) → Calls Try.prog 93 #[u, v] W fun e w' => e = .returned (.bool (mnB A f)) ∧ Since W w') := fun u W hW hu => by
      have k := specEA_any u v (minN A f) A W hu (h.since hW) hbm hb
      rw [← mnB_eq' e] at k
      exact k
    obtain ⟨C, hC⟩ : ∃ C, C = mnB A f := ⟨_, rfl⟩
    rw [← hC] at HEQ ⊢
    obtain ⟨M, hM⟩ : ∃ M, M = minN A f := ⟨_, rfl⟩
    rw [← hM] at HEQ HMZ
    obtain ⟨a, b, rfl, _, ha, hb⟩ := h
    obtain ⟨ao, ca, rfl⟩ := ha.len
    obtain ⟨bo, cb, rfl⟩ := hb.len
    clear ha hb hm hf e hC hM hbm
    obtain ⟨n, hn⟩ : ∃ n, n = A.ac.length := ⟨_, rfl⟩
    obtain ⟨m, hmm⟩ : ∃ n, n = A.nx.length := ⟨_, rfl⟩
    rw [← hn, ← hmm] at HVA HMZ HEQ ⊢
    clear hn hmm
    obtain ⟨y, hy⟩ : ∃ y, y = w.alloc (.cells #[.int .i64 A.st, .slice ao n ca, .slice bo m cb] 27) := ⟨_, rfl⟩
    have hs0 : Since w y := by rw [hy]; exact (Since.refl w).alloc _
    have B0 : Hid (Blk y w.heap.size 27 #[.int .i64 A.st, .slice ao n ca, .slice bo m cb]) := by rw [hy]; exact Blk.new rfl _ _
    have HY := Lib.hid hy
    have HSW := Lib.hid hs0
    have HKC : Hid (∀ w', Since y w' → w'.cell? ⟨w.heap.size, 0, none⟩ = some (.int .i64 A.st) ∧ w'.cell? ⟨w.heap.size, 1, none⟩ = some (.slice ao n ca) ∧ w'.cell? ⟨w.heap.size, 2, none⟩ = some (.slice bo m cb)) := by
      intro w' hs
      obtain ⟨⟨r0, r1, r2⟩, _⟩ := (B0.out.since hs).threeA
      exact ⟨r0, r1, r2⟩
    clear hy hs0
    go_enter Try.func46, Try.ntmps46
    go_upto_region 1 with fail
    rw [← HY.out]
    go_wp2_with fail
    refine wp_region_held_drew (S := (fun w' => w'.cell? ⟨w.heap.size, 0, none⟩ = some (.int .i64 A.st) ∧ w'.cell? ⟨w.heap.size, 1, none⟩ = some (.slice ao n ca) ∧ w'.cell? ⟨w.heap.size, 2, none⟩ = some (.slice bo m cb))) (by kernel_rfl) (HKC.out _ (Since.refl _).drew) (fun hHeld => ?_)
    refine take_yes 0 (some 3) (v := ?_) rfl (by kernel_rfl) (by kernel_rfl) (by kernel_rfl) (by kernel_rfl) (fun _ _ _ h => h) (by rfl) (by assumption) ?_ ?_
    rotate_left
    · (intro w' hSw; (try dsimp only at hSw); go_simp; try with_reducible rfl)
    try simp only [Act.put, List.setIfInBounds_toArray, List.set_cons_zero, List.set_cons_succ]
    refine take_run 1 rfl (by kernel_rfl) (by rfl) (fun K hK => ?_)
    go_simp
    refine (HVA.out _ (HSW.out.trans (Since.refl _).drew)).mono ?_
    rintro e w2 ⟨rfl, hs2⟩
    rw [HB.out]
    have hc2 := Since.of_drew hs2
    refine hK.out _ _ (HKC.out _ hc2) (fun hHeld2 => ?_)
    clear hK K hHeld
    try simp only [Act.put, List.setIfInBounds_toArray, List.set_cons_zero, List.set_cons_succ]
    refine take_yes 2 (some 5) (v := ?_) rfl (by kernel_rfl) (by kernel_rfl) (by kernel_rfl) (by kernel_rfl) (fun _ _ _ h => h) (by rfl) (by assumption) ?_ ?_
    rotate_left
    · (intro w' hSw; (try dsimp only at hSw); go_simp; try with_reducible rfl)
    try simp only [Act.put, List.setIfInBounds_toArray, List.set_cons_zero, List.set_cons_succ]
    refine take_yes 3 (some 6) (v := ?_) rfl (by kernel_rfl) (by kernel_rfl) (by kernel_rfl) (by kernel_rfl) (fun _ _ _ h => h) (by rfl) (by assumption) ?_ ?_
    rotate_left
    · (intro w' hSw; (try dsimp only at hSw); go_simp; try with_reducible rfl)
    try simp only [Act.put, List.setIfInBounds_toArray, List.set_cons_zero, List.set_cons_succ]
    refine take_yes 5 (some 8) (v := ?_) rfl (by kernel_rfl) (by kernel_rfl) (by kernel_rfl) (by kernel_rfl) (fun _ _ _ h => h) (by rfl) (by assumption) ?_ ?_
    rotate_left
    · (intro w' hSw; (try dsimp only at hSw); go_simp; try with_reducible rfl)
    try simp only [Act.put, List.setIfInBounds_toArray, List.set_cons_zero, List.set_cons_succ]
    refine take_run 4 rfl (by kernel_rfl) (by rfl) (fun K hK => ?_)
    go_simp
    refine (HMZ.out _ (HSW.out.trans hc2)).mono ?_
    rintro e w3 ⟨v3, rfl, ho3, hs3⟩
    have hc3 := hc2.trans hs3
    have HA3 := Lib.hid ho3.at
    clear ho3
    refine hK.out _ _ (HKC.out _ hc3) (fun hHeld3 => ?_)
    clear hK K hHeld2
    try simp only [Act.put, List.setIfInBounds_toArray, List.set_cons_zero, List.set_cons_succ]
    refine take_run 6 rfl (by kernel_rfl) (by rfl) (fun K hK => ?_)
    go_simp
    refine (HEQ.out _ _ (HSW.out.trans hc3) HA3.out).mono ?_
    rintro e w4 ⟨rfl, hs4⟩
    have hc4 := hc3.trans hs4
    refine hK.out _ _ (HKC.out _ hc4) (fun hHeld4 => ?_)
    clear hK K hHeld3
    try simp only [Act.put, List.setIfInBounds_toArray, List.set_cons_zero, List.set_cons_succ]
    refine take_yes 7 (some 10) (v := ?_) rfl (by kernel_rfl) (by kernel_rfl) (by kernel_rfl) (by kernel_rfl) (fun _ _ _ h => h) (by rfl) (by assumption) ?_ ?_
    rotate_left
    · (intro w' hSw; (try dsimp only at hSw); go_simp; try with_reducible rfl)
    try simp only [Act.put, List.setIfInBounds_toArray, List.set_cons_zero, List.set_cons_succ]
    refine take_yes 8 (some 2) (v := ?_) rfl (by kernel_rfl) (by kernel_rfl) (by kernel_rfl) (by kernel_rfl) (fun _ _ _ h => h) (by rfl) (by assumption) ?_ ?_
    rotate_left
    · (intro w' hSw; (try dsimp only at hSw); go_simp; try with_reducible rfl)
    try simp only [Act.put, List.setIfInBounds_toArray, List.set_cons_zero, List.set_cons_succ]
    refine wpAnyH_done (by kernel_rfl) ?_ _
    clear hHeld4
    have hfin := HSW.out.trans hc4
    go_wp2
    go_ret
    exact ⟨rfl, hfin⟩
end Go.Proofs.Ytcokggjekleabaa
