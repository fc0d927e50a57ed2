/- AcceptsWord, the model's and the program's. -/
import Derived.Test.YtmaagihfjldgeaaA2
import Derived.Test.YtmaagihfjldgeaaA1
import Derived.BigQuiet
import Derived.Deep.QuietTactic
import Derived.StillTailTactics
import Derived.Test.YtmaagihfjldgeaaK1
namespace Go.Proofs.Ytmaagihfjldgeaa
set_option maxRecDepth 100000
open Go.ChangeShapes Go.WideShapes Go.ChangeAt Go.RowKit Go.Maps
set_option linter.unusedVariables false
set_option linter.unusedSimpArgs false

theorem runA_bad {A : Aut} (h : validA A = false) (ws : List Int) : runA A ws = -1 := by unfold runA; rw [if_neg (by rw [h]; decide)]
theorem accA_neg {A : Aut} {ws : List Int} (h : runA A ws = -1) : accA A ws = false := by unfold accA; rw [h]; rfl
theorem accA_at {A : Aut} {ws : List Int} (t : Nat) (h : runA A ws = (t : Int)) (ht : t < A.ac.length) : accA A ws = A.ac[t] := by
  unfold accA
  rw [h]
  have : decide ((0 : Int) ≤ (t : Int)) = true := by simp
  rw [this, Bool.true_and, Int.toNat_natCast, List.getElem?_eq_getElem ht]; rfl
theorem run_cases (A : Aut) (ws : List Int) : runA A ws = -1 ∨ ∃ t : Nat, ∃ ht : t < A.ac.length, runA A ws = (t : Int) := by
  cases e : validA A with
  | false => exact .inl (runA_bad e ws)
  | true =>
    have := runA_in ((validA_iff A).1 e) ws
    by_cases h : runA A ws = -1
    · exact .inl h
    · exact .inr ⟨(runA A ws).toNat, by omega, by omega⟩
set_option maxHeartbeats 1000000 in
set_option maxRecDepth 100000 in
theorem specAW_any (v : Value) (A : Aut) (u : Value) (ws : List Int) (w : World) (h : AutAt w v A) (hm : MxA A) (hu : IntsAt w u ws) (hl : ws.length ≤ maxLen) :
    Calls Try.prog 43 #[v, u] w fun e w' => e = .returned (.bool (accA A ws)) ∧ Since w w' := by
  have HRW : Hid (∀ W, Since w W → Calls Try.prog 111 #[v, u] W fun e w' => e = .returned (.int .i64 (runA A ws)) ∧ Since W w') := fun W hW => specRW_any v A u ws W (h.since hW) hm (hu.since hW) hl
  have hl12 := hm.1
  unfold maxLen at hl12
  obtain ⟨uo, uc, rfl, HU⟩ := hu.row
  obtain ⟨a, b, rfl, _, ha, hb⟩ := h
  obtain ⟨ao, ca, rfl, HC⟩ := ha
  obtain ⟨bo, cb, rfl⟩ := hb.len
  clear hb hu HU hm
  obtain ⟨n, hn⟩ : ∃ n, n = A.ac.length := ⟨_, rfl⟩
  obtain ⟨k, hk⟩ : ∃ n, n = A.nx.length := ⟨_, rfl⟩
  obtain ⟨m, hm⟩ : ∃ m, m = ws.length := ⟨_, rfl⟩
  rw [← hn, ← hk, ← hm] at HRW ⊢
  rw [← hn] at hl12
  have HN := Lib.hid hn
  clear hn hk hm
  obtain ⟨y, hy⟩ : ∃ y, y = w.alloc (.cells #[.int .i64 A.st, .slice ao n ca, .slice bo k cb] 39) := ⟨_, rfl⟩
  have hs0 : Since w y := by rw [hy]; exact (Since.refl w).alloc _
  have B0 : Hid (Blk y w.heap.size 39 #[.int .i64 A.st, .slice ao n ca, .slice bo k cb]) := by rw [hy]; exact Blk.new rfl _ _
  have HY := Lib.hid hy
  clear hy
  rcases run_cases A ws with h1 | ⟨t, ht, h1⟩
  · have HE := Lib.hid h1
    have HF := Lib.hid (accA_neg h1)
    clear h1
    go_enter Try.func43, Try.ntmps43
    go_wp2_with fail
    rw [← HY.out]
    refine (HRW.out _ hs0).mono ?_
    rintro e w1 ⟨rfl, hs1⟩
    rw [HE.out]
    have hs01 := hs0.trans hs1
    go_wp2
    go_ret
    exact ⟨ret_bool HF.out.symm, hs01⟩
  · have HE := Lib.hid h1
    have HF := Lib.hid (accA_at t h1 ht)
    obtain ⟨b1, off1, rfl, hb1, d1⟩ := HC.out t ht
    obtain ⟨x, hx⟩ : ∃ x, x = A.ac[t] := ⟨_, rfl⟩
    rw [← hx] at d1 HF
    have htn : t < n := by rw [HN.out]; exact ht
    have hti : (t : Int) < (n : Int) := by omega
    have ht0 : (0 : Int) ≤ (t : Int) := by omega
    clear h1 hx
    go_enter Try.func43, Try.ntmps43
    go_wp2_with fail
    rw [← HY.out]
    refine (HRW.out _ hs0).mono ?_
    rintro e w1 ⟨rfl, hs1⟩
    rw [HE.out]
    have hs01 := hs0.trans hs1
    obtain ⟨⟨p0, p1, p2⟩, _⟩ := (B0.out.since hs1).threeA
    have d2 : w1.cell? ⟨b1, off1 + t, none⟩ = some (.bool x) := (Below.cell hs01 (p := ⟨b1, off1 + t, none⟩) hb1).trans d1
    go_wp2
    go_ret
    exact ⟨ret_bool HF.out.symm, hs01⟩
/-- Whether a state, if it is one, accepts. -/
def accI (A : Aut) (s : Int) : Bool := if s = -1 then false else at0 A.ac s.toNat
theorem accI_run (A : Aut) (ws : List Int) : accI A (runA A ws) = accA A ws := by
  rcases run_cases A ws with h1 | ⟨t, ht, h1⟩
  · rw [accA_neg h1, h1]; rfl
  · rw [accA_at t h1 ht, h1]
    unfold accI
    rw [if_neg (by omega), Int.toNat_natCast, at0_get A.ac t ht]
set_option maxRecDepth 100000 in
theorem accIn_any (v : Value) (A : Aut) (s : Int) (w : World) (h : AutAt w v A) (hs : -1 ≤ s ∧ s < (A.ac.length : Int)) :
    Calls Try.prog 102 #[v, .int .i64 s] w fun e w' => e = .returned (.bool (accI A s)) ∧ Since w w' := by
  obtain ⟨a, b, rfl, _, ha, hb⟩ := h
  obtain ⟨ao, ca, rfl, HC⟩ := ha
  obtain ⟨bo, cb, rfl⟩ := hb.len
  clear hb
  obtain ⟨n, hn⟩ : ∃ n, n = A.ac.length := ⟨_, rfl⟩
  obtain ⟨k, hk⟩ : ∃ n, n = A.nx.length := ⟨_, rfl⟩
  rw [← hn] at hs
  rw [← hn, ← hk]
  have HN := Lib.hid hn
  clear hn hk
  obtain ⟨y, hy⟩ : ∃ y, y = w.alloc (.cells #[.int .i64 A.st, .slice ao n ca, .slice bo k cb] 39) := ⟨_, rfl⟩
  have hs0 : Since w y := by rw [hy]; exact (Since.refl w).alloc _
  have B0 : Hid (Blk y w.heap.size 39 #[.int .i64 A.st, .slice ao n ca, .slice bo k cb]) := by rw [hy]; exact Blk.new rfl _ _
  obtain ⟨⟨p0, p1, p2⟩, _⟩ := B0.out.threeA
  by_cases e1 : s = -1
  · subst e1
    have HF : Hid (accI A (-1) = false) := rfl
    rw [hy] at p0 p1 p2 hs0
    go_enter Try.func102, Try.ntmps102
    go_wp2
    go_ret
    exact ⟨ret_bool HF.out.symm, hs0⟩
  · obtain ⟨t, rfl⟩ : ∃ t : Nat, s = t := ⟨s.toNat, by omega⟩
    have ht : t < A.ac.length := by rw [← HN.out]; omega
    have HF : Hid (accI A (t : Int) = A.ac[t]) := by unfold Hid accI; rw [if_neg e1, Int.toNat_natCast, at0_get A.ac t ht]
    obtain ⟨b1, off1, rfl, hb1, d1⟩ := HC.out t ht
    obtain ⟨x, hx⟩ : ∃ x, x = A.ac[t] := ⟨_, rfl⟩
    rw [← hx] at d1 HF
    have hti : (t : Int) < (n : Int) := by omega
    have ht0 : (0 : Int) ≤ (t : Int) := by omega
    have hne : ((t : Int) != -1) = true := by simp
    have d2 : y.cell? ⟨b1, off1 + t, none⟩ = some (.bool x) := (Below.cell hs0 (p := ⟨b1, off1 + t, none⟩) hb1).trans d1
    rw [hy] at p0 p1 p2 hs0 d2
    clear hx e1 hs d1
    go_enter Try.func102, Try.ntmps102
    go_wp2
    go_ret
    exact ⟨ret_bool HF.out.symm, hs0⟩
set_option maxHeartbeats 1000000 in
set_option maxRecDepth 100000 in
theorem implAW_any (v : Value) (A : Aut) (u : Value) (ws : List Int) (w : World) (h : AutAt w v A) (hm : MxA A) (hu : IntsAt w u ws) (hl : ws.length ≤ maxLen) :
    Calls Try.prog 35 #[v, u] w fun e w' => e = .returned (.bool (accA A ws)) ∧ Since w w' := by
  have HRW : Hid (∀ W, Since w W → Calls Try.prog 103 #[v, u] W fun e w' => e = .returned (.int .i64 (runA A ws)) ∧ Since W w') := fun W hW => implRW_any v A u ws W (h.since hW) hm (hu.since hW) hl
  have HRG : Hid (-1 ≤ runA A ws ∧ runA A ws < (A.ac.length : Int)) := by
    rcases run_cases A ws with h1 | ⟨t, ht, h1⟩
    · unfold Hid; rw [h1]; omega
    · unfold Hid; rw [h1]; omega
  have HAI : Hid (∀ W, Since w W → Calls Try.prog 102 #[v, .int .i64 (runA A ws)] W fun e w' => e = .returned (.bool (accA A ws)) ∧ Since W w') := fun W hW => by
    have k := accIn_any v A (runA A ws) W (h.since hW) HRG.out
    rw [accI_run] at k
    exact k
  obtain ⟨uo, uc, rfl, HU⟩ := hu.row
  obtain ⟨a, b, rfl, _, ha, hb⟩ := h
  obtain ⟨ao, ca, rfl⟩ := ha.len
  obtain ⟨bo, cb, rfl⟩ := hb.len
  clear ha hb hu HU hm
  obtain ⟨n, hn⟩ : ∃ n, n = A.ac.length := ⟨_, rfl⟩
  obtain ⟨k, hk⟩ : ∃ n, n = A.nx.length := ⟨_, rfl⟩
  obtain ⟨m, hm⟩ : ∃ m, m = ws.length := ⟨_, rfl⟩
  rw [← hn, ← hk, ← hm] at HRW
  rw [← hn, ← hk] at HAI
  rw [← hn, ← hk, ← hm]
  clear hn hk hm HRG
  obtain ⟨R, hR⟩ : ∃ R, R = runA A ws := ⟨_, rfl⟩
  obtain ⟨C, hC⟩ : ∃ C, C = accA A ws := ⟨_, rfl⟩
  rw [← hR] at HRW HAI
  rw [← hC] at HAI ⊢
  clear hR hC hl
  obtain ⟨y, hy⟩ : ∃ y, y = w.alloc (.cells #[.int .i64 A.st, .slice ao n ca, .slice bo k cb] 39) := ⟨_, rfl⟩
  have hs0 : Since w y := by rw [hy]; exact (Since.refl w).alloc _
  have B0 : Hid (Blk y w.heap.size 39 #[.int .i64 A.st, .slice ao n ca, .slice bo k cb]) := by rw [hy]; exact Blk.new rfl _ _
  have HY := Lib.hid hy
  have HSW := Lib.hid hs0
  have HKC : Hid (∀ w', Since y w' → w'.cell? ⟨w.heap.size, 0, none⟩ = some (.int .i64 A.st) ∧ w'.cell? ⟨w.heap.size, 1, none⟩ = some (.slice ao n ca) ∧ w'.cell? ⟨w.heap.size, 2, none⟩ = some (.slice bo k cb)) := by
    intro w' hs
    obtain ⟨⟨r0, r1, r2⟩, _⟩ := (B0.out.since hs).threeA
    exact ⟨r0, r1, r2⟩
  clear hy hs0
  go_enter Try.func35, Try.ntmps35
  go_upto_region 1 with fail
  rw [← HY.out]
  go_wp2_with fail
  refine wp_region_held_drew (S := (fun w' => w'.cell? ⟨w.heap.size, 0, none⟩ = some (.int .i64 A.st) ∧ w'.cell? ⟨w.heap.size, 1, none⟩ = some (.slice ao n ca) ∧ w'.cell? ⟨w.heap.size, 2, none⟩ = some (.slice bo k cb))) (by kernel_rfl) (HKC.out _ (Since.refl _).drew) (fun hHeld => ?_)
  refine take_yes 0 (some 5) (v := ?_) rfl (by kernel_rfl) (by kernel_rfl) (by kernel_rfl) (by kernel_rfl) (fun _ _ _ h => h) (by rfl) (by assumption) ?_ ?_
  rotate_left
  · (intro w' hSw; (try dsimp only at hSw); go_simp; try with_reducible rfl)
  try simp only [Act.put, List.setIfInBounds_toArray, List.set_cons_zero, List.set_cons_succ]
  refine take_yes 1 (some 6) (v := ?_) rfl (by kernel_rfl) (by kernel_rfl) (by kernel_rfl) (by kernel_rfl) (fun _ _ _ h => h) (by rfl) (by assumption) ?_ ?_
  rotate_left
  · (intro w' hSw; (try dsimp only at hSw); go_simp; try with_reducible rfl)
  try simp only [Act.put, List.setIfInBounds_toArray, List.set_cons_zero, List.set_cons_succ]
  refine take_yes 2 (some 7) (v := ?_) rfl (by kernel_rfl) (by kernel_rfl) (by kernel_rfl) (by kernel_rfl) (fun _ _ _ h => h) (by rfl) (by assumption) ?_ ?_
  rotate_left
  · (intro w' hSw; (try dsimp only at hSw); go_simp; try with_reducible rfl)
  try simp only [Act.put, List.setIfInBounds_toArray, List.set_cons_zero, List.set_cons_succ]
  refine take_run 3 rfl (by kernel_rfl) (by rfl) (fun K hK => ?_)
  go_simp
  refine (HRW.out _ (HSW.out.trans (Since.refl _).drew)).mono ?_
  rintro e w2 ⟨rfl, hs2⟩
  have hc2 := Since.of_drew hs2
  refine hK.out _ _ (HKC.out _ hc2) (fun hHeld2 => ?_)
  clear hK K hHeld
  try simp only [Act.put, List.setIfInBounds_toArray, List.set_cons_zero, List.set_cons_succ]
  refine take_run 4 rfl (by kernel_rfl) (by rfl) (fun K hK => ?_)
  go_simp
  refine (HAI.out _ (HSW.out.trans hc2)).mono ?_
  rintro e w3 ⟨rfl, hs3⟩
  have hc3 := hc2.trans hs3
  refine hK.out _ _ (HKC.out _ hc3) (fun hHeld3 => ?_)
  clear hK K hHeld2
  try simp only [Act.put, List.setIfInBounds_toArray, List.set_cons_zero, List.set_cons_succ]
  refine take_yes 5 (some 4) (v := ?_) rfl (by kernel_rfl) (by kernel_rfl) (by kernel_rfl) (by kernel_rfl) (fun _ _ _ h => h) (by rfl) (by assumption) ?_ ?_
  rotate_left
  · (intro w' hSw; (try dsimp only at hSw); go_simp; try with_reducible rfl)
  try simp only [Act.put, List.setIfInBounds_toArray, List.set_cons_zero, List.set_cons_succ]
  refine wpAnyH_done (by kernel_rfl) ?_ _
  clear hHeld3
  have hfin := HSW.out.trans hc3
  go_wp2
  go_ret
  exact ⟨rfl, hfin⟩
end Go.Proofs.Ytmaagihfjldgeaa
