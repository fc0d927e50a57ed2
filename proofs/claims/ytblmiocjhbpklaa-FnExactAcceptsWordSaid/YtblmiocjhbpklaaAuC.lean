/- AcceptsWord, the model's and the program's. -/
import Derived.Test.YtblmiocjhbpklaaAuR
namespace Go.Proofs.Ytblmiocjhbpklaa
set_option maxRecDepth 100000
open Go.ChangeShapes Go.WideShapes Go.ChangeAt Go.RowKit
set_option linter.unusedVariables false
set_option linter.unusedSimpArgs false

theorem runA_bad {A : Aut} (h : validA A = false) (ws : List Int) : runA A ws = -1 := by unfold runA; rw [if_neg (by rw [h]; decide)]
theorem accA_neg {A : Aut} {ws : List Int} (h : runA A ws = -1) : accA A ws = false := by unfold accA; rw [h]; rfl
theorem accA_at {A : Aut} {ws : List Int} (t : Nat) (h : runA A ws = (t : Int)) (ht : t < A.ac.length) : accA A ws = A.ac[t] := by
  unfold accA
  rw [h]
  have : decide ((0 : Int) ≤ (t : Int)) = true := by simp
  rw [this, Bool.true_and, Int.toNat_natCast, List.getElem?_eq_getElem ht]; rfl
theorem run_cases (A : Aut) (ws : List Int) : runA A ws = -1 ∨ ∃ t : Nat, ∃ ht : t < A.ac.length, runA A ws = (t : Int) := by
  cases e : validA A with
  | false => exact .inl (runA_bad e ws)
  | true =>
    have := runA_in ((validA_iff A).1 e) ws
    by_cases h : runA A ws = -1
    · exact .inl h
    · exact .inr ⟨(runA A ws).toNat, by omega, by omega⟩
set_option maxHeartbeats 1000000 in
set_option maxRecDepth 100000 in
theorem specAW_any (v : Value) (A : Aut) (u : Value) (ws : List Int) (w : World) (h : AutAt w v A) (hm : MxA A) (hu : IntsAt w u ws) (hl : ws.length ≤ maxLen) :
    Calls Try.prog 43 #[v, u] w fun e w' => e = .returned (.bool (accA A ws)) ∧ Since w w' := by
  have HRW : Hid (∀ W, Since w W → Calls Try.prog 40 #[v, u] W fun e w' => e = .returned (.int .i64 (runA A ws)) ∧ Since W w') := fun W hW => specRW_any v A u ws W (h.since hW) hm (hu.since hW) hl
  have hl12 := hm.1
  unfold maxLen at hl12
  obtain ⟨uo, uc, rfl, HU⟩ := hu.row
  obtain ⟨a, b, rfl, _, ha, hb⟩ := h
  obtain ⟨ao, ca, rfl, HC⟩ := ha
  obtain ⟨bo, cb, rfl⟩ := hb.len
  clear hb hu HU hm
  obtain ⟨n, hn⟩ : ∃ n, n = A.ac.length := ⟨_, rfl⟩
  obtain ⟨k, hk⟩ : ∃ n, n = A.nx.length := ⟨_, rfl⟩
  obtain ⟨m, hm⟩ : ∃ m, m = ws.length := ⟨_, rfl⟩
  rw [← hn, ← hk, ← hm] at HRW ⊢
  rw [← hn] at hl12
  have HN := Lib.hid hn
  clear hn hk hm
  obtain ⟨y, hy⟩ : ∃ y, y = w.alloc (.cells #[.int .i64 A.st, .slice ao n ca, .slice bo k cb] 49) := ⟨_, rfl⟩
  have hs0 : Since w y := by rw [hy]; exact (Since.refl w).alloc _
  have B0 : Hid (Blk y w.heap.size 49 #[.int .i64 A.st, .slice ao n ca, .slice bo k cb]) := by rw [hy]; exact Blk.new rfl _ _
  have HY := Lib.hid hy
  clear hy
  rcases run_cases A ws with h1 | ⟨t, ht, h1⟩
  · have HE := Lib.hid h1
    have HF := Lib.hid (accA_neg h1)
    clear h1
    go_enter Try.func43, Try.ntmps43
    go_wp2_with fail
    rw [← HY.out]
    refine (HRW.out _ hs0).mono ?_
    rintro e w1 ⟨rfl, hs1⟩
    rw [HE.out]
    have hs01 := hs0.trans hs1
    go_wp2
    go_ret
    exact ⟨ret_bool HF.out.symm, hs01⟩
  · have HE := Lib.hid h1
    have HF := Lib.hid (accA_at t h1 ht)
    obtain ⟨b1, off1, rfl, hb1, d1⟩ := HC.out t ht
    obtain ⟨x, hx⟩ : ∃ x, x = A.ac[t] := ⟨_, rfl⟩
    rw [← hx] at d1 HF
    have htn : t < n := by rw [HN.out]; exact ht
    have hti : (t : Int) < (n : Int) := by omega
    have ht0 : (0 : Int) ≤ (t : Int) := by omega
    clear h1 hx
    go_enter Try.func43, Try.ntmps43
    go_wp2_with fail
    rw [← HY.out]
    refine (HRW.out _ hs0).mono ?_
    rintro e w1 ⟨rfl, hs1⟩
    rw [HE.out]
    have hs01 := hs0.trans hs1
    obtain ⟨⟨p0, p1, p2⟩, _⟩ := (B0.out.since hs1).threeA
    have d2 : w1.cell? ⟨b1, off1 + t, none⟩ = some (.bool x) := (Below.cell hs01 (p := ⟨b1, off1 + t, none⟩) hb1).trans d1
    go_wp2
    go_ret
    exact ⟨ret_bool HF.out.symm, hs01⟩
set_option maxHeartbeats 1000000 in
set_option maxRecDepth 100000 in
theorem implAW_any (v : Value) (A : Aut) (u : Value) (ws : List Int) (w : World) (h : AutAt w v A) (hm : MxA A) (hu : IntsAt w u ws) (hl : ws.length ≤ maxLen) :
    Calls Try.prog 44 #[v, u] w fun e w' => e = .returned (.bool (accA A ws)) ∧ Since w w' := by
  have HRW : Hid (∀ W, Since w W → Calls Try.prog 42 #[v, u] W fun e w' => e = .returned (.int .i64 (runA A ws)) ∧ Since W w') := fun W hW => implRW_any v A u ws W (h.since hW) hm (hu.since hW) hl
  have hl12 := hm.1
  unfold maxLen at hl12
  obtain ⟨uo, uc, rfl, HU⟩ := hu.row
  obtain ⟨a, b, rfl, _, ha, hb⟩ := h
  obtain ⟨ao, ca, rfl, HC⟩ := ha
  obtain ⟨bo, cb, rfl⟩ := hb.len
  clear hb hu HU hm
  obtain ⟨n, hn⟩ : ∃ n, n = A.ac.length := ⟨_, rfl⟩
  obtain ⟨k, hk⟩ : ∃ n, n = A.nx.length := ⟨_, rfl⟩
  obtain ⟨m, hm⟩ : ∃ m, m = ws.length := ⟨_, rfl⟩
  rw [← hn, ← hk, ← hm] at HRW ⊢
  rw [← hn] at hl12
  have HN := Lib.hid hn
  clear hn hk hm
  obtain ⟨y, hy⟩ : ∃ y, y = w.alloc (.cells #[.int .i64 A.st, .slice ao n ca, .slice bo k cb] 49) := ⟨_, rfl⟩
  have hs0 : Since w y := by rw [hy]; exact (Since.refl w).alloc _
  have B0 : Hid (Blk y w.heap.size 49 #[.int .i64 A.st, .slice ao n ca, .slice bo k cb]) := by rw [hy]; exact Blk.new rfl _ _
  have HY := Lib.hid hy
  clear hy
  rcases run_cases A ws with h1 | ⟨t, ht, h1⟩
  · have HE := Lib.hid h1
    have HF := Lib.hid (accA_neg h1)
    clear h1
    go_enter Try.func44, Try.ntmps44
    go_wp2_with fail
    rw [← HY.out]
    refine (HRW.out _ hs0).mono ?_
    rintro e w1 ⟨rfl, hs1⟩
    rw [HE.out]
    have hs01 := hs0.trans hs1
    go_wp2
    go_ret
    exact ⟨ret_bool HF.out.symm, hs01⟩
  · have HE := Lib.hid h1
    have HF := Lib.hid (accA_at t h1 ht)
    obtain ⟨b1, off1, rfl, hb1, d1⟩ := HC.out t ht
    obtain ⟨x, hx⟩ : ∃ x, x = A.ac[t] := ⟨_, rfl⟩
    rw [← hx] at d1 HF
    have htn : t < n := by rw [HN.out]; exact ht
    have hti : (t : Int) < (n : Int) := by omega
    have ht0 : (0 : Int) ≤ (t : Int) := by omega
    have hne : ((t : Int) != -1) = true := by simp
    clear h1 hx
    go_enter Try.func44, Try.ntmps44
    go_wp2_with fail
    rw [← HY.out]
    refine (HRW.out _ hs0).mono ?_
    rintro e w1 ⟨rfl, hs1⟩
    rw [HE.out]
    have hs01 := hs0.trans hs1
    obtain ⟨⟨p0, p1, p2⟩, _⟩ := (B0.out.since hs1).threeA
    have d2 : w1.cell? ⟨b1, off1 + t, none⟩ = some (.bool x) := (Below.cell hs01 (p := ⟨b1, off1 + t, none⟩) hb1).trans d1
    go_wp2
    go_ret
    exact ⟨ret_bool HF.out.symm, hs01⟩
end Go.Proofs.Ytblmiocjhbpklaa
