/- IsFiniteLanguage, the program's: the states after one letter, and as many letters as there are useful states. -/
import Derived.Test.YtmaagihfjldgeaaFnM
import Derived.Test.YtmaagihfjldgeaaPsB
import Derived.Test.YtmaagihfjldgeaaAuU
import Derived.Test.YtmaagihfjldgeaaK1
namespace Go.Proofs.Ytmaagihfjldgeaa
set_option maxRecDepth 100000
open Go.ChangeShapes Go.WideShapes Go.ChangeAt Go.RowKit Go.Maps
set_option linter.unusedVariables false
set_option linter.unusedSimpArgs false

theorem autN_valid {step : Int → Nat → Option Int} {acc : Int → Bool} {fs : List Int} (hc : ∀ s ∈ fs, ∀ k x, k < 9 → step s k = some x → x ∈ fs) (h0 : 0 < fs.length) (h1 : fs.length ≤ 1000) : ValidA (autN step acc fs) := by
  refine ⟨by simp [autN]; exact h1, by simp [autN], ⟨Int.le_refl _, by simp [autN]; omega⟩, fun r hr => ?_⟩
  obtain ⟨x, hx, rfl⟩ := List.mem_map.1 hr
  refine ⟨by rw [rowOf_length], fun z hz => ?_⟩
  obtain ⟨k, hk, rfl⟩ := List.mem_map.1 hz
  simp only [autN, List.length_map]
  cases e : step x k with
  | none => rw [rowAt_none e]; omega
  | some y =>
    rw [rowAt_some e]
    have := posN_lt fs y (hc x hx k y (List.mem_range.1 hk) e)
    omega
theorem num_first {step : Int → Nat → Option Int} {Q : Int → Prop} {lim : Nat} (hQ : ∀ s k x, k < 9 → Q s → step s k = some x → Q x) (hl : 1 ≤ lim) {s0 : Int} (h0 : Q s0) {fs : List Int} (h : numN step lim s0 = some fs) : ∃ t, fs = s0 :: t := by
  obtain ⟨_, ⟨t, ht⟩, _, _⟩ := runN_some hQ (lim + 1) 0 [s0] fs ⟨by simp, fun x hx => by simp at hx; subst hx; exact h0⟩ (by simpa using hl) (by omega) (by simp) (fun i hi h => by omega) h
  exact ⟨t, ht⟩
set_option maxHeartbeats 2000000 in
set_option maxRecDepth 100000 in
theorem aftL_any (v : Value) (T : Aut) (S : Nat) (w : World) (h : AutAt w v T) (hv : ValidA T) (h12 : T.ac.length ≤ 12) (hS : S < 4096) :
    Calls Try.prog 134 #[v, .int .i64 (S : Int)] w fun e w' => (∃ R : Nat, e = .returned (.int .i64 (R : Int)) ∧ AftI T S T.ac.length 0 R ∧ R < 4096) ∧ Since w w' := by
  obtain ⟨a, b, rfl, _, ha, hb⟩ := h
  obtain ⟨ao, ca, rfl⟩ := ha.len
  obtain ⟨bo, cb, rfl, HC⟩ := hb
  clear ha
  have HV := Lib.hid hv
  have hnm : T.nx.length = T.ac.length := hv.2.1
  have h0n : 0 < T.ac.length := by have := hv.2.2.1; omega
  obtain ⟨u1, v1, _, _, _, rfl, hu1, _, _, _⟩ := next_cells hv HC 0 h0n
  rw [hnm]
  clear hnm hv
  obtain ⟨n, hn⟩ : ∃ n, n = T.ac.length := ⟨_, rfl⟩
  rw [← hn] at h12 h0n ⊢
  have HN := Lib.hid hn
  clear hn
  obtain ⟨y, hy⟩ : ∃ y, y = w.alloc (.cells #[.int .i64 T.st, .slice ao n ca, .slice (some ⟨u1, v1, none⟩) n cb] 39) := ⟨_, rfl⟩
  have hs0 : Since w y := by rw [hy]; exact (Since.refl w).alloc _
  have B0 : Hid (Blk y w.heap.size 39 #[.int .i64 T.st, .slice ao n ca, .slice (some ⟨u1, v1, none⟩) n cb]) := by rw [hy]; exact Blk.new rfl _ _
  have HHAS : Hid (∀ (s : Nat) W, s < 12 → Calls Try.prog 87 #[.int .i64 (S : Int), .int .i64 (s : Int)] W fun e w' => e = .returned (.bool (S.testBit s)) ∧ W = w') := fun s W hs => has_any S s W (by omega) (by omega)
  have HY := Lib.hid hy
  clear hy
  go_enter Try.func134, Try.ntmps134
  go_upto_region 1 with fail
  rw [← HY.out]
  obtain ⟨⟨p0, p1, p2⟩, _⟩ := B0.out.threeA
  go_wp2
  clear p0 p1 p2
  go_loop [5, 13] (fun r i => ∃ (s R : Nat), s ≤ n ∧ i = .int .i64 s ∧ r = .int .i64 (R : Int) ∧ R < 4096 ∧ Hid (AftI T S s 0 R)) (fun _ i => n - (intOf i).toNat)
  case atStart => exact ⟨0, 0, Nat.zero_le _, rfl, rfl, by decide, AftI.start T S⟩
  case round =>
    obtain ⟨s, R, hs, rfl, rfl, hR, HI⟩ := hrel
    by_cases hst : s < n
    · have hsi : (s : Int) < (n : Int) := by omega
      have hs0i : (0 : Int) ≤ (s : Int) := by omega
      obtain ⟨c1, o1, c2, o2, cc, ecc, hc1, hcell, hc2, hcs⟩ := next_cells HV.out HC s (by rw [← HN.out]; exact hst)
      injection ecc with ecc
      injection ecc with ecc1 ecc2
      subst ecc1 ecc2
      have f1 : y.cell? ⟨u1, v1 + s, none⟩ = some (.slice (some ⟨c2, o2, none⟩) 9 cc) := (Below.cell hs0 (p := ⟨u1, v1 + s, none⟩) hc1).trans hcell
      have HCS := Lib.hid hcs
      clear hcs hcell
      go_wp2
      clear f1
      go_loop [5, 20] (fun r i => ∃ (k R : Nat), k ≤ 9 ∧ i = .int .i64 k ∧ r = .int .i64 (R : Int) ∧ R < 4096 ∧ Hid (AftI T S s k R)) (fun _ i => 9 - (intOf i).toNat)
      case atStart => exact ⟨0, R, Nat.zero_le _, rfl, rfl, hR, HI.out⟩
      case round =>
        clear HI hR
        obtain ⟨k, R, hk, rfl, rfl, hR, HI⟩ := hrel
        by_cases hkt : k < 9
        · have hki : (k : Int) < 9 := by omega
          have hk0i : (0 : Int) ≤ (k : Int) := by omega
          obtain ⟨q, hq⟩ : ∃ q, q = nextA T.nx s k := ⟨_, rfl⟩
          have f2 : y.cell? ⟨c2, o2 + k, none⟩ = some (.int .i64 q) := by rw [hq]; exact (Below.cell hs0 (p := ⟨c2, o2 + k, none⟩) hc2).trans (HCS.out k hkt)
          obtain ⟨_, _, _, hb5, hb6⟩ := nextA_in HV.out (s : Int) (k : Int) ⟨hs0i, by rw [← HN.out]; omega⟩ (by simp [inB]; omega)
          rw [← hq] at hb5 hb6
          rw [← HN.out] at hb6
          have HQ := Lib.hid hq
          clear hq
          obtain ⟨C, hC⟩ : ∃ c, c = S.testBit s := ⟨_, rfl⟩
          have HCC : Hid (S.testBit s = C) := hC.symm
          have HHS : Hid (∀ W, Calls Try.prog 87 #[.int .i64 (S : Int), .int .i64 (s : Int)] W fun e w' => e = .returned (.bool C) ∧ W = w') := fun W => by rw [hC]; exact HHAS.out s W (by omega)
          clear hC
          cases C with
          | false =>
            have HI2 : Hid (AftI T S s (k + 1) R) := HI.out.skip (.inl HCC.out)
            go_wp2_with fail
            refine (HHS.out _).mono ?_
            rintro e wx ⟨rfl, rfl⟩
            go_wp2_with fail
            go_round
            case rel => exact ⟨k + 1, R, by omega, by go_num, rfl, hR, HI2.out⟩
            case measure => simp [intOf]; omega
          | true =>
            by_cases e1 : q = -1
            · subst e1
              have HI2 : Hid (AftI T S s (k + 1) R) := HI.out.skip (.inr HQ.out.symm)
              go_wp2_with fail
              refine (HHS.out _).mono ?_
              rintro e wx ⟨rfl, rfl⟩
              go_wp2_with fail
              go_round
              case rel => exact ⟨k + 1, R, by omega, by go_num, rfl, hR, HI2.out⟩
              case measure => simp [intOf]; omega
            · obtain ⟨t, rfl⟩ : ∃ t : Nat, q = t := ⟨q.toNat, by omega⟩
              have htn : t < n := by omega
              have HI2 : Hid (AftI T S s (k + 1) (R ||| 2 ^ t)) := HI.out.turn hkt HCC.out HQ.out.symm
              obtain ⟨P, hP⟩ : ∃ P, P = 2 ^ t := ⟨_, rfl⟩
              have hP9 : P < 4096 := by
                rw [hP]
                exact Nat.lt_of_lt_of_le (Nat.pow_lt_pow_right (by decide) (by omega : t < 12)) (by decide)
              have hRP : R ||| P < 4096 := Nat.or_lt_two_pow (n := 12) hR hP9
              rw [← hP] at HI2
              have HSO : Hid (∀ W, Calls Try.prog 75 #[.int .i64 (t : Int)] W fun e w' => e = .returned (.int .i64 (P : Int)) ∧ W = w') := fun W => by rw [hP]; exact setOf_any t W (by omega)
              have hne : ((t : Int) != -1) = true := by simp
              have HOR := Lib.hid (i64_or_nat R P (by omega) (by omega))
              have HRP := Lib.hid hRP
              clear hP e1 hRP
              go_wp2_with fail
              refine (HHS.out _).mono ?_
              rintro e wx ⟨rfl, rfl⟩
              go_wp2_with fail
              refine (HSO.out _).mono ?_
              rintro e wx ⟨rfl, rfl⟩
              have hor := HOR.out
              go_wp2_with fail
              clear hor
              go_round
              case rel => exact ⟨k + 1, R ||| P, by omega, by go_num, rfl, HRP.out, HI2.out⟩
              case measure => simp [intOf]; omega
        · obtain rfl : k = 9 := by omega
          have HI2 : Hid (AftI T S (s + 1) 0 R) := HI.out.row
          clear hk hkt
          go_wp2_with fail
          go_round
          case rel => exact ⟨s + 1, R, by omega, by go_num, rfl, hR, HI2.out⟩
          case measure => simp [intOf]; omega
    · have hsn : s = n := by omega
      have HI2 : Hid (AftI T S n 0 R) := by rw [← hsn]; exact HI.out
      clear hst
      have hnl : ¬ ((s : Int) < (n : Int)) := by omega
      clear hsn
      go_wp2
      go_ret
      exact ⟨⟨R, rfl, HI2.out, hR⟩, hs0⟩
end Go.Proofs.Ytmaagihfjldgeaa
