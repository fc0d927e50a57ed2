/- IsValidPositions, the model's and the program's. -/
import Derived.Test.YtcokggjekleabaaPs
import Derived.Test.YtcokggjekleabaaPsB
import Derived.BigQuiet
import Derived.Deep.QuietTactic
namespace Go.Proofs.Ytcokggjekleabaa
set_option maxRecDepth 100000
open Go.ChangeShapes Go.WideShapes Go.ChangeAt Go.RowKit
set_option linter.unusedVariables false
set_option linter.unusedSimpArgs false

theorem posB_all {p : Psn} (h1 : p.ls.length ≤ 20) (h2 : p.fo.length = p.ls.length) (h3 : setB p.ls.length p.fi = true) (h4 : setB p.ls.length p.la = true) (h5 : ∀ x ∈ p.ls, letB x = true) (h6 : ∀ x ∈ p.fo, setB p.ls.length x = true) : posB p = true := by
  unfold posB
  simp [h1, h2, h3, h4]
  exact ⟨h5, fun x hx => h6 x hx⟩
theorem posB_n {p : Psn} (h : 20 < p.ls.length) : posB p = false := by unfold posB; simp; omega
theorem posB_m {p : Psn} (h : p.fo.length ≠ p.ls.length) : posB p = false := by unfold posB; simp [h]
theorem posB_fi {p : Psn} (h : setB p.ls.length p.fi = false) : posB p = false := by unfold posB; simp [h]
theorem posB_la {p : Psn} (h : setB p.ls.length p.la = false) : posB p = false := by unfold posB; simp [h]
theorem posB_ls {p : Psn} {k : Nat} (hk : k < p.ls.length) (h : inB p.ls[k] 0 8 = false) : posB p = false := by
  cases e : posB p with
  | false => rfl
  | true =>
    unfold posB at e
    simp only [Bool.and_eq_true, List.all_eq_true] at e
    have := e.2.1 _ (List.getElem_mem hk)
    unfold letB at this
    rw [h] at this; cases this
theorem posB_fo {p : Psn} {k : Nat} (hk : k < p.fo.length) (h : setB p.ls.length p.fo[k] = false) : posB p = false := by
  cases e : posB p with
  | false => rfl
  | true =>
    unfold posB at e
    simp only [Bool.and_eq_true, List.all_eq_true] at e
    have := e.2.2 _ (List.getElem_mem hk)
    rw [h] at this; cases this
theorem all_step {α : Type} {f : α → Bool} {xs : List α} {k : Nat} (hk : k < xs.length) (h : ∀ x ∈ xs.take k, f x = true) (hx : f xs[k] = true) : ∀ x ∈ xs.take (k + 1), f x = true := by
  intro x hm
  rw [List.take_succ_eq_append_getElem hk, List.mem_append] at hm
  rcases hm with hm | hm
  · exact h x hm
  · simp at hm; subst hm; exact hx

set_option maxHeartbeats 1000000 in
set_option maxRecDepth 100000 in
theorem specPV_any (v : Value) (p : Psn) (w : World) (h : PsAt w v p) (hl : p.ls.length ≤ maxLen) (hl2 : p.fo.length ≤ maxLen) :
    Calls Try.prog 63 #[v] w fun e w' => e = .returned (.bool (posB p)) ∧ Since w w' := by
  obtain ⟨a, b, rfl, ha, hb, _⟩ := h
  obtain ⟨ao, ac, rfl, HA⟩ := ha.row
  obtain ⟨bo, bc, rfl, HB⟩ := hb.row
  clear ha hb
  unfold maxLen at hl hl2
  obtain ⟨n, hn⟩ : ∃ n, n = p.ls.length := ⟨_, rfl⟩
  obtain ⟨m, hm⟩ : ∃ m, m = p.fo.length := ⟨_, rfl⟩
  rw [← hn] at hl ⊢
  rw [← hm] at hl2 ⊢
  obtain ⟨y, hy⟩ : ∃ y, y = w.alloc (.cells #[.slice ao n ac, .int .i64 p.fi, .int .i64 p.la, .slice bo m bc, .bool p.nu] 41) := ⟨_, rfl⟩
  have hs0 : Since w y := by rw [hy]; exact (Since.refl w).alloc _
  have B0 : Hid (Blk y w.heap.size 41 #[.slice ao n ac, .int .i64 p.fi, .int .i64 p.la, .slice bo m bc, .bool p.nu]) := by rw [hy]; exact Blk.new rfl _ _
  have HN := Lib.hid hn
  have HM := Lib.hid hm
  have HY := Lib.hid hy
  obtain ⟨⟨p0, p1, p2, p3, p4⟩, _⟩ := B0.out.fiveP
  rw [hy] at p0 p1 p2 p3 p4
  clear hn hm hy
  by_cases hb1 : 20 < n
  · have HX : Hid (posB p = false) := posB_n (by have := HN.out; omega)
    have d1 : decide (20 < n) = true := by simpa using hb1
    have d1' : decide ((20 : Int) < (n : Int)) = true := by simp; omega
    go_enter Try.func63, Try.ntmps63
    go_wp2
    go_quiet (fail)
    go_wp2
    go_ret
    exact ⟨ret_bool HX.out.symm, by first | (rw [← HY.out]; exact hs0) | (rw [← HY.out]; exact hs0.drewN _) | exact hs0 | exact hs0.drewN _⟩
  · by_cases hb2 : m = n
    · obtain rfl : n = m := hb2.symm
      clear hb2
      obtain ⟨Q, hQ⟩ : ∃ Q, Q = 2 ^ n := ⟨_, rfl⟩
      have hQ9 : Q < 9223372036854775808 := by rw [hQ]; exact pow_lt62 (by omega)
      have hQ1 : 1 ≤ Q := by rw [hQ]; exact Nat.two_pow_pos n
      have ew1 : wrap64 (2 ^ n) = (Q : Int) := by rw [hQ]; exact wrap64_pow (by omega)
      have ew2 : wrap64 ((Q : Int) - 1) = (Q : Int) - 1 := wrap64_in (by omega) (by omega)
      have ew3 : ((n : Int).toNat) = n := by omega
      have HQ := Lib.hid hQ
      clear hQ
      cases sfi : setB p.ls.length p.fi with
      | false =>
        have HX : Hid (posB p = false) := posB_fi sfi
        have Sfi := Lib.hid sfi
        clear sfi
        have Hfi : Hid (∀ W, Calls Try.prog 55 #[.int .i64 p.fi, .int .i64 0, .int .i64 ((Q : Int) - 1)] W fun e w' => e = .returned (.bool false) ∧ w' = W) := fun W => by rw [← Sfi.out, setB, ← HN.out, ← HQ.out]; exact (l1In_any _ _ _ W).mono fun _ _ h => ⟨h.1, h.2.symm⟩
        have d1 : decide (20 < n) = false := by simpa using hb1
        have d1' : decide ((20 : Int) < (n : Int)) = false := by simp; omega
        go_enter Try.func63, Try.ntmps63
        go_wp2
        go_quiet (first | (with_reducible exact Calls.quiet_of_same (Hfi.out _)))
        go_wp2
        go_ret
        exact ⟨ret_bool HX.out.symm, by first | (rw [← HY.out]; exact hs0) | (rw [← HY.out]; exact hs0.drewN _) | exact hs0 | exact hs0.drewN _⟩
      | true =>
        cases sla : setB p.ls.length p.la with
        | false =>
          have HX : Hid (posB p = false) := posB_la sla
          have Sfi := Lib.hid sfi
          have Sla := Lib.hid sla
          clear sfi sla
          have Hfi : Hid (∀ W, Calls Try.prog 55 #[.int .i64 p.fi, .int .i64 0, .int .i64 ((Q : Int) - 1)] W fun e w' => e = .returned (.bool true) ∧ w' = W) := fun W => by rw [← Sfi.out, setB, ← HN.out, ← HQ.out]; exact (l1In_any _ _ _ W).mono fun _ _ h => ⟨h.1, h.2.symm⟩
          have Hla : Hid (∀ W, Calls Try.prog 55 #[.int .i64 p.la, .int .i64 0, .int .i64 ((Q : Int) - 1)] W fun e w' => e = .returned (.bool false) ∧ w' = W) := fun W => by rw [← Sla.out, setB, ← HN.out, ← HQ.out]; exact (l1In_any _ _ _ W).mono fun _ _ h => ⟨h.1, h.2.symm⟩
          have d1 : decide (20 < n) = false := by simpa using hb1
          have d1' : decide ((20 : Int) < (n : Int)) = false := by simp; omega
          go_enter Try.func63, Try.ntmps63
          go_wp2
          go_quiet (first | (with_reducible exact Calls.quiet_of_same (Hfi.out _)) | (with_reducible exact Calls.quiet_of_same (Hla.out _)))
          go_wp2
          go_ret
          exact ⟨ret_bool HX.out.symm, by first | (rw [← HY.out]; exact hs0) | (rw [← HY.out]; exact hs0.drewN _) | exact hs0 | exact hs0.drewN _⟩
        | true =>
          have Sfi := Lib.hid sfi
          have Sla := Lib.hid sla
          clear sfi sla
          have Hfi : Hid (∀ W, Calls Try.prog 55 #[.int .i64 p.fi, .int .i64 0, .int .i64 ((Q : Int) - 1)] W fun e w' => e = .returned (.bool true) ∧ w' = W) := fun W => by rw [← Sfi.out, setB, ← HN.out, ← HQ.out]; exact (l1In_any _ _ _ W).mono fun _ _ h => ⟨h.1, h.2.symm⟩
          have Hla : Hid (∀ W, Calls Try.prog 55 #[.int .i64 p.la, .int .i64 0, .int .i64 ((Q : Int) - 1)] W fun e w' => e = .returned (.bool true) ∧ w' = W) := fun W => by rw [← Sla.out, setB, ← HN.out, ← HQ.out]; exact (l1In_any _ _ _ W).mono fun _ _ h => ⟨h.1, h.2.symm⟩
          have d1 : decide (20 < n) = false := by simpa using hb1
          have d1' : decide ((20 : Int) < (n : Int)) = false := by simp; omega
          go_enter Try.func63, Try.ntmps63
          go_wp2
          go_quiet (first | (with_reducible exact Calls.quiet_of_same (Hfi.out _)) | (with_reducible exact Calls.quiet_of_same (Hla.out _)))
          clear p0 p1 p2 p3 p4
          go_wp2
          go_loopw [4] (fun i wr => ∃ k : Nat, k ≤ n ∧ i = .int .i64 k ∧ Hid (∀ x ∈ p.ls.take k, letB x = true) ∧ Hid (∀ x ∈ p.fo.take k, setB p.ls.length x = true) ∧ Hid (Since y wr)) (fun i _ => n - (intOf i).toNat)
          case atStart => exact ⟨0, Nat.zero_le _, rfl, fun x hx => by simp at hx, fun x hx => by simp at hx, by first | (rw [HY.out]; exact Since.refl _) | (rw [HY.out]; exact (Since.refl _).drewN _)⟩
          case round =>
            obtain ⟨k, hk, rfl, HT1, HT2, HS⟩ := hrel
            obtain ⟨⟨p0, p1, p2, p3, p4⟩, _⟩ := (B0.out.since HS.out).fiveP
            have HSW := Lib.hid (hs0.trans HS.out)
            by_cases hlt : k < n
            · have hx : k < p.ls.length := by have := HN.out; omega
              have hx2 : k < p.fo.length := by have := HM.out; omega
              obtain ⟨bv, ov, rfl, hbv, cv⟩ := HA.out k hx
              obtain ⟨bu, ou, rfl, hbu, cu⟩ := HB.out k hx2
              rw [← since_cells HSW.out hbv] at cv
              rw [← since_cells HSW.out hbu] at cu
              have hk1 : (0 : Int) ≤ (k : Int) := by omega
              have hk2 : (k : Int) < (n : Int) := by omega
              cases s1 : inB p.ls[k] 0 8 with
              | false =>
                have HX : Hid (posB p = false) := posB_ls hx s1
                have HL : Hid (∀ W, Calls Try.prog 112 #[.int .i64 p.ls[k]] W fun e w' => e = .returned (.bool false) ∧ w' = W) := fun W => by rw [← s1]; exact (l2Letter_any _ W).mono fun _ _ h => ⟨h.1, h.2.symm⟩
                clear s1
                go_wp2
                go_quiet (first | (with_reducible exact Calls.quiet_of_same (HL.out _)))
                go_wp2
                go_ret
                exact ⟨ret_bool HX.out.symm, by first | exact HSW.out | exact HSW.out.drewN _⟩
              | true =>
                have HL : Hid (∀ W, Calls Try.prog 112 #[.int .i64 p.ls[k]] W fun e w' => e = .returned (.bool true) ∧ w' = W) := fun W => by rw [← s1]; exact (l2Letter_any _ W).mono fun _ _ h => ⟨h.1, h.2.symm⟩
                have HT1' := Lib.hid (all_step (f := letB) hx HT1.out s1)
                clear s1
                cases s2 : setB p.ls.length p.fo[k] with
                | false =>
                  have HX : Hid (posB p = false) := posB_fo hx2 s2
                  have HF : Hid (∀ W, Calls Try.prog 55 #[.int .i64 p.fo[k], .int .i64 0, .int .i64 ((Q : Int) - 1)] W fun e w' => e = .returned (.bool false) ∧ w' = W) := fun W => by rw [← s2, setB, ← HN.out, ← HQ.out]; exact (l1In_any _ _ _ W).mono fun _ _ h => ⟨h.1, h.2.symm⟩
                  clear s2
                  go_wp2
                  go_quiet (first | (with_reducible exact Calls.quiet_of_same (HL.out _)) | (with_reducible exact Calls.quiet_of_same (HF.out _)))
                  go_wp2
                  go_ret
                  exact ⟨ret_bool HX.out.symm, by first | exact HSW.out | exact HSW.out.drewN _⟩
                | true =>
                  have HF : Hid (∀ W, Calls Try.prog 55 #[.int .i64 p.fo[k], .int .i64 0, .int .i64 ((Q : Int) - 1)] W fun e w' => e = .returned (.bool true) ∧ w' = W) := fun W => by rw [← s2, setB, ← HN.out, ← HQ.out]; exact (l1In_any _ _ _ W).mono fun _ _ h => ⟨h.1, h.2.symm⟩
                  have HT2' := Lib.hid (all_step (f := setB p.ls.length) hx2 HT2.out s2)
                  clear s2
                  go_wp2
                  go_quiet (first | (with_reducible exact Calls.quiet_of_same (HL.out _)) | (with_reducible exact Calls.quiet_of_same (HF.out _)))
                  go_wp2
                  go_roundw
                  case rel => exact ⟨k + 1, by omega, by go_num, HT1', HT2', by first | exact HS.out | exact HS.out.drewN _⟩
                  case measure => simp [intOf]; omega
            · obtain rfl : k = n := by omega
              have HX : Hid (posB p = true) := by
                have h1 := HN.out
                have h2 := HM.out
                refine posB_all (by omega) (by omega) Sfi.out Sla.out ?_ ?_
                · have := HT1.out; rw [List.take_of_length_le (by omega)] at this; exact this
                · have := HT2.out; rw [List.take_of_length_le (by omega)] at this; exact this
              go_wp2
              go_ret
              exact ⟨ret_bool HX.out.symm, HSW.out⟩
    · have HX : Hid (posB p = false) := posB_m (by have := HN.out; have := HM.out; omega)
      have d1 : decide (20 < n) = false := by simpa using hb1
      have d1' : decide ((20 : Int) < (n : Int)) = false := by simp; omega
      have d2 : ((m : Int) != (n : Int)) = true := by simp; omega
      have d2' : (m == n) = false := by simpa using hb2
      have d2'' : (m != n) = true := by simpa using hb2
      have d2''' : decide (m = n) = false := by simpa using hb2
      go_enter Try.func63, Try.ntmps63
      go_wp2
      go_quiet (fail)
      go_wp2
      go_ret
      exact ⟨ret_bool HX.out.symm, by first | (rw [← HY.out]; exact hs0) | (rw [← HY.out]; exact hs0.drewN _) | exact hs0 | exact hs0.drewN _⟩
set_option maxHeartbeats 1000000 in
set_option maxRecDepth 100000 in
theorem implPV_any (v : Value) (p : Psn) (w : World) (h : PsAt w v p) (hl : p.ls.length ≤ maxLen) (hl2 : p.fo.length ≤ maxLen) :
    Calls Try.prog 66 #[v] w fun e w' => e = .returned (.bool (posB p)) ∧ Since w w' := by
  obtain ⟨a, b, rfl, ha, hb, _⟩ := h
  obtain ⟨ao, ac, rfl, HA⟩ := ha.row
  obtain ⟨bo, bc, rfl, HB⟩ := hb.row
  clear ha hb
  unfold maxLen at hl hl2
  obtain ⟨n, hn⟩ : ∃ n, n = p.ls.length := ⟨_, rfl⟩
  obtain ⟨m, hm⟩ : ∃ m, m = p.fo.length := ⟨_, rfl⟩
  rw [← hn] at hl ⊢
  rw [← hm] at hl2 ⊢
  obtain ⟨y, hy⟩ : ∃ y, y = w.alloc (.cells #[.slice ao n ac, .int .i64 p.fi, .int .i64 p.la, .slice bo m bc, .bool p.nu] 41) := ⟨_, rfl⟩
  have hs0 : Since w y := by rw [hy]; exact (Since.refl w).alloc _
  have B0 : Hid (Blk y w.heap.size 41 #[.slice ao n ac, .int .i64 p.fi, .int .i64 p.la, .slice bo m bc, .bool p.nu]) := by rw [hy]; exact Blk.new rfl _ _
  have HN := Lib.hid hn
  have HM := Lib.hid hm
  have HY := Lib.hid hy
  obtain ⟨⟨p0, p1, p2, p3, p4⟩, _⟩ := B0.out.fiveP
  rw [hy] at p0 p1 p2 p3 p4
  clear hn hm hy
  by_cases hb1 : 20 < n
  · have HX : Hid (posB p = false) := posB_n (by have := HN.out; omega)
    have d1 : decide (20 < n) = true := by simpa using hb1
    have d1' : decide ((20 : Int) < (n : Int)) = true := by simp; omega
    go_enter Try.func66, Try.ntmps66
    go_wp2
    go_ret
    exact ⟨ret_bool HX.out.symm, by first | (rw [← HY.out]; exact hs0) | (rw [← HY.out]; exact hs0.drewN _) | exact hs0 | exact hs0.drewN _⟩
  · by_cases hb2 : m = n
    · obtain rfl : n = m := hb2.symm
      clear hb2
      obtain ⟨Q, hQ⟩ : ∃ Q, Q = 2 ^ n := ⟨_, rfl⟩
      have hQ9 : Q < 9223372036854775808 := by rw [hQ]; exact pow_lt62 (by omega)
      have hQ1 : 1 ≤ Q := by rw [hQ]; exact Nat.two_pow_pos n
      have ew1 : wrap64 (2 ^ n) = (Q : Int) := by rw [hQ]; exact wrap64_pow (by omega)
      have ew2 : wrap64 ((Q : Int) - 1) = (Q : Int) - 1 := wrap64_in (by omega) (by omega)
      have ew3 : ((n : Int).toNat) = n := by omega
      have HQ := Lib.hid hQ
      clear hQ
      cases sfi : setB p.ls.length p.fi with
      | false =>
        have HX : Hid (posB p = false) := posB_fi sfi
        have Sfi := Lib.hid sfi
        clear sfi
        have Hfi : Hid (∀ W, Calls Try.prog 116 #[.int .i64 p.fi, .int .i64 (n : Int)] W fun e w' => e = .returned (.bool false) ∧ W = w') := fun W => by rw [← Sfi.out, ← HN.out]; exact isBelow_any _ _ W (by omega)
        have d1 : decide (20 < n) = false := by simpa using hb1
        have d1' : decide ((20 : Int) < (n : Int)) = false := by simp; omega
        go_enter Try.func66, Try.ntmps66
        go_wp2_with fail
        refine (Hfi.out _).mono ?_
        rintro e wx ⟨rfl, rfl⟩
        go_wp2
        go_ret
        exact ⟨ret_bool HX.out.symm, by first | (rw [← HY.out]; exact hs0) | (rw [← HY.out]; exact hs0.drewN _) | exact hs0 | exact hs0.drewN _⟩
      | true =>
        cases sla : setB p.ls.length p.la with
        | false =>
          have HX : Hid (posB p = false) := posB_la sla
          have Sfi := Lib.hid sfi
          have Sla := Lib.hid sla
          clear sfi sla
          have Hfi : Hid (∀ W, Calls Try.prog 116 #[.int .i64 p.fi, .int .i64 (n : Int)] W fun e w' => e = .returned (.bool true) ∧ W = w') := fun W => by rw [← Sfi.out, ← HN.out]; exact isBelow_any _ _ W (by omega)
          have Hla : Hid (∀ W, Calls Try.prog 116 #[.int .i64 p.la, .int .i64 (n : Int)] W fun e w' => e = .returned (.bool false) ∧ W = w') := fun W => by rw [← Sla.out, ← HN.out]; exact isBelow_any _ _ W (by omega)
          have d1 : decide (20 < n) = false := by simpa using hb1
          have d1' : decide ((20 : Int) < (n : Int)) = false := by simp; omega
          go_enter Try.func66, Try.ntmps66
          go_wp2_with fail
          refine (Hfi.out _).mono ?_
          rintro e wx ⟨rfl, rfl⟩
          go_wp2_with fail
          refine (Hla.out _).mono ?_
          rintro e wx ⟨rfl, rfl⟩
          go_wp2
          go_ret
          exact ⟨ret_bool HX.out.symm, by first | (rw [← HY.out]; exact hs0) | (rw [← HY.out]; exact hs0.drewN _) | exact hs0 | exact hs0.drewN _⟩
        | true =>
          have Sfi := Lib.hid sfi
          have Sla := Lib.hid sla
          clear sfi sla
          have Hfi : Hid (∀ W, Calls Try.prog 116 #[.int .i64 p.fi, .int .i64 (n : Int)] W fun e w' => e = .returned (.bool true) ∧ W = w') := fun W => by rw [← Sfi.out, ← HN.out]; exact isBelow_any _ _ W (by omega)
          have Hla : Hid (∀ W, Calls Try.prog 116 #[.int .i64 p.la, .int .i64 (n : Int)] W fun e w' => e = .returned (.bool true) ∧ W = w') := fun W => by rw [← Sla.out, ← HN.out]; exact isBelow_any _ _ W (by omega)
          have d1 : decide (20 < n) = false := by simpa using hb1
          have d1' : decide ((20 : Int) < (n : Int)) = false := by simp; omega
          go_enter Try.func66, Try.ntmps66
          go_wp2_with fail
          refine (Hfi.out _).mono ?_
          rintro e wx ⟨rfl, rfl⟩
          go_wp2_with fail
          refine (Hla.out _).mono ?_
          rintro e wx ⟨rfl, rfl⟩
          clear p0 p1 p2 p3 p4
          have q0 := B0.out.fiveP.1
          rw [HY.out] at q0
          obtain ⟨p0, p1, p2, p3, p4⟩ := q0
          go_wp2_with fail
          go_loop [35] (fun i => ∃ k : Nat, k ≤ n ∧ i = .int .i64 k ∧ Hid (∀ x ∈ p.ls.take k, letB x = true) ∧ Hid (∀ x ∈ p.fo.take k, setB p.ls.length x = true)) (fun i => n - (intOf i).toNat)
          case atStart => exact ⟨0, Nat.zero_le _, rfl, fun x hx => by simp at hx, fun x hx => by simp at hx⟩
          case round =>
            obtain ⟨k, hk, rfl, HT1, HT2⟩ := hrel
            by_cases hlt : k < n
            · have hx : k < p.ls.length := by have := HN.out; omega
              have hx2 : k < p.fo.length := by have := HM.out; omega
              obtain ⟨bv, ov, rfl, hbv, cv⟩ := HA.out k hx
              obtain ⟨bu, ou, rfl, hbu, cu⟩ := HB.out k hx2
              rw [← since_cells hs0 hbv] at cv
              rw [← since_cells hs0 hbu] at cu
              rw [HY.out] at cv cu
              have hk1 : (0 : Int) ≤ (k : Int) := by omega
              have hk2 : (k : Int) < (n : Int) := by omega
              cases s1 : inB p.ls[k] 0 8 with
              | false =>
                have HX : Hid (posB p = false) := posB_ls hx s1
                have HL : Hid (∀ W, Calls Try.prog 111 #[.int .i64 p.ls[k]] W fun e w' => e = .returned (.bool false) ∧ W = w') := fun W => by rw [← s1]; exact isLetter_any _ W
                clear s1
                go_wp2_with fail
                refine (HL.out _).mono ?_
                rintro e wx ⟨rfl, rfl⟩
                go_wp2
                go_ret
                exact ⟨ret_bool HX.out.symm, by rw [← HY.out]; exact hs0⟩
              | true =>
                have HL : Hid (∀ W, Calls Try.prog 111 #[.int .i64 p.ls[k]] W fun e w' => e = .returned (.bool true) ∧ W = w') := fun W => by rw [← s1]; exact isLetter_any _ W
                have HT1' := Lib.hid (all_step (f := letB) hx HT1.out s1)
                clear s1
                cases s2 : setB p.ls.length p.fo[k] with
                | false =>
                  have HX : Hid (posB p = false) := posB_fo hx2 s2
                  have HF : Hid (∀ W, Calls Try.prog 116 #[.int .i64 p.fo[k], .int .i64 (n : Int)] W fun e w' => e = .returned (.bool false) ∧ W = w') := fun W => by rw [← s2, ← HN.out]; exact isBelow_any _ _ W (by omega)
                  clear s2
                  go_wp2_with fail
                  refine (HL.out _).mono ?_
                  rintro e wx ⟨rfl, rfl⟩
                  go_wp2_with fail
                  refine (HF.out _).mono ?_
                  rintro e wx ⟨rfl, rfl⟩
                  go_wp2
                  go_ret
                  exact ⟨ret_bool HX.out.symm, by rw [← HY.out]; exact hs0⟩
                | true =>
                  have HF : Hid (∀ W, Calls Try.prog 116 #[.int .i64 p.fo[k], .int .i64 (n : Int)] W fun e w' => e = .returned (.bool true) ∧ W = w') := fun W => by rw [← s2, ← HN.out]; exact isBelow_any _ _ W (by omega)
                  have HT2' := Lib.hid (all_step (f := setB p.ls.length) hx2 HT2.out s2)
                  clear s2
                  go_wp2_with fail
                  refine (HL.out _).mono ?_
                  rintro e wx ⟨rfl, rfl⟩
                  go_wp2_with fail
                  refine (HF.out _).mono ?_
                  rintro e wx ⟨rfl, rfl⟩
                  go_wp2
                  go_round
                  case rel => exact ⟨k + 1, by omega, by go_num, HT1', HT2'⟩
                  case measure => simp [intOf]; omega
            · obtain rfl : k = n := by omega
              have HX : Hid (posB p = true) := by
                have h1 := HN.out
                have h2 := HM.out
                refine posB_all (by omega) (by omega) Sfi.out Sla.out ?_ ?_
                · have := HT1.out; rw [List.take_of_length_le (by omega)] at this; exact this
                · have := HT2.out; rw [List.take_of_length_le (by omega)] at this; exact this
              go_wp2
              go_ret
              exact ⟨ret_bool HX.out.symm, by rw [← HY.out]; exact hs0⟩
    · have HX : Hid (posB p = false) := posB_m (by have := HN.out; have := HM.out; omega)
      have d1 : decide (20 < n) = false := by simpa using hb1
      have d1' : decide ((20 : Int) < (n : Int)) = false := by simp; omega
      have d2 : ((m : Int) != (n : Int)) = true := by simp; omega
      have d2' : (m == n) = false := by simpa using hb2
      have d2'' : (m != n) = true := by simpa using hb2
      have d2''' : decide (m = n) = false := by simpa using hb2
      go_enter Try.func66, Try.ntmps66
      go_wp2
      go_ret
      exact ⟨ret_bool HX.out.symm, by first | (rw [← HY.out]; exact hs0) | (rw [← HY.out]; exact hs0.drewN _) | exact hs0 | exact hs0.drewN _⟩
end Go.Proofs.Ytcokggjekleabaa
