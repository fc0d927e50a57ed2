/- RunWord and AcceptsWord, the model's and the program's. -/
import Derived.Test.YtcokggjekleabaaAuS
import Derived.Test.YtcokggjekleabaaK0
import Derived.BigQuiet
import Derived.Deep.QuietTactic
namespace Go.Proofs.Ytcokggjekleabaa
set_option maxRecDepth 100000
open Go.ChangeShapes Go.WideShapes Go.ChangeAt Go.RowKit
set_option linter.unusedVariables false
set_option linter.unusedSimpArgs false

/-- Where the transitions of a valid automaton lie. -/
theorem next_cells {w : World} {A : Aut} {bo : Option Addr} (hv : ValidA A) (h : Hid (∀ i (h : i < A.nx.length), ∃ b off p, bo = some ⟨b, off, none⟩ ∧ b < w.heap.size ∧ w.cell? ⟨b, off + i, none⟩ = some p ∧ IntsAt w p A.nx[i])) (t : Nat) (ht : t < A.ac.length) :
    ∃ b off b2 off2 c2, bo = some ⟨b, off, none⟩ ∧ b < w.heap.size ∧ w.cell? ⟨b, off + t, none⟩ = some (.slice (some ⟨b2, off2, none⟩) 9 c2) ∧ b2 < w.heap.size ∧ ∀ k : Nat, k < 9 → w.cell? ⟨b2, off2 + k, none⟩ = some (.int .i64 (nextA A.nx t k)) := by
  have ht2 : t < A.nx.length := by have := hv.2.1; omega
  obtain ⟨b, off, p, e, hb, c0, g⟩ := h.out t ht2
  have hr := hv.row t ht2
  obtain ⟨vo, vc, rfl, HR⟩ := g.row
  obtain ⟨b2, off2, e2, hb2, _⟩ := HR.out 0 (by have := hr.1; omega)
  subst e2
  refine ⟨b, off, b2, off2, vc, e, hb, by rw [hr.1] at c0; exact c0, hb2, fun k hk => ?_⟩
  have hk2 : k < (A.nx[t]).length := by have := hr.1; omega
  obtain ⟨b3, off3, e3, _, c3⟩ := HR.out k hk2
  injection e3 with e3
  injection e3 with e4 e5
  rw [e4, e5, nextA_at A.nx t k ht2 hk2]
  exact c3
set_option maxHeartbeats 2000000 in
set_option maxRecDepth 100000 in
theorem l11Run_any (v : Value) (A : Aut) (s : Int) (u : Value) (ws : List Int) (w : World) (h : AutAt w v A) (hv : ValidA A) (hs : -1 ≤ s ∧ s < (A.ac.length : Int)) (hu : IntsAt w u ws) (hl : ws.length ≤ maxLen) :
    Calls Try.prog 125 #[v, .int .i64 s, u] w fun e w' => e = .returned (.int .i64 (runL A.nx s ws)) ∧ Since w w' := by
  obtain ⟨a, b, rfl, _, ha, hb⟩ := h
  obtain ⟨ao, ca, rfl⟩ := ha.len
  obtain ⟨bo, cb, rfl, HC⟩ := hb
  obtain ⟨uo, uc, rfl, HU⟩ := hu.row
  clear ha hu
  unfold maxLen at hl
  have HV := Lib.hid hv
  have hn12 := hv.1
  have hnm : A.nx.length = A.ac.length := hv.2.1
  rw [hnm]
  obtain ⟨n, hn⟩ : ∃ n, n = A.ac.length := ⟨_, rfl⟩
  rw [← hn] at hs hn12 ⊢
  obtain ⟨m, hm⟩ : ∃ m, m = ws.length := ⟨_, rfl⟩
  rw [← hm] at hl ⊢
  have HN := Lib.hid hn
  have HM := Lib.hid hm
  obtain ⟨R, hR⟩ : ∃ R, R = runL A.nx s ws := ⟨_, rfl⟩
  rw [← hR]
  have HR0 : Hid (runL A.nx s (ws.drop 0) = R) := by rw [hR]; rfl
  clear hn hm hR hv hnm
  obtain ⟨y, hy⟩ : ∃ y, y = w.alloc (.cells #[.int .i64 A.st, .slice ao n ca, .slice bo n cb] 27) := ⟨_, rfl⟩
  have hs0 : Since w y := by rw [hy]; exact (Since.refl w).alloc _
  have B0 : Hid (Blk y w.heap.size 27 #[.int .i64 A.st, .slice ao n ca, .slice bo n cb]) := by rw [hy]; exact Blk.new rfl _ _
  have HY := Lib.hid hy
  clear hy
  go_enter Try.func125, Try.ntmps125
  go_wp2
  rw [← HY.out]
  go_loopw [1, 7] (fun q i wr => ∃ (k : Nat) (s1 : Int), k ≤ m ∧ i = .int .i64 k ∧ q = .int .i64 s1 ∧ -1 ≤ s1 ∧ s1 < (n : Int) ∧ Hid (runL A.nx s1 (ws.drop k) = R) ∧ Hid (Since y wr)) (fun _ i _ => m - (intOf i).toNat)
  case atStart => exact ⟨0, s, Nat.zero_le _, rfl, rfl, hs.1, hs.2, HR0, Since.refl _⟩
  case round =>
    obtain ⟨k, s1, hk, rfl, rfl, hs1, hs2, HR, HS⟩ := hrel
    by_cases hlt : k < m
    · have hki : (k : Int) < (m : Int) := by omega
      by_cases hneg : s1 = -1
      · subst hneg
        have HF : Hid ((-1 : Int) = R) := by rw [← HR.out]; exact (runL_negAt _ _ _ _ rfl).symm
        go_wp2
        go_ret
        exact ⟨ret_int HF.out, hs0.trans HS.out⟩
      · obtain ⟨t, rfl⟩ : ∃ t : Nat, s1 = t := ⟨s1.toNat, by omega⟩
        have ht0 : (0 : Int) ≤ (t : Int) := by omega
        have htn : t < n := by omega
        clear hneg
        have hx : k < ws.length := by have := HM.out; omega
        obtain ⟨b1, off1, rfl, hb1, d1⟩ := HU.out k hx
        have HW : Hid (Since w wr) := hs0.trans HS.out
        have d2 : wr.cell? ⟨b1, off1 + k, none⟩ = some (.int .i64 ws[k]) := (Below.cell HW.out (p := ⟨b1, off1 + k, none⟩) hb1).trans d1
        clear d1
        obtain ⟨x, hxx⟩ : ∃ x, x = ws[k] := ⟨_, rfl⟩
        have HX := Lib.hid hxx
        rw [← hxx] at d2
        cases e4 : inB x 0 8 with
        | false =>
          have HB4 := Lib.hid e4
          have HF : Hid ((-1 : Int) = R) := by rw [← HR.out]; exact (runL_bad _ _ _ hx _ (by rw [← hxx]; exact e4)).symm
          clear e4 hxx
          go_wp2_with fail
          refine (l2Letter_any x _).mono ?_
          rintro e w1 ⟨rfl, rfl⟩
          rw [HB4.out]
          go_wp2
          go_ret
          exact ⟨ret_int HF.out, HW.out⟩
        | true =>
          have HB4 := Lib.hid e4
          have hx8 : 0 ≤ x ∧ x ≤ 8 := by simpa [inB] using e4
          obtain ⟨z, hz⟩ : ∃ z : Nat, x = z := ⟨x.toNat, by omega⟩
          have hz9 : z < 9 := by omega
          have hst := nextA_in HV.out (t : Int) (x : Int) ⟨ht0, by rw [← HN.out]; omega⟩ e4
          obtain ⟨_, _, _, hb5, hb6⟩ := hst
          rw [← HN.out] at hb6
          have HR2 : Hid (runL A.nx (nextA A.nx t x) (ws.drop (k + 1)) = R) := by
            rw [← HR.out, hxx]; exact (runL_step A.nx ws k hx (t : Int) ht0 (by rw [← hxx]; exact e4)).symm
          obtain ⟨c1, o1, c2, o2, cc, rfl, hc1, hcell, hc2, hcs⟩ := next_cells HV.out HC t (by rw [← HN.out]; exact htn)
          have hcz := hcs z hz9
          rw [← hz] at hcz
          obtain ⟨q, hq⟩ : ∃ q, q = nextA A.nx t x := ⟨_, rfl⟩
          rw [← hq] at hcz HR2 hb5 hb6
          have f1 : wr.cell? ⟨c1, o1 + t, none⟩ = some (.slice (some ⟨c2, o2, none⟩) 9 cc) := (Below.cell HW.out (p := ⟨c1, o1 + t, none⟩) hc1).trans hcell
          have f2 : wr.cell? ⟨c2, o2 + z, none⟩ = some (.int .i64 q) := (Below.cell HW.out (p := ⟨c2, o2 + z, none⟩) hc2).trans hcz
          obtain ⟨⟨p0, p1, p2⟩, _⟩ := (B0.out.since HS.out).threeA
          clear e4 hxx hcell hcz hcs hq HX
          rw [hz] at d2 HB4
          clear hz hx8
          have hti : (t : Int) < (n : Int) := by omega
          have hz0 : (0 : Int) ≤ (z : Int) := by omega
          have hzi : (z : Int) < 9 := by omega
          have hk0 : (0 : Int) ≤ (k : Int) := by omega
          go_wp2_with fail
          refine (l2Letter_any (z : Int) _).mono ?_
          rintro e w1 ⟨rfl, rfl⟩
          rw [HB4.out]
          go_wp2
          go_quiet (fail)
          go_wp2
          go_roundw
          case rel => exact ⟨k + 1, q, by omega, by go_num, rfl, hb5, hb6, HR2, HS.out.drewN _⟩
          case measure => simp [intOf]; omega
    · obtain rfl : k = m := by omega
      have HF : Hid (s1 = R) := by
        have := HR.out
        rw [List.drop_of_length_le (by have := HM.out; omega)] at this
        exact this
      go_wp2
      go_ret
      exact ⟨ret_int HF.out, hs0.trans HS.out⟩
set_option maxHeartbeats 1000000 in
set_option maxRecDepth 100000 in
theorem specRW_any (v : Value) (A : Aut) (u : Value) (ws : List Int) (w : World) (h : AutAt w v A) (hm : MxA A) (hu : IntsAt w u ws) (hl : ws.length ≤ maxLen) :
    Calls Try.prog 85 #[v, u] w fun e w' => e = .returned (.int .i64 (runA A ws)) ∧ Since w w' := by
  have HVA : Hid (∀ W, Since w W → Calls Try.prog 20 #[v] W fun e w' => e = .returned (.bool (validA A)) ∧ Since W w') := fun W hW => specVA_any v A W (h.since hW) hm
  have HRU : Hid (∀ W, Since w W → ValidA A → Calls Try.prog 125 #[v, .int .i64 A.st, u] W fun e w' => e = .returned (.int .i64 (runL A.nx A.st ws)) ∧ Since W w') := fun W hW hv => l11Run_any v A A.st u ws W (h.since hW) hv ⟨by have := hv.2.2.1; omega, hv.2.2.1.2⟩ (hu.since hW) hl
  obtain ⟨uo, uc, rfl, HU⟩ := hu.row
  obtain ⟨a, b, rfl, _, ha, hb⟩ := h
  obtain ⟨ao, ca, rfl⟩ := ha.len
  obtain ⟨bo, cb, rfl⟩ := hb.len
  clear ha hb hu HU hm
  obtain ⟨n, hn⟩ : ∃ n, n = A.ac.length := ⟨_, rfl⟩
  obtain ⟨k, hk⟩ : ∃ n, n = A.nx.length := ⟨_, rfl⟩
  obtain ⟨m, hm⟩ : ∃ m, m = ws.length := ⟨_, rfl⟩
  rw [← hn, ← hk] at HVA HRU ⊢
  rw [← hm] at HRU ⊢
  clear hn hk hm
  obtain ⟨y, hy⟩ : ∃ y, y = w.alloc (.cells #[.int .i64 A.st, .slice ao n ca, .slice bo k cb] 27) := ⟨_, rfl⟩
  have hs0 : Since w y := by rw [hy]; exact (Since.refl w).alloc _
  have B0 : Hid (Blk y w.heap.size 27 #[.int .i64 A.st, .slice ao n ca, .slice bo k cb]) := by rw [hy]; exact Blk.new rfl _ _
  have HY := Lib.hid hy
  clear hy
  cases e : validA A with
  | false =>
    have HB := Lib.hid e
    have HF : Hid (runA A ws = -1) := by unfold Hid runA; rw [if_neg (by rw [e]; decide)]
    clear e
    go_enter Try.func85, Try.ntmps85
    go_wp2_with fail
    rw [← HY.out]
    refine (HVA.out _ hs0).mono ?_
    rintro e w1 ⟨rfl, hs1⟩
    rw [HB.out]
    have hs01 := hs0.trans hs1
    go_wp2
    go_ret
    exact ⟨ret_int HF.out.symm, hs01⟩
  | true =>
    have HB := Lib.hid e
    have HV : Hid (ValidA A) := (validA_iff A).1 e
    have HF : Hid (runA A ws = runL A.nx A.st ws) := by unfold Hid runA; rw [if_pos e]
    clear e
    go_enter Try.func85, Try.ntmps85
    go_wp2_with fail
    rw [← HY.out]
    refine (HVA.out _ hs0).mono ?_
    rintro e w1 ⟨rfl, hs1⟩
    rw [HB.out]
    have hs01 := hs0.trans hs1
    obtain ⟨⟨p0, p1, p2⟩, _⟩ := (B0.out.since hs1).threeA
    go_wp2_with fail
    refine (HRU.out _ hs01 HV.out).mono ?_
    rintro e w2 ⟨rfl, hs2⟩
    rw [← HF.out]
    have hs02 := hs01.trans hs2
    go_wp2
    go_ret
    exact ⟨rfl, hs02⟩
set_option maxHeartbeats 2000000 in
set_option maxRecDepth 100000 in
theorem implRW_any (v : Value) (A : Aut) (u : Value) (ws : List Int) (w : World) (h : AutAt w v A) (hm : MxA A) (hu : IntsAt w u ws) (hl : ws.length ≤ maxLen) :
    Calls Try.prog 61 #[v, u] w fun e w' => e = .returned (.int .i64 (runA A ws)) ∧ Since w w' := by
  have HVA : Hid (∀ W, Since w W → Calls Try.prog 51 #[v] W fun e w' => e = .returned (.bool (validA A)) ∧ Since W w') := fun W hW => implVA_any v A W (h.since hW) hm
  obtain ⟨uo, uc, rfl, HU⟩ := hu.row
  obtain ⟨a, b, rfl, _, ha, hb⟩ := h
  obtain ⟨ao, ca, rfl⟩ := ha.len
  obtain ⟨bo, cb, rfl, HC⟩ := hb
  clear ha hu hm
  unfold maxLen at hl
  obtain ⟨n, hn⟩ : ∃ n, n = A.ac.length := ⟨_, rfl⟩
  obtain ⟨kk, hkk⟩ : ∃ n, n = A.nx.length := ⟨_, rfl⟩
  obtain ⟨m, hm⟩ : ∃ m, m = ws.length := ⟨_, rfl⟩
  rw [← hn, ← hkk] at HVA ⊢
  rw [← hm] at hl ⊢
  have HN := Lib.hid hn
  have HM := Lib.hid hm
  have HK := Lib.hid hkk
  clear hn hkk hm
  obtain ⟨y, hy⟩ : ∃ y, y = w.alloc (.cells #[.int .i64 A.st, .slice ao n ca, .slice bo kk cb] 27) := ⟨_, rfl⟩
  have hs0 : Since w y := by rw [hy]; exact (Since.refl w).alloc _
  have B0 : Hid (Blk y w.heap.size 27 #[.int .i64 A.st, .slice ao n ca, .slice bo kk cb]) := by rw [hy]; exact Blk.new rfl _ _
  have HY := Lib.hid hy
  clear hy
  cases e : validA A with
  | false =>
    have HB := Lib.hid e
    have HF : Hid (runA A ws = -1) := by unfold Hid runA; rw [if_neg (by rw [e]; decide)]
    clear e
    go_enter Try.func61, Try.ntmps61
    go_wp2_with fail
    rw [← HY.out]
    refine (HVA.out _ hs0).mono ?_
    rintro e w1 ⟨rfl, hs1⟩
    rw [HB.out]
    have hs01 := hs0.trans hs1
    go_wp2
    go_ret
    exact ⟨ret_int HF.out.symm, hs01⟩
  | true =>
    have HB := Lib.hid e
    have HV : Hid (ValidA A) := (validA_iff A).1 e
    obtain ⟨R, hR⟩ : ∃ R, R = runA A ws := ⟨_, rfl⟩
    rw [← hR]
    have HR0 : Hid (runL A.nx A.st (ws.drop 0) = R) := by rw [hR]; unfold runA; rw [if_pos e]; rfl
    have hs12 : -1 ≤ A.st ∧ A.st < (n : Int) := by have := HV.out.2.2.1; rw [← HN.out] at this; omega
    have hkn : kk = n := by have := HV.out.2.1; have := HN.out; have := HK.out; omega
    subst hkn
    clear e hR
    go_enter Try.func61, Try.ntmps61
    go_wp2_with fail
    rw [← HY.out]
    refine (HVA.out _ hs0).mono ?_
    rintro e w1 ⟨rfl, hs1⟩
    rw [HB.out]
    have HS1 := Lib.hid (hs0.trans hs1)
    have B1 := Lib.hid (B0.out.since hs1)
    obtain ⟨⟨p0, p1, p2⟩, _⟩ := B1.out.threeA
    go_wp2
    clear p0 p1 p2
    go_loopw [5, 15] (fun q i wr => ∃ (k : Nat) (s1 : Int), k ≤ m ∧ i = .int .i64 k ∧ q = .int .i64 s1 ∧ -1 ≤ s1 ∧ s1 < (kk : Int) ∧ Hid (runL A.nx s1 (ws.drop k) = R) ∧ Hid (Since w1 wr)) (fun _ i _ => m - (intOf i).toNat)
    case atStart => exact ⟨0, A.st, Nat.zero_le _, rfl, rfl, hs12.1, hs12.2, HR0, Since.refl _⟩
    case round =>
      obtain ⟨k, s1, hk, rfl, rfl, hs1, hs2, HR, HS⟩ := hrel
      by_cases hlt : k < m
      · have hki : (k : Int) < (m : Int) := by omega
        have hx : k < ws.length := by have := HM.out; omega
        obtain ⟨b1, off1, rfl, hb1, d1⟩ := HU.out k hx
        have HW : Hid (Since w wr) := HS1.out.trans HS.out
        have d2 : wr.cell? ⟨b1, off1 + k, none⟩ = some (.int .i64 ws[k]) := (Below.cell HW.out (p := ⟨b1, off1 + k, none⟩) hb1).trans d1
        clear d1
        obtain ⟨x, hxx⟩ : ∃ x, x = ws[k] := ⟨_, rfl⟩
        have HX := Lib.hid hxx
        rw [← hxx] at d2
        by_cases hneg : s1 = -1
        · subst hneg
          have HF : Hid ((-1 : Int) = R) := by rw [← HR.out]; exact (runL_negAt _ _ _ _ rfl).symm
          clear hxx
          go_wp2
          go_ret
          exact ⟨ret_int HF.out, HW.out⟩
        · have hne : (s1 == -1) = false := by simpa using hneg
          obtain ⟨t, rfl⟩ : ∃ t : Nat, s1 = t := ⟨s1.toNat, by omega⟩
          have ht0 : (0 : Int) ≤ (t : Int) := by omega
          have htn : t < kk := by omega
          clear hneg
          cases e4 : inB x 0 8 with
          | false =>
            have HB4 := Lib.hid e4
            have HF : Hid ((-1 : Int) = R) := by rw [← HR.out]; exact (runL_bad _ _ _ hx _ (by rw [← hxx]; exact e4)).symm
            clear e4 hxx
            go_wp2_with fail
            refine (isLetter_any x _).mono ?_
            rintro e w2 ⟨rfl, rfl⟩
            rw [HB4.out]
            go_wp2
            go_ret
            exact ⟨ret_int HF.out, HW.out⟩
          | true =>
            have HB4 := Lib.hid e4
            have hx8 : 0 ≤ x ∧ x ≤ 8 := by simpa [inB] using e4
            obtain ⟨z, hz⟩ : ∃ z : Nat, x = z := ⟨x.toNat, by omega⟩
            have hz9 : z < 9 := by omega
            have hst := nextA_in HV.out (t : Int) (x : Int) ⟨ht0, by rw [← HN.out]; omega⟩ e4
            obtain ⟨_, _, _, hb5, hb6⟩ := hst
            rw [← HN.out] at hb6
            have HR2 : Hid (runL A.nx (nextA A.nx t x) (ws.drop (k + 1)) = R) := by
              rw [← HR.out, hxx]; exact (runL_step A.nx ws k hx (t : Int) ht0 (by rw [← hxx]; exact e4)).symm
            obtain ⟨c1, o1, c2, o2, cc, rfl, hc1, hcell, hc2, hcs⟩ := next_cells HV.out HC t (by rw [← HN.out]; exact htn)
            have hcz := hcs z hz9
            rw [← hz] at hcz
            obtain ⟨q, hq⟩ : ∃ q, q = nextA A.nx t x := ⟨_, rfl⟩
            rw [← hq] at hcz HR2 hb5 hb6
            have f1 : wr.cell? ⟨c1, o1 + t, none⟩ = some (.slice (some ⟨c2, o2, none⟩) 9 cc) := (Below.cell HW.out (p := ⟨c1, o1 + t, none⟩) hc1).trans hcell
            have f2 : wr.cell? ⟨c2, o2 + z, none⟩ = some (.int .i64 q) := (Below.cell HW.out (p := ⟨c2, o2 + z, none⟩) hc2).trans hcz
            obtain ⟨⟨p0, p1, p2⟩, _⟩ := (B1.out.since HS.out).threeA
            clear e4 hxx hcell hcz hcs hq HX
            rw [hz] at d2 HB4
            clear hz hx8
            have hti : (t : Int) < (kk : Int) := by omega
            have hz0 : (0 : Int) ≤ (z : Int) := by omega
            have hzi : (z : Int) < 9 := by omega
            have hk0 : (0 : Int) ≤ (k : Int) := by omega
            go_wp2_with fail
            refine (isLetter_any (z : Int) _).mono ?_
            rintro e w2 ⟨rfl, rfl⟩
            rw [HB4.out]
            go_wp2
            go_roundw
            case rel => exact ⟨k + 1, q, by omega, by go_num, rfl, hb5, hb6, HR2, HS.out⟩
            case measure => simp [intOf]; omega
      · obtain rfl : k = m := by omega
        have HF : Hid (s1 = R) := by
          have := HR.out
          rw [List.drop_of_length_le (by have := HM.out; omega)] at this
          exact this
        go_wp2
        go_ret
        exact ⟨ret_int HF.out, HS1.out.trans HS.out⟩
end Go.Proofs.Ytcokggjekleabaa
