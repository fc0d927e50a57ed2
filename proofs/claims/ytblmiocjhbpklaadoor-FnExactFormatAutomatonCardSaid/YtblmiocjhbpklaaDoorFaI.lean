/- FormatAutomaton, the program's. -/
import Derived.Test.YtblmiocjhbpklaaDoorFaS
namespace Go.Proofs.YtblmiocjhbpklaaDoor
set_option maxRecDepth 100000
set_option linter.unusedVariables false
set_option linter.unusedSimpArgs false
open Go.ChangeShapes Go.WideShapes Go.ChangeAt Go.RowKit

set_option maxHeartbeats 4000000 in
set_option maxRecDepth 100000 in
theorem fmtSt_any (v : Value) (A : Aut) (k : Nat) (w : World) (htb : Tab w) (hfm : Fmts w) (h : AutAt w v A) (hv : ValidA A) (hk : k < A.ac.length) :
    Calls Tryd.prog 95 #[v, .int .i64 (k : Nat)] w fun e w' => e = .returned (.string (staB A k)) ∧ Since w w' := by
  have HFI : Hid (∀ (x : Int) W, Since w W → -9223372036854775808 ≤ x → x ≤ 9223372036854775807 → Calls Tryd.prog 94 #[.int .i64 x] W fun e w' => e = .returned (.string (itB x)) ∧ Since W w') := fun x W hW h0 h1 => implFI_any x W h0 h1 (htb.since hW)
  have HFL : Hid (∀ (x : Int) W, Since w W → Calls Tryd.prog 131 #[.int .i64 x] W fun e w' => e = .returned (.string (fmtL x)) ∧ Since W w') := fun x W hW => implFL_any x W (hfm.since hW)
  clear htb hfm
  obtain ⟨a, b, rfl, _, ha, hb⟩ := h
  obtain ⟨ao, ca, rfl, CA⟩ := ha
  obtain ⟨bo, cb, rfl, HC⟩ := hb
  have hx : k < A.ac.length := hk
  have hn12 := hv.1
  have hnm : A.nx.length = A.ac.length := hv.2.1
  have hxn : k < A.nx.length := by rw [hnm]; exact hk
  obtain ⟨b1, off1, rfl, hb1, d1⟩ := CA.out k hx
  obtain ⟨c1, o1, c2, o2, cc, rfl, hc1, hcell, hc2, hcs⟩ := next_cells hv HC k hx
  have HCS := Lib.hid hcs
  have HCL := Lib.hid hcell
  have HD := Lib.hid d1
  have HSTA := Lib.hid (sta_at hv k hx hxn)
  have hrow9 : (A.nx[k]).length = 9 := (hv.row k hxn).1
  have HNX : Hid (∀ z : Nat, z < 9 → nextA A.nx k z = nxAt A.nx[k] z) := fun z hz => by
    rw [nextA_at A.nx k z hxn (by omega), nxAt_is _ z (by omega)]
  have HRI : Hid (∀ z : Nat, InI (nxAt A.nx[k] z)) := fun j => by have := nx_in hv k j; rw [List.getElem?_eq_getElem hxn] at this; exact this
  have HRG : Hid (∀ z : Nat, z < 9 → -1 ≤ nxAt A.nx[k] z) := fun z hz => by
    rw [nxAt_is _ z (by omega)]; exact ((hv.row k hxn).at z (by omega)).1
  have HRS : Hid (∀ z : Nat, z ≤ 9 → (rowB A.nx[k] z).size ≤ 225) := fun z hz => by
    have := rowB_size A.nx[k] HRI.out z
    omega
  have hik := itB_size (k : Int) (by omega) (by omega)
  rw [hnm]
  obtain ⟨n, hn⟩ : ∃ n, n = A.ac.length := ⟨_, rfl⟩
  rw [← hn] at hk hn12 ⊢
  obtain ⟨r, hr⟩ : ∃ r, r = A.nx[k] := ⟨_, rfl⟩
  obtain ⟨cb0, hcb0⟩ : ∃ c, c = A.ac[k] := ⟨_, rfl⟩
  rw [← hr] at HSTA HNX HRS HRI HRG
  rw [← hcb0] at HSTA HD
  obtain ⟨y, hy⟩ : ∃ y, y = w.alloc (.cells #[.int .i64 A.st, .slice (some ⟨b1, off1, none⟩) n ca, .slice (some ⟨c1, o1, none⟩) n cb] 68) := ⟨_, rfl⟩
  have hs0 : Since w y := by rw [hy]; exact (Since.refl w).alloc _
  have B0 : Hid (Blk y w.heap.size 68 #[.int .i64 A.st, .slice (some ⟨b1, off1, none⟩) n ca, .slice (some ⟨c1, o1, none⟩) n cb]) := by rw [hy]; exact Blk.new rfl _ _
  have HY := Lib.hid hy
  obtain ⟨I1, hI1⟩ : ∃ I1, I1 = itB (k : Int) := ⟨_, rfl⟩
  have HI1 := Lib.hid hI1
  rw [← hI1] at hik HSTA
  have hki : (k : Int) < (n : Int) := by omega
  have hk0 : (0 : Int) ≤ (k : Int) := by omega
  have e42 : (⟨#[42]⟩ : ByteArray).size = 1 := rfl
  clear hy d1 hcell hcs CA HC hrow9 hnm hn hr hcb0 hI1 hv
  go_enter Tryd.func95, Tryd.ntmps95
  go_wp2_with fail
  rw [← HY.out]
  refine (HFI.out (k : Int) _ hs0 (by omega) (by omega)).mono ?_
  rintro e w3 ⟨rfl, hs3⟩
  rw [← HI1.out]
  have HS3 := Lib.hid (hs0.trans hs3)
  have B3 := Lib.hid (B0.out.since hs3)
  have d3 : w3.cell? ⟨b1, off1 + k, none⟩ = some (.bool cb0) := (Below.cell HS3.out (p := ⟨b1, off1 + k, none⟩) hb1).trans HD.out
  have f0 : w3.cell? ⟨c1, o1 + k, none⟩ = some (.slice (some ⟨c2, o2, none⟩) 9 cc) := (Below.cell HS3.out (p := ⟨c1, o1 + k, none⟩) hc1).trans HCL.out
  obtain ⟨⟨p0, p1, p2⟩, _⟩ := B3.out.threeA
  obtain ⟨BS, hBS⟩ : ∃ BS, BS = I1 ++ starB cb0 := ⟨_, rfl⟩
  have hBSz : BS.size ≤ 30 := by
    have e2 := starB_size cb0
    rw [hBS]; simp only [ByteArray.size_append]; omega
  have HEND : Hid (BS ++ rowB r 9 = staB A k) := by unfold Hid; rw [HSTA.out, hBS]
  cases cb0
  case false =>
    have HB0 : Hid (I1 = BS ++ rowB r 0) := by
      show _ = BS ++ (⟨#[]⟩ : ByteArray)
      rw [ba_nil, hBS]; exact (ba_nil _).symm
    clear hBS
    go_wp2
    go_loopw [5, 23] (fun c i wz => ∃ (z : Nat) (t : ByteArray), z ≤ 9 ∧ i = .int .i64 z ∧ c = .string t ∧ Hid (t = BS ++ rowB r z) ∧ Hid (Since w3 wz)) (fun _ i _ => 9 - (intOf i).toNat)
    case atStart => exact ⟨0, _, Nat.zero_le _, rfl, rfl, HB0.out, Since.refl _⟩
    case round =>
      obtain ⟨z, t, hz, rfl, rfl, HT, HSz⟩ := hrel
      have HW3 : Hid (Since w wr) := HS3.out.trans HSz.out
      have htz : t.size ≤ 300 := by
        have h1 := HRS.out z hz
        rw [HT.out, ByteArray.size_append]; omega
      by_cases hzt : z < 9
      · have hzi : (z : Int) < 9 := by omega
        have hz0 : (0 : Int) ≤ (z : Int) := by omega
        obtain ⟨q, hq⟩ : ∃ q, q = nxAt r z := ⟨_, rfl⟩
        have f2 : wr.cell? ⟨c2, o2 + z, none⟩ = some (.int .i64 q) := by rw [hq, ← HNX.out z hzt]; exact (Below.cell HW3.out (p := ⟨c2, o2 + z, none⟩) hc2).trans (HCS.out z hzt)
        have hqi := HRI.out z
        have hqg := HRG.out z hzt
        rw [← hq] at hqi hqg
        unfold InI at hqi
        by_cases hneg : q = -1
        · have HN1 : Hid (t = BS ++ rowB r (z + 1)) := by unfold Hid; rw [rowB_no (by rw [← hq, hneg]; decide)]; exact HT.out
          have hqn : (q != -1) = false := by simp [hneg]
          clear hq hneg
          go_wp2
          go_roundw
          case rel => exact ⟨z + 1, t, by omega, by go_num, rfl, HN1.out, HSz.out⟩
          case measure => simp [intOf]; omega
        · have hqn : (q != -1) = true := by simpa using hneg
          have hI2 := itB_size q hqi.1 hqi.2
          have hL2 := fmtL_size (z : Int)
          have HN1 : Hid (t ++ (((⟨#[32]⟩ ++ fmtL (z : Int)) ++ ⟨#[62]⟩) ++ itB q) = BS ++ rowB r (z + 1)) := by
            unfold Hid
            rw [rowB_yes (by omega), HT.out, hq]
            unfold trB
            simp only [ByteArray.append_assoc]
          have HQI : Hid (-9223372036854775808 ≤ q ∧ q ≤ 9223372036854775807) := hqi
          obtain ⟨I2, hI2e⟩ : ∃ I2, I2 = itB q := ⟨_, rfl⟩
          obtain ⟨L2, hL2e⟩ : ∃ L2, L2 = fmtL (z : Int) := ⟨_, rfl⟩
          rw [← hI2e] at hI2 HN1
          rw [← hL2e] at hL2 HN1
          have HI2 := Lib.hid hI2e
          have HL2 := Lib.hid hL2e
          have n1 : ¬ 9223372036854775807 < 1 + L2.size := by omega
          have n2 : ¬ 9223372036854775807 < 1 + L2.size + 1 := by omega
          have n3 : ¬ 9223372036854775807 < 1 + L2.size + 1 + I2.size := by omega
          have n4 : ¬ 9223372036854775807 < t.size + (1 + L2.size + 1 + I2.size) := by omega
          clear hq hneg hI2e hL2e hqi hqg
          go_wp2_with fail
          refine (HFL.out (z : Int) _ HW3.out).mono ?_
          rintro e w5 ⟨rfl, hs5⟩
          rw [← HL2.out]
          have HS5 := Lib.hid (HSz.out.trans hs5)
          go_wp2_with fail
          refine (HFI.out q _ (HW3.out.trans hs5) HQI.out.1 HQI.out.2).mono ?_
          rintro e w6 ⟨rfl, hs6⟩
          rw [← HI2.out]
          have HS6 := Lib.hid (HS5.out.trans hs6)
          go_wp2
          go_roundw
          case rel => exact ⟨z + 1, _, by omega, by go_num, rfl, HN1.out, HS6.out⟩
          case measure => simp [intOf]; omega
      · have hz9 : z = 9 := by omega
        subst hz9
        have HT2 : Hid (t = staB A k) := by rw [HT.out]; exact HEND.out
        have HS8 := Lib.hid (HS3.out.trans HSz.out)
        go_wp2
        go_ret
        exact ⟨ret_str HT2.out, HS8.out⟩
  case true =>
    have HB0 : Hid (I1 ++ ⟨#[42]⟩ = BS ++ rowB r 0) := by
      show _ = BS ++ (⟨#[]⟩ : ByteArray)
      rw [ba_nil, hBS]; rfl
    have n42 : ¬ 9223372036854775807 < I1.size + 1 := by omega
    clear hBS
    go_wp2
    go_loopw [5, 23] (fun c i wz => ∃ (z : Nat) (t : ByteArray), z ≤ 9 ∧ i = .int .i64 z ∧ c = .string t ∧ Hid (t = BS ++ rowB r z) ∧ Hid (Since w3 wz)) (fun _ i _ => 9 - (intOf i).toNat)
    case atStart => exact ⟨0, _, Nat.zero_le _, rfl, rfl, HB0.out, Since.refl _⟩
    case round =>
      obtain ⟨z, t, hz, rfl, rfl, HT, HSz⟩ := hrel
      have HW3 : Hid (Since w wr) := HS3.out.trans HSz.out
      have htz : t.size ≤ 300 := by
        have h1 := HRS.out z hz
        rw [HT.out, ByteArray.size_append]; omega
      by_cases hzt : z < 9
      · have hzi : (z : Int) < 9 := by omega
        have hz0 : (0 : Int) ≤ (z : Int) := by omega
        obtain ⟨q, hq⟩ : ∃ q, q = nxAt r z := ⟨_, rfl⟩
        have f2 : wr.cell? ⟨c2, o2 + z, none⟩ = some (.int .i64 q) := by rw [hq, ← HNX.out z hzt]; exact (Below.cell HW3.out (p := ⟨c2, o2 + z, none⟩) hc2).trans (HCS.out z hzt)
        have hqi := HRI.out z
        have hqg := HRG.out z hzt
        rw [← hq] at hqi hqg
        unfold InI at hqi
        by_cases hneg : q = -1
        · have HN1 : Hid (t = BS ++ rowB r (z + 1)) := by unfold Hid; rw [rowB_no (by rw [← hq, hneg]; decide)]; exact HT.out
          have hqn : (q != -1) = false := by simp [hneg]
          clear hq hneg
          go_wp2
          go_roundw
          case rel => exact ⟨z + 1, t, by omega, by go_num, rfl, HN1.out, HSz.out⟩
          case measure => simp [intOf]; omega
        · have hqn : (q != -1) = true := by simpa using hneg
          have hI2 := itB_size q hqi.1 hqi.2
          have hL2 := fmtL_size (z : Int)
          have HN1 : Hid (t ++ (((⟨#[32]⟩ ++ fmtL (z : Int)) ++ ⟨#[62]⟩) ++ itB q) = BS ++ rowB r (z + 1)) := by
            unfold Hid
            rw [rowB_yes (by omega), HT.out, hq]
            unfold trB
            simp only [ByteArray.append_assoc]
          have HQI : Hid (-9223372036854775808 ≤ q ∧ q ≤ 9223372036854775807) := hqi
          obtain ⟨I2, hI2e⟩ : ∃ I2, I2 = itB q := ⟨_, rfl⟩
          obtain ⟨L2, hL2e⟩ : ∃ L2, L2 = fmtL (z : Int) := ⟨_, rfl⟩
          rw [← hI2e] at hI2 HN1
          rw [← hL2e] at hL2 HN1
          have HI2 := Lib.hid hI2e
          have HL2 := Lib.hid hL2e
          have n1 : ¬ 9223372036854775807 < 1 + L2.size := by omega
          have n2 : ¬ 9223372036854775807 < 1 + L2.size + 1 := by omega
          have n3 : ¬ 9223372036854775807 < 1 + L2.size + 1 + I2.size := by omega
          have n4 : ¬ 9223372036854775807 < t.size + (1 + L2.size + 1 + I2.size) := by omega
          clear hq hneg hI2e hL2e hqi hqg
          go_wp2_with fail
          refine (HFL.out (z : Int) _ HW3.out).mono ?_
          rintro e w5 ⟨rfl, hs5⟩
          rw [← HL2.out]
          have HS5 := Lib.hid (HSz.out.trans hs5)
          go_wp2_with fail
          refine (HFI.out q _ (HW3.out.trans hs5) HQI.out.1 HQI.out.2).mono ?_
          rintro e w6 ⟨rfl, hs6⟩
          rw [← HI2.out]
          have HS6 := Lib.hid (HS5.out.trans hs6)
          go_wp2
          go_roundw
          case rel => exact ⟨z + 1, _, by omega, by go_num, rfl, HN1.out, HS6.out⟩
          case measure => simp [intOf]; omega
      · have hz9 : z = 9 := by omega
        subst hz9
        have HT2 : Hid (t = staB A k) := by rw [HT.out]; exact HEND.out
        have HS8 := Lib.hid (HS3.out.trans HSz.out)
        go_wp2
        go_ret
        exact ⟨ret_str HT2.out, HS8.out⟩
set_option maxHeartbeats 4000000 in
set_option maxRecDepth 100000 in
theorem implFA_any (v : Value) (A : Aut) (w : World) (htb : Tab w) (hfm : Fmts w) (h : AutAt w v A) (hm : MxA A) :
    Calls Tryd.prog 43 #[v] w fun e w' => e = .returned (.string (fmtAu A)) ∧ Since w w' := by
  have HVA : Hid (∀ W, Since w W → Calls Tryd.prog 93 #[v] W fun e w' => e = .returned (.bool (validA A)) ∧ Since W w') := fun W hW => implVA_any v A W (h.since hW) hm
  have HFI : Hid (∀ (x : Int) W, Since w W → -9223372036854775808 ≤ x → x ≤ 9223372036854775807 → Calls Tryd.prog 94 #[.int .i64 x] W fun e w' => e = .returned (.string (itB x)) ∧ Since W w') := fun x W hW h0 h1 => implFI_any x W h0 h1 (htb.since hW)
  have HST : Hid (∀ (k : Nat) W, Since w W → ValidA A → k < A.ac.length → Calls Tryd.prog 95 #[v, .int .i64 (k : Nat)] W fun e w' => e = .returned (.string (staB A k)) ∧ Since W w') := fun k W hW hv hk => fmtSt_any v A k W (htb.since hW) (hfm.since hW) (h.since hW) hv hk
  clear htb hfm
  obtain ⟨a, b, rfl, _, ha, hb⟩ := h
  obtain ⟨ao, ca, rfl⟩ := ha.len
  obtain ⟨bo, cb, rfl⟩ := hb.len
  clear ha hb
  have hm1 := hm.1
  unfold maxLen at hm1
  clear hm
  obtain ⟨n, hn⟩ : ∃ n, n = A.ac.length := ⟨_, rfl⟩
  obtain ⟨m, hmm⟩ : ∃ n, n = A.nx.length := ⟨_, rfl⟩
  rw [← hn, ← hmm] at HVA HST ⊢
  rw [← hn] at hm1
  have HN := Lib.hid hn
  clear hn hmm
  obtain ⟨y, hy⟩ : ∃ y, y = w.alloc (.cells #[.int .i64 A.st, .slice ao n ca, .slice bo m cb] 68) := ⟨_, rfl⟩
  have hs0 : Since w y := by rw [hy]; exact (Since.refl w).alloc _
  have B0 : Hid (Blk y w.heap.size 68 #[.int .i64 A.st, .slice ao n ca, .slice bo m cb]) := by rw [hy]; exact Blk.new rfl _ _
  have HY := Lib.hid hy
  clear hy
  cases e : validA A with
  | false =>
    have HB := Lib.hid e
    have HF := Lib.hid (fmtAu_no e)
    clear e
    go_enter Tryd.func43, Tryd.ntmps43
    go_wp2_with fail
    rw [← HY.out]
    refine (HVA.out _ hs0).mono ?_
    rintro e w1 ⟨rfl, hs1⟩
    rw [HB.out]
    have hs01 := hs0.trans hs1
    go_wp2
    go_ret
    exact ⟨ret_str HF.out.symm, hs01⟩
  | true =>
    have HB := Lib.hid e
    have HV : Hid (ValidA A) := (validA_iff A).1 e
    have HF := Lib.hid (fmtAu_yes e)
    have hn12 : n ≤ 12 := by rw [HN.out]; exact HV.out.1
    have hst := HV.out.2.2.1
    rw [← HN.out] at hst
    have hit := itB_size A.st (by omega) (by omega)
    clear e
    go_enter Tryd.func43, Tryd.ntmps43
    go_wp2_with fail
    rw [← HY.out]
    refine (HVA.out _ hs0).mono ?_
    rintro e w1 ⟨rfl, hs1⟩
    rw [HB.out]
    have HS1 := Lib.hid (hs0.trans hs1)
    have B1 := Lib.hid (B0.out.since hs1)
    obtain ⟨⟨p0, p1, p2⟩, _⟩ := B1.out.threeA
    go_wp2_with fail
    refine (HFI.out A.st _ HS1.out (by omega) (by omega)).mono ?_
    rintro e w2 ⟨rfl, hs2⟩
    have HS2 := Lib.hid (HS1.out.trans hs2)
    have B2 := Lib.hid (B1.out.since hs2)
    have HP0 : Hid ([⟨#[115, 116, 97, 114, 116, 32]⟩ ++ itB A.st] = partsA A 0) := rfl
    have e6 : (⟨#[115, 116, 97, 114, 116, 32]⟩ : ByteArray).size = 6 := rfl
    clear p0 p1 p2
    generalize itB A.st = I0 at hit HP0
    obtain ⟨T0, hT0⟩ : ∃ T0, T0 = (⟨#[115, 116, 97, 114, 116, 32]⟩ : ByteArray) ++ I0 := ⟨_, rfl⟩
    have hal : Since w2 (w2.alloc (.cells #[.string T0] 9)) := (Since.refl w2).alloc _
    have HW0 : Hid ((w2.alloc (.cells #[.string T0] 9)).ownsRow w2.heap.size 9 1 (.slice (some ⟨w2.heap.size, 0, none⟩) 1 1) 1 ((partsA A 0).map scell)) := by
      rw [← HP0.out, ← hT0]
      exact World.ownsRow_lit w2 #[.string T0] 1 (Nat.le_refl _) (by unfold maxLen; omega) rfl
    have B2a := Lib.hid (B2.out.since hal)
    obtain ⟨⟨p0, p1, p2⟩, _⟩ := B2a.out.threeA
    rw [hT0] at HW0 hal p0 p1 p2 B2a
    have HAL := Lib.hid hal
    clear hT0 hal
    go_wp2
    clear p0 p1 p2
    go_loopw [3, 16] (fun q i wr => ∃ (k : Nat) (v1 : Value), k ≤ n ∧ i = .int .i64 k ∧ v1 = q ∧ Hid (wr.ownsRow w2.heap.size 9 1 v1 (k + 1) ((partsA A k).map scell)) ∧ Hid (Since w2 wr)) (fun _ i _ => n - (intOf i).toNat)
    case atStart => exact ⟨0, _, Nat.zero_le _, rfl, rfl, HW0.out, HAL.out⟩
    case round =>
      obtain ⟨k, v1, hk, rfl, rfl, HO, HS⟩ := hrel
      have HW : Hid (Since w wr) := HS2.out.trans HS.out
      by_cases hlt : k < n
      · have hki : (k : Int) < (n : Int) := by omega
        have hk0 : (0 : Int) ≤ (k : Int) := by omega
        obtain ⟨⟨p0, p1, p2⟩, _⟩ := (B2.out.since HS.out).threeA
        go_wp2_with fail
        refine (HST.out k _ HW.out HV.out hlt).mono ?_
        rintro e w5 ⟨rfl, hs5⟩
        have HS5 := Lib.hid (HS.out.trans hs5)
        have HO5 := Lib.hid (row_since HO.out hs5)
        have hb1 : (k + 1 + 1) * 16 ≤ 140737488355328 := by omega
        have hb2 : k + 1 + 1 ≤ maxLen := by unfold maxLen; omega
        clear p0 p1 p2
        go_wp2_with (at_builtin; go_must (refine append_cell rfl _ _ 118 rfl 9 (.string ByteArray.empty) 16 Tryd.underlying118 info_str rfl _ (k + 1) _ (by first | rfl | simp [Act.eval]) HO5.out HS5.out _ rfl (by first | rfl | simp [Act.eval]) hb1 hb2 ?_); intro v6 w6 ho6 hs6)
        have HO6 : Hid (w6.ownsRow w2.heap.size 9 1 v6 (k + 1 + 1) ((partsA A (k + 1)).map scell)) := by
          unfold Hid; rw [partsA_snoc, List.map_append]; exact ho6
        clear ho6
        go_roundw
        case rel => exact ⟨k + 1, v6, by omega, by go_num, rfl, HO6.out, hs6⟩
        case measure => simp [intOf]; omega
      · obtain rfl : k = n := by omega
        obtain ⟨g, cap, rfl, hg0⟩ := own_block HO.out (by omega)
        obtain ⟨hg, hcap, hcells⟩ := own_cells HO.out
        have hl := partsA_len A k
        have hasz := autB_size HV.out k hn12
        have HJ := Lib.hid (by
          have h := fun W a b => Tryd.strings_Join g 0 cap (partsA A k) ⟨#[59, 32]⟩ W a b (by rw [hl]; omega) (by rw [hl]; exact hcap) (by rw [show (⟨#[59, 32]⟩ : ByteArray).data.toList = [59, 32] from rfl, join_parts]; have : (autB A k).data.toList.length = (autB A k).size := rfl; omega)
          rw [hl, show (⟨#[59, 32]⟩ : ByteArray).data.toList = [59, 32] from rfl, join_parts] at h
          exact h)
        have HCE := Lib.hid hcells
        have HE : Hid (fmtAu A = ⟨(autB A k).data.toList.toArray⟩) := by rw [HF.out, ← HN.out]; rfl
        clear hcells hl hasz HO
        go_wp2_with fail
        refine (HJ.out _ HCE.out hg).mono ?_
        rintro e w7 ⟨rfl, hs7⟩
        have hs8 : Since w w7 := HW.out.trans hs7
        go_wp2
        go_ret
        exact ⟨ret_str HE.out.symm, hs8⟩
end Go.Proofs.YtblmiocjhbpklaaDoor
