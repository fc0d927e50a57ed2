/- FormatAutomaton, the model's. -/
import Derived.Test.YtblmiocjhbpklaaDoorFaM
import Derived.Test.YtblmiocjhbpklaaDoorFmt
import Derived.Test.YtblmiocjhbpklaaDoorK1
import Derived.Test.YtblmiocjhbpklaaDoorAuR
namespace Go.Proofs.YtblmiocjhbpklaaDoor
set_option maxRecDepth 100000
set_option linter.unusedVariables false
set_option linter.unusedSimpArgs false
open Go.ChangeShapes Go.WideShapes Go.ChangeAt Go.RowKit

set_option maxHeartbeats 4000000 in
set_option maxRecDepth 100000 in
theorem specFA_any (v : Value) (A : Aut) (w : World) (h : AutAt w v A) (hm : MxA A) :
    Calls Tryd.prog 41 #[v] w fun e w' => e = .returned (.string (fmtAu A)) ∧ Since w w' := by
  have HVA : Hid (∀ W, Since w W → Calls Tryd.prog 88 #[v] W fun e w' => e = .returned (.bool (validA A)) ∧ Since W w') := fun W hW => specVA_any v A W (h.since hW) hm
  obtain ⟨a, b, rfl, _, ha, hb⟩ := h
  obtain ⟨ao, ca, rfl, CA⟩ := ha
  obtain ⟨bo, cb, rfl, HC⟩ := hb
  have hm1 := hm.1
  unfold maxLen at hm1
  clear hm
  obtain ⟨n, hn⟩ : ∃ n, n = A.ac.length := ⟨_, rfl⟩
  obtain ⟨m, hmm⟩ : ∃ n, n = A.nx.length := ⟨_, rfl⟩
  rw [← hn, ← hmm] at HVA ⊢
  rw [← hn] at hm1
  have HN := Lib.hid hn
  have HM := Lib.hid hmm
  clear hn hmm
  obtain ⟨y, hy⟩ : ∃ y, y = w.alloc (.cells #[.int .i64 A.st, .slice ao n ca, .slice bo m cb] 68) := ⟨_, rfl⟩
  have hs0 : Since w y := by rw [hy]; exact (Since.refl w).alloc _
  have B0 : Hid (Blk y w.heap.size 68 #[.int .i64 A.st, .slice ao n ca, .slice bo m cb]) := by rw [hy]; exact Blk.new rfl _ _
  have HY := Lib.hid hy
  clear hy
  cases e : validA A with
  | false =>
    have HB := Lib.hid e
    have HF := Lib.hid (fmtAu_no e)
    clear e
    go_enter Tryd.func41, Tryd.ntmps41
    go_wp2_with fail
    rw [← HY.out]
    refine (HVA.out _ hs0).mono ?_
    rintro e w1 ⟨rfl, hs1⟩
    rw [HB.out]
    have hs01 := hs0.trans hs1
    go_wp2
    go_ret
    exact ⟨ret_str HF.out.symm, hs01⟩
  | true =>
    have HB := Lib.hid e
    have HV : Hid (ValidA A) := (validA_iff A).1 e
    have HF := Lib.hid (fmtAu_yes e)
    have hn12 : n ≤ 12 := by rw [HN.out]; exact HV.out.1
    have hnm : m = n := by rw [HM.out, HN.out]; exact HV.out.2.1
    subst hnm
    have hst := HV.out.2.2.1
    rw [← HN.out] at hst
    have hit := itB_size A.st (by omega) (by omega)
    have HFI : Hid (∀ (x : Int) W, -9223372036854775808 ≤ x → x ≤ 9223372036854775807 → Calls Tryd.prog 89 #[.int .i64 x] W fun e w' => e = .returned (.string (itB x)) ∧ Since W w') := fun x W h0 h1 => specFI_any x W h0 h1
    clear e
    go_enter Tryd.func41, Tryd.ntmps41
    go_wp2_with fail
    rw [← HY.out]
    refine (HVA.out _ hs0).mono ?_
    rintro e w1 ⟨rfl, hs1⟩
    rw [HB.out]
    have HS1 := Lib.hid (hs0.trans hs1)
    have B1 := Lib.hid (B0.out.since hs1)
    obtain ⟨⟨p0, p1, p2⟩, _⟩ := B1.out.threeA
    go_wp2_with fail
    refine (HFI.out A.st _ (by omega) (by omega)).mono ?_
    rintro e w2 ⟨rfl, hs2⟩
    have HS2 := Lib.hid (HS1.out.trans hs2)
    have B2 := Lib.hid (B1.out.since hs2)
    have HA0 : Hid (⟨#[115, 116, 97, 114, 116, 32]⟩ ++ itB A.st = autB A 0) := rfl
    clear p0 p1 p2
    generalize itB A.st = I0 at hit HA0
    go_wp2
    go_loopw [3, 4] (fun c i wr => ∃ (k : Nat) (s : ByteArray), k ≤ m ∧ i = .int .i64 k ∧ c = .string s ∧ Hid (s = autB A k) ∧ Hid (Since w2 wr)) (fun _ i _ => m - (intOf i).toNat)
    case atStart => exact ⟨0, _, Nat.zero_le _, rfl, rfl, HA0.out, Since.refl _⟩
    case round =>
      obtain ⟨k, s, hk, rfl, rfl, HSs, HS⟩ := hrel
      have hsz : s.size ≤ 3015 := by have := autB_size HV.out k (by omega); rw [← HSs.out] at this; omega
      have HW : Hid (Since w wr) := HS2.out.trans HS.out
      obtain ⟨⟨p0, p1, p2⟩, _⟩ := (B2.out.since HS.out).threeA
      by_cases hlt : k < m
      · have hki : (k : Int) < (m : Int) := by omega
        have hk0 : (0 : Int) ≤ (k : Int) := by omega
        have hik := itB_size (k : Int) (by omega) (by omega)
        have hx : k < A.ac.length := by rw [← HN.out]; exact hlt
        have hxn : k < A.nx.length := by rw [← HM.out]; exact hlt
        obtain ⟨b1, off1, rfl, hb1, d1⟩ := CA.out k hx
        have d2 : ∀ W, Since w W → W.cell? ⟨b1, off1 + k, none⟩ = some (.bool A.ac[k]) := fun W hW => (Below.cell hW (p := ⟨b1, off1 + k, none⟩) hb1).trans d1
        have HD := Lib.hid d2
        obtain ⟨c1, o1, c2, o2, cc, rfl, hc1, hcell, hc2, hcs⟩ := next_cells HV.out HC k hx
        have HCS := Lib.hid hcs
        have HCL := Lib.hid hcell
        have hik0 : Hid (itB (k : Int) ++ starB A.ac[k] = (itB (k : Int) ++ starB A.ac[k])) := rfl
        have HSTA := Lib.hid (sta_at HV.out k hx hxn)
        have hrow9 : (A.nx[k]).length = 9 := (HV.out.row k hxn).1
        have HNX : Hid (∀ z : Nat, z < 9 → nextA A.nx k z = nxAt A.nx[k] z) := fun z hz => by
          rw [nextA_at A.nx k z hxn (by omega), nxAt_is _ z (by omega)]
        have HRS : Hid (∀ z : Nat, z ≤ 9 → (rowB A.nx[k] z).size ≤ 225) := fun z hz => by
          have := rowB_size A.nx[k] (fun j => by have := nx_in HV.out k j; rw [List.getElem?_eq_getElem hxn] at this; exact this) z
          omega
        have HRI : Hid (∀ z : Nat, InI (nxAt A.nx[k] z)) := fun j => by have := nx_in HV.out k j; rw [List.getElem?_eq_getElem hxn] at this; exact this
        obtain ⟨I1, hI1⟩ : ∃ I1, I1 = itB (k : Int) := ⟨_, rfl⟩
        have HI1 := Lib.hid hI1
        obtain ⟨cb0, hcb0⟩ : ∃ c, c = A.ac[k] := ⟨_, rfl⟩
        have HCB := Lib.hid hcb0
        rw [← hI1] at hik
        rw [← hcb0] at HD
        have HR9 := Lib.hid hrow9
        obtain ⟨r, hr⟩ : ∃ r, r = A.nx[k] := ⟨_, rfl⟩
        rw [← hr] at HSTA HNX HRS HRI
        clear d1 d2 hcs hcell hik0 hI1 hcb0 hrow9 HR9 hr
        go_wp2_with fail
        refine (HFI.out (k : Int) _ (by omega) (by omega)).mono ?_
        rintro e w3 ⟨rfl, hs3⟩
        rw [← HI1.out]
        have HS3 := Lib.hid (HW.out.trans hs3)
        have B3 := Lib.hid ((B2.out.since HS.out).since hs3)
        have HS23 := Lib.hid (HS.out.trans hs3)
        have d3 := HD.out _ HS3.out
        clear p0 p1 p2
        obtain ⟨⟨p0, p1, p2⟩, _⟩ := B3.out.threeA
        obtain ⟨BS, hBS⟩ : ∃ BS, BS = ((s ++ ⟨#[59, 32]⟩) ++ I1) ++ starB cb0 := ⟨_, rfl⟩
        have hBSz : BS.size ≤ 3050 := by
          have e1 : (⟨#[59, 32]⟩ : ByteArray).size = 2 := rfl
          have e2 := starB_size cb0
          rw [hBS]; simp only [ByteArray.size_append]; omega
        have HEND : Hid (BS ++ rowB r 9 = autB A (k + 1)) := by
          show _ = autB A k ++ (⟨#[59, 32]⟩ ++ staB A k)
          rw [HSTA.out, hBS, HSs.out, HI1.out, HCB.out]
          simp only [ByteArray.append_assoc]
        have e42 : (⟨#[42]⟩ : ByteArray).size = 1 := rfl
        cases cb0
        case false =>
          have HB0 : Hid (((s ++ ⟨#[59, 32]⟩) ++ I1) = BS ++ rowB r 0) := by
            show _ = BS ++ (⟨#[]⟩ : ByteArray)
            rw [ba_nil, hBS]; exact (ba_nil _).symm
          clear hBS
          go_wp2
          go_loopw [3, 5] (fun c i wz => ∃ (z : Nat) (t : ByteArray), z ≤ 9 ∧ i = .int .i64 z ∧ c = .string t ∧ Hid (t = BS ++ rowB r z) ∧ Hid (Since w3 wz)) (fun _ i _ => 9 - (intOf i).toNat)
          case atStart => exact ⟨0, _, Nat.zero_le _, rfl, rfl, HB0.out, Since.refl _⟩
          case round =>
            obtain ⟨z, t, hz, rfl, rfl, HT, HSz⟩ := hrel
            have HW3 : Hid (Since w wr) := HS3.out.trans HSz.out
            have htz : t.size ≤ 3300 := by
              have h1 := HRS.out z hz
              rw [HT.out, ByteArray.size_append]; omega
            obtain ⟨⟨p0, p1, p2⟩, _⟩ := (B3.out.since HSz.out).threeA
            by_cases hzt : z < 9
            · have hzi : (z : Int) < 9 := by omega
              have hz0 : (0 : Int) ≤ (z : Int) := by omega
              obtain ⟨q, hq⟩ : ∃ q, q = nxAt r z := ⟨_, rfl⟩
              have f1 : wr.cell? ⟨c1, o1 + k, none⟩ = some (.slice (some ⟨c2, o2, none⟩) 9 cc) := (Below.cell HW3.out (p := ⟨c1, o1 + k, none⟩) hc1).trans HCL.out
              have f2 : wr.cell? ⟨c2, o2 + z, none⟩ = some (.int .i64 q) := by rw [hq, ← HNX.out z hzt]; exact (Below.cell HW3.out (p := ⟨c2, o2 + z, none⟩) hc2).trans (HCS.out z hzt)
              have hqi := HRI.out z
              rw [← hq] at hqi
              unfold InI at hqi
              by_cases hneg : q < 0
              · have HN1 : Hid (t = BS ++ rowB r (z + 1)) := by unfold Hid; rw [rowB_no (by omega)]; exact HT.out
                have hqn : ¬ (0 : Int) ≤ q := by omega
                clear hq hneg
                go_wp2
                go_roundw
                case rel => exact ⟨z + 1, t, by omega, by go_num, rfl, HN1.out, HSz.out⟩
                case measure => simp [intOf]; omega
              · have hqn : (0 : Int) ≤ q := by omega
                have hI2 := itB_size q hqi.1 hqi.2
                have hL2 := fmtL_size (z : Int)
                have HN1 : Hid ((((t ++ ⟨#[32]⟩) ++ fmtL (z : Int)) ++ ⟨#[62]⟩) ++ itB q = BS ++ rowB r (z + 1)) := by
                  unfold Hid
                  rw [rowB_yes (by omega), HT.out, hq]
                  unfold trB
                  simp only [ByteArray.append_assoc]
                have HQI : Hid (-9223372036854775808 ≤ q ∧ q ≤ 9223372036854775807) := hqi
                obtain ⟨I2, hI2e⟩ : ∃ I2, I2 = itB q := ⟨_, rfl⟩
                obtain ⟨L2, hL2e⟩ : ∃ L2, L2 = fmtL (z : Int) := ⟨_, rfl⟩
                rw [← hI2e] at hI2 HN1
                rw [← hL2e] at hL2 HN1
                have HI2 := Lib.hid hI2e
                have HL2 := Lib.hid hL2e
                have n1 : ¬ 9223372036854775807 < t.size + 1 := by omega
                have n2 : ¬ 9223372036854775807 < t.size + 1 + L2.size := by omega
                have n3 : ¬ 9223372036854775807 < t.size + 1 + L2.size + 1 := by omega
                have n4 : ¬ 9223372036854775807 < t.size + 1 + L2.size + 1 + I2.size := by omega
                have HKC : Hid (∀ w', Since wr w' → w'.cell? ⟨w.heap.size, 0, none⟩ = some (.int .i64 A.st) ∧ w'.cell? ⟨w.heap.size, 1, none⟩ = some (.slice (some ⟨b1, off1, none⟩) m ca) ∧ w'.cell? ⟨w.heap.size, 2, none⟩ = some (.slice (some ⟨c1, o1, none⟩) m cb) ∧ w'.cell? ⟨c1, o1 + k, none⟩ = some (.slice (some ⟨c2, o2, none⟩) 9 cc) ∧ w'.cell? ⟨c2, o2 + z, none⟩ = some (.int .i64 q)) := by
                  intro w' hs
                  obtain ⟨⟨r0, r1, r2⟩, _⟩ := ((B3.out.since HSz.out).since hs).threeA
                  exact ⟨r0, r1, r2, (Below.cell hs (p := ⟨c1, o1 + k, none⟩) (Nat.lt_of_lt_of_le hc1 HW3.out.size)).trans f1, (Below.cell hs (p := ⟨c2, o2 + z, none⟩) (Nat.lt_of_lt_of_le hc2 HW3.out.size)).trans f2⟩
                clear hq hneg hI2e hL2e hqi
                go_wp2
                clear p0 p1 p2 f1 f2
                refine wp_region_held_drew (S := (fun w' => w'.cell? ⟨w.heap.size, 0, none⟩ = some (.int .i64 A.st) ∧ w'.cell? ⟨w.heap.size, 1, none⟩ = some (.slice (some ⟨b1, off1, none⟩) m ca) ∧ w'.cell? ⟨w.heap.size, 2, none⟩ = some (.slice (some ⟨c1, o1, none⟩) m cb) ∧ w'.cell? ⟨c1, o1 + k, none⟩ = some (.slice (some ⟨c2, o2, none⟩) 9 cc) ∧ w'.cell? ⟨c2, o2 + z, none⟩ = some (.int .i64 q))) (by kernel_rfl) (HKC.out _ (Since.refl _).drew) (fun hHeld => ?_)
                refine take_yes 0 (some 45) (v := ?_) rfl (by kernel_rfl) (by kernel_rfl) (by kernel_rfl) (by kernel_rfl) (fun _ _ _ h => h) (by rfl) (by assumption) ?_ ?_
                rotate_left
                · (intro w' hSw; (try dsimp only at hSw); go_simp; try with_reducible rfl)
                try simp only [Act.put, List.setIfInBounds_toArray, List.set_cons_zero, List.set_cons_succ]
                refine take_yes 1 (some 46) (v := ?_) rfl (by kernel_rfl) (by kernel_rfl) (by kernel_rfl) (by kernel_rfl) (fun _ _ _ h => h) (by rfl) (by assumption) ?_ ?_
                rotate_left
                · (intro w' hSw; (try dsimp only at hSw); go_simp; try with_reducible rfl)
                try simp only [Act.put, List.setIfInBounds_toArray, List.set_cons_zero, List.set_cons_succ]
                refine take_yes 2 (some 47) (v := ?_) rfl (by kernel_rfl) (by kernel_rfl) (by kernel_rfl) (by kernel_rfl) (fun _ _ _ h => h) (by rfl) (by assumption) ?_ ?_
                rotate_left
                · (intro w' hSw; (try dsimp only at hSw); go_simp; try with_reducible rfl)
                try simp only [Act.put, List.setIfInBounds_toArray, List.set_cons_zero, List.set_cons_succ]
                refine take_yes 6 (some 51) (v := ?_) rfl (by kernel_rfl) (by kernel_rfl) (by kernel_rfl) (by kernel_rfl) (fun _ _ _ h => h) (by rfl) (by assumption) ?_ ?_
                rotate_left
                · (intro w' hSw; (try dsimp only at hSw); go_simp; try with_reducible rfl)
                try simp only [Act.put, List.setIfInBounds_toArray, List.set_cons_zero, List.set_cons_succ]
                refine take_yes 7 (some 52) (v := ?_) rfl (by kernel_rfl) (by kernel_rfl) (by kernel_rfl) (by kernel_rfl) (fun _ _ _ h => h) (by rfl) (by assumption) ?_ ?_
                rotate_left
                · (intro w' hSw; (try dsimp only at hSw); go_simp; try with_reducible rfl)
                try simp only [Act.put, List.setIfInBounds_toArray, List.set_cons_zero, List.set_cons_succ]
                refine take_yes 8 (some 53) (v := ?_) rfl (by kernel_rfl) (by kernel_rfl) (by kernel_rfl) (by kernel_rfl) (fun _ _ _ h => h) (by rfl) (by assumption) ?_ ?_
                rotate_left
                · (intro w' hSw; (try dsimp only at hSw); go_simp; try with_reducible rfl)
                try simp only [Act.put, List.setIfInBounds_toArray, List.set_cons_zero, List.set_cons_succ]
                refine take_yes 9 (some 54) (v := ?_) rfl (by kernel_rfl) (by kernel_rfl) (by kernel_rfl) (by kernel_rfl) (fun _ _ _ h => h) (by rfl) (by assumption) ?_ ?_
                rotate_left
                · (intro w' hSw; (try dsimp only at hSw); go_simp; try with_reducible rfl)
                try simp only [Act.put, List.setIfInBounds_toArray, List.set_cons_zero, List.set_cons_succ]
                refine take_yes 10 (some 55) (v := ?_) rfl (by kernel_rfl) (by kernel_rfl) (by kernel_rfl) (by kernel_rfl) (fun _ _ _ h => h) (by rfl) (by assumption) ?_ ?_
                rotate_left
                · (intro w' hSw; (try dsimp only at hSw); go_simp; try with_reducible rfl)
                try simp only [Act.put, List.setIfInBounds_toArray, List.set_cons_zero, List.set_cons_succ]
                refine take_yes 11 (some 56) (v := ?_) rfl (by kernel_rfl) (by kernel_rfl) (by kernel_rfl) (by kernel_rfl) (fun _ _ _ h => h) (by rfl) (by assumption) ?_ ?_
                rotate_left
                · (intro w' hSw; (try dsimp only at hSw); go_simp; try with_reducible rfl)
                try simp only [Act.put, List.setIfInBounds_toArray, List.set_cons_zero, List.set_cons_succ]
                refine take_yes 12 (some 57) (v := ?_) rfl (by kernel_rfl) (by kernel_rfl) (by kernel_rfl) (by kernel_rfl) (fun _ _ _ h => h) (by rfl) (by assumption) ?_ ?_
                rotate_left
                · (intro w' hSw; (try dsimp only at hSw); go_simp; try with_reducible rfl)
                try simp only [Act.put, List.setIfInBounds_toArray, List.set_cons_zero, List.set_cons_succ]
                refine take_yes 13 (some 58) (v := ?_) rfl (by kernel_rfl) (by kernel_rfl) (by kernel_rfl) (by kernel_rfl) (fun _ _ _ h => h) (by rfl) (by assumption) ?_ ?_
                rotate_left
                · (intro w' hSw; (try dsimp only at hSw); go_simp; try with_reducible rfl)
                try simp only [Act.put, List.setIfInBounds_toArray, List.set_cons_zero, List.set_cons_succ]
                refine take_run 3 rfl (by kernel_rfl) (by rfl) (fun K hK => ?_)
                go_simp
                refine (specFL_any (z : Int) _).mono ?_
                rintro e w5 ⟨rfl, hs5⟩
                have hc5 := Since.of_drew hs5
                refine hK.out _ _ (HKC.out _ hc5) (fun hHeld2 => ?_)
                clear hK K hHeld
                rw [← HL2.out]
                try simp only [Act.put, List.setIfInBounds_toArray, List.set_cons_zero, List.set_cons_succ]
                refine take_yes 4 (some 49) (v := ?_) rfl (by kernel_rfl) (by kernel_rfl) (by kernel_rfl) (by kernel_rfl) (fun _ _ _ h => h) (by rfl) (by assumption) ?_ ?_
                rotate_left
                · (intro w' hSw; (try dsimp only at hSw); go_simp; try with_reducible rfl)
                try simp only [Act.put, List.setIfInBounds_toArray, List.set_cons_zero, List.set_cons_succ]
                refine take_yes 5 (some 50) (v := ?_) rfl (by kernel_rfl) (by kernel_rfl) (by kernel_rfl) (by kernel_rfl) (fun _ _ _ h => h) (by rfl) (by assumption) ?_ ?_
                rotate_left
                · (intro w' hSw; (try dsimp only at hSw); go_simp; try with_reducible rfl)
                try simp only [Act.put, List.setIfInBounds_toArray, List.set_cons_zero, List.set_cons_succ]
                refine take_run 14 rfl (by kernel_rfl) (by rfl) (fun K hK => ?_)
                go_simp
                refine (HFI.out q _ HQI.out.1 HQI.out.2).mono ?_
                rintro e w6 ⟨rfl, hs6⟩
                have hc6 := hc5.trans hs6
                refine hK.out _ _ (HKC.out _ hc6) (fun hHeld3 => ?_)
                clear hK K hHeld2
                rw [← HI2.out]
                try simp only [Act.put, List.setIfInBounds_toArray, List.set_cons_zero, List.set_cons_succ]
                refine take_yes 15 (some 60) (v := ?_) rfl (by kernel_rfl) (by kernel_rfl) (by kernel_rfl) (by kernel_rfl) (fun _ _ _ h => h) (by rfl) (by assumption) ?_ ?_
                rotate_left
                · (intro w' hSw; (try dsimp only at hSw); go_simp; try with_reducible rfl)
                try simp only [Act.put, List.setIfInBounds_toArray, List.set_cons_zero, List.set_cons_succ]
                refine take_yes 16 (some 3) (v := ?_) rfl (by kernel_rfl) (by kernel_rfl) (by kernel_rfl) (by kernel_rfl) (fun _ _ _ h => h) (by rfl) (by assumption) ?_ ?_
                rotate_left
                · (intro w' hSw; (try dsimp only at hSw); go_simp; try with_reducible rfl)
                try simp only [Act.put, List.setIfInBounds_toArray, List.set_cons_zero, List.set_cons_succ]
                refine wpAnyH_done (by kernel_rfl) ?_ _
                clear hHeld3
                have HS6 := Lib.hid (HSz.out.trans hc6)
                go_wp2
                go_roundw
                case rel => exact ⟨z + 1, _, by omega, by go_num, rfl, HN1.out, HS6.out⟩
                case measure => simp [intOf]; omega
            · have hz9 : z = 9 := by omega
              subst hz9
              have HT2 : Hid (t = autB A (k + 1)) := by rw [HT.out]; exact HEND.out
              have HS8 := Lib.hid (HS23.out.trans HSz.out)
              go_wp2
              go_roundw
              case rel => exact ⟨k + 1, t, by omega, by go_num, rfl, HT2.out, HS8.out⟩
              case measure => simp [intOf]; omega
        case true =>
          have HB0 : Hid (((s ++ ⟨#[59, 32]⟩) ++ I1) ++ ⟨#[42]⟩ = BS ++ rowB r 0) := by
            show _ = BS ++ (⟨#[]⟩ : ByteArray)
            rw [ba_nil, hBS]; rfl
          have hsi : (s ++ ⟨#[59, 32]⟩ ++ I1).size ≤ 3040 := by
            have e1 : (⟨#[59, 32]⟩ : ByteArray).size = 2 := rfl
            simp only [ByteArray.size_append]; omega
          have n42 : ¬ 9223372036854775807 < s.size + 2 + I1.size + 1 := by omega
          clear hBS
          go_wp2
          go_loopw [3, 5] (fun c i wz => ∃ (z : Nat) (t : ByteArray), z ≤ 9 ∧ i = .int .i64 z ∧ c = .string t ∧ Hid (t = BS ++ rowB r z) ∧ Hid (Since w3 wz)) (fun _ i _ => 9 - (intOf i).toNat)
          case atStart => exact ⟨0, _, Nat.zero_le _, rfl, rfl, HB0.out, Since.refl _⟩
          case round =>
            obtain ⟨z, t, hz, rfl, rfl, HT, HSz⟩ := hrel
            have HW3 : Hid (Since w wr) := HS3.out.trans HSz.out
            have htz : t.size ≤ 3300 := by
              have h1 := HRS.out z hz
              rw [HT.out, ByteArray.size_append]; omega
            obtain ⟨⟨p0, p1, p2⟩, _⟩ := (B3.out.since HSz.out).threeA
            by_cases hzt : z < 9
            · have hzi : (z : Int) < 9 := by omega
              have hz0 : (0 : Int) ≤ (z : Int) := by omega
              obtain ⟨q, hq⟩ : ∃ q, q = nxAt r z := ⟨_, rfl⟩
              have f1 : wr.cell? ⟨c1, o1 + k, none⟩ = some (.slice (some ⟨c2, o2, none⟩) 9 cc) := (Below.cell HW3.out (p := ⟨c1, o1 + k, none⟩) hc1).trans HCL.out
              have f2 : wr.cell? ⟨c2, o2 + z, none⟩ = some (.int .i64 q) := by rw [hq, ← HNX.out z hzt]; exact (Below.cell HW3.out (p := ⟨c2, o2 + z, none⟩) hc2).trans (HCS.out z hzt)
              have hqi := HRI.out z
              rw [← hq] at hqi
              unfold InI at hqi
              by_cases hneg : q < 0
              · have HN1 : Hid (t = BS ++ rowB r (z + 1)) := by unfold Hid; rw [rowB_no (by omega)]; exact HT.out
                have hqn : ¬ (0 : Int) ≤ q := by omega
                clear hq hneg
                go_wp2
                go_roundw
                case rel => exact ⟨z + 1, t, by omega, by go_num, rfl, HN1.out, HSz.out⟩
                case measure => simp [intOf]; omega
              · have hqn : (0 : Int) ≤ q := by omega
                have hI2 := itB_size q hqi.1 hqi.2
                have hL2 := fmtL_size (z : Int)
                have HN1 : Hid ((((t ++ ⟨#[32]⟩) ++ fmtL (z : Int)) ++ ⟨#[62]⟩) ++ itB q = BS ++ rowB r (z + 1)) := by
                  unfold Hid
                  rw [rowB_yes (by omega), HT.out, hq]
                  unfold trB
                  simp only [ByteArray.append_assoc]
                have HQI : Hid (-9223372036854775808 ≤ q ∧ q ≤ 9223372036854775807) := hqi
                obtain ⟨I2, hI2e⟩ : ∃ I2, I2 = itB q := ⟨_, rfl⟩
                obtain ⟨L2, hL2e⟩ : ∃ L2, L2 = fmtL (z : Int) := ⟨_, rfl⟩
                rw [← hI2e] at hI2 HN1
                rw [← hL2e] at hL2 HN1
                have HI2 := Lib.hid hI2e
                have HL2 := Lib.hid hL2e
                have n1 : ¬ 9223372036854775807 < t.size + 1 := by omega
                have n2 : ¬ 9223372036854775807 < t.size + 1 + L2.size := by omega
                have n3 : ¬ 9223372036854775807 < t.size + 1 + L2.size + 1 := by omega
                have n4 : ¬ 9223372036854775807 < t.size + 1 + L2.size + 1 + I2.size := by omega
                have HKC : Hid (∀ w', Since wr w' → w'.cell? ⟨w.heap.size, 0, none⟩ = some (.int .i64 A.st) ∧ w'.cell? ⟨w.heap.size, 1, none⟩ = some (.slice (some ⟨b1, off1, none⟩) m ca) ∧ w'.cell? ⟨w.heap.size, 2, none⟩ = some (.slice (some ⟨c1, o1, none⟩) m cb) ∧ w'.cell? ⟨c1, o1 + k, none⟩ = some (.slice (some ⟨c2, o2, none⟩) 9 cc) ∧ w'.cell? ⟨c2, o2 + z, none⟩ = some (.int .i64 q)) := by
                  intro w' hs
                  obtain ⟨⟨r0, r1, r2⟩, _⟩ := ((B3.out.since HSz.out).since hs).threeA
                  exact ⟨r0, r1, r2, (Below.cell hs (p := ⟨c1, o1 + k, none⟩) (Nat.lt_of_lt_of_le hc1 HW3.out.size)).trans f1, (Below.cell hs (p := ⟨c2, o2 + z, none⟩) (Nat.lt_of_lt_of_le hc2 HW3.out.size)).trans f2⟩
                clear hq hneg hI2e hL2e hqi
                go_wp2
                clear p0 p1 p2 f1 f2
                refine wp_region_held_drew (S := (fun w' => w'.cell? ⟨w.heap.size, 0, none⟩ = some (.int .i64 A.st) ∧ w'.cell? ⟨w.heap.size, 1, none⟩ = some (.slice (some ⟨b1, off1, none⟩) m ca) ∧ w'.cell? ⟨w.heap.size, 2, none⟩ = some (.slice (some ⟨c1, o1, none⟩) m cb) ∧ w'.cell? ⟨c1, o1 + k, none⟩ = some (.slice (some ⟨c2, o2, none⟩) 9 cc) ∧ w'.cell? ⟨c2, o2 + z, none⟩ = some (.int .i64 q))) (by kernel_rfl) (HKC.out _ (Since.refl _).drew) (fun hHeld => ?_)
                refine take_yes 0 (some 45) (v := ?_) rfl (by kernel_rfl) (by kernel_rfl) (by kernel_rfl) (by kernel_rfl) (fun _ _ _ h => h) (by rfl) (by assumption) ?_ ?_
                rotate_left
                · (intro w' hSw; (try dsimp only at hSw); go_simp; try with_reducible rfl)
                try simp only [Act.put, List.setIfInBounds_toArray, List.set_cons_zero, List.set_cons_succ]
                refine take_yes 1 (some 46) (v := ?_) rfl (by kernel_rfl) (by kernel_rfl) (by kernel_rfl) (by kernel_rfl) (fun _ _ _ h => h) (by rfl) (by assumption) ?_ ?_
                rotate_left
                · (intro w' hSw; (try dsimp only at hSw); go_simp; try with_reducible rfl)
                try simp only [Act.put, List.setIfInBounds_toArray, List.set_cons_zero, List.set_cons_succ]
                refine take_yes 2 (some 47) (v := ?_) rfl (by kernel_rfl) (by kernel_rfl) (by kernel_rfl) (by kernel_rfl) (fun _ _ _ h => h) (by rfl) (by assumption) ?_ ?_
                rotate_left
                · (intro w' hSw; (try dsimp only at hSw); go_simp; try with_reducible rfl)
                try simp only [Act.put, List.setIfInBounds_toArray, List.set_cons_zero, List.set_cons_succ]
                refine take_yes 6 (some 51) (v := ?_) rfl (by kernel_rfl) (by kernel_rfl) (by kernel_rfl) (by kernel_rfl) (fun _ _ _ h => h) (by rfl) (by assumption) ?_ ?_
                rotate_left
                · (intro w' hSw; (try dsimp only at hSw); go_simp; try with_reducible rfl)
                try simp only [Act.put, List.setIfInBounds_toArray, List.set_cons_zero, List.set_cons_succ]
                refine take_yes 7 (some 52) (v := ?_) rfl (by kernel_rfl) (by kernel_rfl) (by kernel_rfl) (by kernel_rfl) (fun _ _ _ h => h) (by rfl) (by assumption) ?_ ?_
                rotate_left
                · (intro w' hSw; (try dsimp only at hSw); go_simp; try with_reducible rfl)
                try simp only [Act.put, List.setIfInBounds_toArray, List.set_cons_zero, List.set_cons_succ]
                refine take_yes 8 (some 53) (v := ?_) rfl (by kernel_rfl) (by kernel_rfl) (by kernel_rfl) (by kernel_rfl) (fun _ _ _ h => h) (by rfl) (by assumption) ?_ ?_
                rotate_left
                · (intro w' hSw; (try dsimp only at hSw); go_simp; try with_reducible rfl)
                try simp only [Act.put, List.setIfInBounds_toArray, List.set_cons_zero, List.set_cons_succ]
                refine take_yes 9 (some 54) (v := ?_) rfl (by kernel_rfl) (by kernel_rfl) (by kernel_rfl) (by kernel_rfl) (fun _ _ _ h => h) (by rfl) (by assumption) ?_ ?_
                rotate_left
                · (intro w' hSw; (try dsimp only at hSw); go_simp; try with_reducible rfl)
                try simp only [Act.put, List.setIfInBounds_toArray, List.set_cons_zero, List.set_cons_succ]
                refine take_yes 10 (some 55) (v := ?_) rfl (by kernel_rfl) (by kernel_rfl) (by kernel_rfl) (by kernel_rfl) (fun _ _ _ h => h) (by rfl) (by assumption) ?_ ?_
                rotate_left
                · (intro w' hSw; (try dsimp only at hSw); go_simp; try with_reducible rfl)
                try simp only [Act.put, List.setIfInBounds_toArray, List.set_cons_zero, List.set_cons_succ]
                refine take_yes 11 (some 56) (v := ?_) rfl (by kernel_rfl) (by kernel_rfl) (by kernel_rfl) (by kernel_rfl) (fun _ _ _ h => h) (by rfl) (by assumption) ?_ ?_
                rotate_left
                · (intro w' hSw; (try dsimp only at hSw); go_simp; try with_reducible rfl)
                try simp only [Act.put, List.setIfInBounds_toArray, List.set_cons_zero, List.set_cons_succ]
                refine take_yes 12 (some 57) (v := ?_) rfl (by kernel_rfl) (by kernel_rfl) (by kernel_rfl) (by kernel_rfl) (fun _ _ _ h => h) (by rfl) (by assumption) ?_ ?_
                rotate_left
                · (intro w' hSw; (try dsimp only at hSw); go_simp; try with_reducible rfl)
                try simp only [Act.put, List.setIfInBounds_toArray, List.set_cons_zero, List.set_cons_succ]
                refine take_yes 13 (some 58) (v := ?_) rfl (by kernel_rfl) (by kernel_rfl) (by kernel_rfl) (by kernel_rfl) (fun _ _ _ h => h) (by rfl) (by assumption) ?_ ?_
                rotate_left
                · (intro w' hSw; (try dsimp only at hSw); go_simp; try with_reducible rfl)
                try simp only [Act.put, List.setIfInBounds_toArray, List.set_cons_zero, List.set_cons_succ]
                refine take_run 3 rfl (by kernel_rfl) (by rfl) (fun K hK => ?_)
                go_simp
                refine (specFL_any (z : Int) _).mono ?_
                rintro e w5 ⟨rfl, hs5⟩
                have hc5 := Since.of_drew hs5
                refine hK.out _ _ (HKC.out _ hc5) (fun hHeld2 => ?_)
                clear hK K hHeld
                rw [← HL2.out]
                try simp only [Act.put, List.setIfInBounds_toArray, List.set_cons_zero, List.set_cons_succ]
                refine take_yes 4 (some 49) (v := ?_) rfl (by kernel_rfl) (by kernel_rfl) (by kernel_rfl) (by kernel_rfl) (fun _ _ _ h => h) (by rfl) (by assumption) ?_ ?_
                rotate_left
                · (intro w' hSw; (try dsimp only at hSw); go_simp; try with_reducible rfl)
                try simp only [Act.put, List.setIfInBounds_toArray, List.set_cons_zero, List.set_cons_succ]
                refine take_yes 5 (some 50) (v := ?_) rfl (by kernel_rfl) (by kernel_rfl) (by kernel_rfl) (by kernel_rfl) (fun _ _ _ h => h) (by rfl) (by assumption) ?_ ?_
                rotate_left
                · (intro w' hSw; (try dsimp only at hSw); go_simp; try with_reducible rfl)
                try simp only [Act.put, List.setIfInBounds_toArray, List.set_cons_zero, List.set_cons_succ]
                refine take_run 14 rfl (by kernel_rfl) (by rfl) (fun K hK => ?_)
                go_simp
                refine (HFI.out q _ HQI.out.1 HQI.out.2).mono ?_
                rintro e w6 ⟨rfl, hs6⟩
                have hc6 := hc5.trans hs6
                refine hK.out _ _ (HKC.out _ hc6) (fun hHeld3 => ?_)
                clear hK K hHeld2
                rw [← HI2.out]
                try simp only [Act.put, List.setIfInBounds_toArray, List.set_cons_zero, List.set_cons_succ]
                refine take_yes 15 (some 60) (v := ?_) rfl (by kernel_rfl) (by kernel_rfl) (by kernel_rfl) (by kernel_rfl) (fun _ _ _ h => h) (by rfl) (by assumption) ?_ ?_
                rotate_left
                · (intro w' hSw; (try dsimp only at hSw); go_simp; try with_reducible rfl)
                try simp only [Act.put, List.setIfInBounds_toArray, List.set_cons_zero, List.set_cons_succ]
                refine take_yes 16 (some 3) (v := ?_) rfl (by kernel_rfl) (by kernel_rfl) (by kernel_rfl) (by kernel_rfl) (fun _ _ _ h => h) (by rfl) (by assumption) ?_ ?_
                rotate_left
                · (intro w' hSw; (try dsimp only at hSw); go_simp; try with_reducible rfl)
                try simp only [Act.put, List.setIfInBounds_toArray, List.set_cons_zero, List.set_cons_succ]
                refine wpAnyH_done (by kernel_rfl) ?_ _
                clear hHeld3
                have HS6 := Lib.hid (HSz.out.trans hc6)
                go_wp2
                go_roundw
                case rel => exact ⟨z + 1, _, by omega, by go_num, rfl, HN1.out, HS6.out⟩
                case measure => simp [intOf]; omega
            · have hz9 : z = 9 := by omega
              subst hz9
              have HT2 : Hid (t = autB A (k + 1)) := by rw [HT.out]; exact HEND.out
              have HS8 := Lib.hid (HS23.out.trans HSz.out)
              go_wp2
              go_roundw
              case rel => exact ⟨k + 1, t, by omega, by go_num, rfl, HT2.out, HS8.out⟩
              case measure => simp [intOf]; omega
      · obtain rfl : k = m := by omega
        have HE : Hid (fmtAu A = s) := by rw [HF.out, ← HN.out]; exact HSs.out.symm
        go_wp2
        go_ret
        exact ⟨ret_str HE.out.symm, HW.out⟩
end Go.Proofs.YtblmiocjhbpklaaDoor
