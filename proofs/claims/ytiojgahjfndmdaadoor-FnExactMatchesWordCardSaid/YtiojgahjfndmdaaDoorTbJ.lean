/- The model's tables: two joined, one repeated. -/
import Derived.Test.YtiojgahjfndmdaaDoorTbG
namespace Go.Proofs.YtiojgahjfndmdaaDoor
set_option maxRecDepth 100000
open Go.ChangeShapes Go.WideShapes Go.ChangeAt Go.RowKit
set_option linter.unusedVariables false
set_option linter.unusedSimpArgs false

set_option maxHeartbeats 4000000 in
set_option maxRecDepth 100000 in
theorem l9Joined_any (N : Nat) (a b : Tb) (va vb : Value) (w : World) (h1 : 1 ≤ N) (h9 : N ≤ 9) (ha : OwnTab 0 w va N N a) (hb : OwnTab 0 w vb N N b) :
    Calls Tryd.prog 104 #[va, vb] w (TabOut w N (joinG a b)) := by
  have HA := Lib.hid ha
  have HB := Lib.hid hb
  obtain ⟨ga, ca, _, rfl, _⟩ := ha.at 0 h1
  obtain ⟨gb, cb, _, rfl, _⟩ := hb.at 0 h1
  clear ha hb
  go_enter Tryd.func104, Tryd.ntmps104
  go_wp2_with fail
  refine (l9Grid_any N false _ h1 h9).mono ?_
  rintro e w1 ⟨v1, rfl, ho1, hs1⟩
  obtain ⟨go, co, _, rfl, _⟩ := ho1.at 0 h1
  have HO1 := Lib.hid (ho1.congr (g := joiF a b 0 0 0) (fun i j _ _ => (joiF_zero a b i j).symm))
  clear ho1
  go_wp2
  go_loopw [6] (fun i wr => ∃ k : Nat, k ≤ N ∧ i = .int .i64 k ∧ Hid (OwnTab w.heap.size wr (.slice (some ⟨go, 0, none⟩) N co) N N (joiF a b k k k)) ∧ Hid (Since w wr)) (fun i _ => N - (intOf i).toNat)
  case atStart => exact ⟨0, Nat.zero_le _, rfl, HO1.out, hs1⟩
  case round =>
    obtain ⟨k, hk, rfl, HT, HW⟩ := hrel
    have hw0 := HW.out
    clear HW
    by_cases hlt : k < N
    · have hki : (k : Int) < (N : Int) := by omega
      have hk0 : (0 : Int) ≤ (k : Int) := by omega
      go_wp2
      go_loopw [7] (fun j wr => ∃ m : Nat, k ≤ m ∧ m ≤ N ∧ j = .int .i64 m ∧ Hid (OwnTab w.heap.size wr (.slice (some ⟨go, 0, none⟩) N co) N N (joiF a b k m m)) ∧ Hid (Since w wr)) (fun j _ => N - (intOf j).toNat)
      case atStart => exact ⟨k, Nat.le_refl _, by omega, rfl, HT.out, hw0⟩
      case round =>
        obtain ⟨m, hkm, hm, rfl, HT, HW⟩ := hrel
        have hw0 := HW.out
        clear HW
        by_cases hlm : m < N
        · have hmi : (m : Int) < (N : Int) := by omega
          have hm0 : (0 : Int) ≤ (m : Int) := by omega
          go_wp2
          go_loopw [8] (fun j wr => ∃ q : Nat, m ≤ q ∧ q ≤ N ∧ (a k m = true ∨ q = m) ∧ j = .int .i64 q ∧ Hid (OwnTab w.heap.size wr (.slice (some ⟨go, 0, none⟩) N co) N N (joiF a b k m q)) ∧ Hid (Since w wr)) (fun j _ => N - (intOf j).toNat)
          case atStart => exact ⟨m, Nat.le_refl _, by omega, .inr rfl, rfl, HT.out, hw0⟩
          case round =>
            obtain ⟨q, hmq, hq, hor, rfl, HT, HW⟩ := hrel
            have hw0 := HW.out
            clear HW
            by_cases hlq : q < N
            · have hqi : (q : Int) < (N : Int) := by omega
              have hq0 : (0 : Int) ≤ (q : Int) := by omega
              obtain ⟨g2, p2, ba, e2, a0, a1, _, abl, _, _⟩ := (HA.out.since hw0).at k hlt
              injection e2 with e2 _ _
              injection e2 with e2; injection e2 with e2
              subst e2
              obtain ⟨ac, _⟩ := a1 m hlm
              have HOR := Lib.hid hor
              obtain ⟨x, hx⟩ : ∃ x, x = a k m := ⟨_, rfl⟩
              rw [← hx] at ac
              have HX := Lib.hid hx
              clear a1 hx hor abl
              cases x with
              | true =>
                obtain ⟨g1, p1, bo, e1, o0, o1, obase, _, oset, _⟩ := HT.out.at k hlt
                injection e1 with e1 _ _
                injection e1 with e1; injection e1 with e1
                subst e1
                obtain ⟨g3, p3, bb, e3, b0, b1, _, bbl, _, _⟩ := (HB.out.since hw0).at m hlm
                injection e3 with e3 _ _
                injection e3 with e3; injection e3 with e3
                subst e3
                obtain ⟨oc, of⟩ := o1 q hlq
                obtain ⟨bc, _⟩ := b1 q hlq
                have HST := Lib.hid (oset q (joiF a b k m q k q || b m q) hlq)
                have HSTEP := Lib.hid (joiF_step a b hmq HX.out.symm)
                obtain ⟨y, hy⟩ : ∃ y, y = joiF a b k m q k q := ⟨_, rfl⟩
                obtain ⟨z, hz⟩ : ∃ z, z = b m q := ⟨_, rfl⟩
                rw [← hy] at oc HST HSTEP
                rw [← hz] at bc HST HSTEP
                have HSN : Hid (Since w (wr.setCell ⟨bo, q, none⟩ (.bool (y || z)))) := hw0.setCell obase _
                clear o1 b1 oset hy hz bbl
                cases y with
                | true =>
                  go_upto_region 11 with fail
                  go_region
                  go_wp2
                  go_roundw
                  case rel => exact ⟨q + 1, by omega, by omega, .inl HX.out.symm, by go_num, ((HST.out.congr (fun i j _ _ => HSTEP.out i j)).since (Since.refl _).drew), HSN.out.drew⟩
                  case measure => simp [intOf]; omega
                | false =>
                  go_upto_region 11 with fail
                  go_region
                  go_wp2
                  go_roundw
                  case rel => exact ⟨q + 1, by omega, by omega, .inl HX.out.symm, by go_num, ((HST.out.congr (fun i j _ _ => HSTEP.out i j)).since (Since.refl _).drew), HSN.out.drew⟩
                  case measure => simp [intOf]; omega
              | false =>
                have hqm : q = m := by
                  rcases HOR.out with h | h
                  · rw [← HX.out] at h; cases h
                  · exact h
                have HT2 : Hid (OwnTab w.heap.size wr (.slice (some ⟨go, 0, none⟩) N co) N N (joiF a b k (m + 1) (m + 1))) := HT.out.congr (fun i j _ _ => by rw [hqm]; exact joiF_skip hkm HX.out.symm i j)
                clear hqm
                go_wp2
                go_roundw
                case rel => exact ⟨m + 1, by omega, by omega, by go_num, HT2.out, hw0⟩
                case measure => simp [intOf]; omega
            · obtain rfl : q = N := by omega
              have HT2 := Lib.hid (HT.out.congr (g := joiF a b k (m + 1) (m + 1)) (fun i j _ hj => joiF_mid hkm i j hj))
              clear hor
              go_wp2
              go_roundw
              case rel => exact ⟨m + 1, by omega, by omega, by go_num, HT2.out, hw0⟩
              case measure => simp [intOf]; omega
        · obtain rfl : m = N := by omega
          have HT2 := Lib.hid (HT.out.congr (g := joiF a b (k + 1) (k + 1) (k + 1)) (fun i j hi hj => joiF_row i j hi hj))
          go_wp2
          go_roundw
          case rel => exact ⟨k + 1, by omega, by go_num, HT2.out, hw0⟩
          case measure => simp [intOf]; omega
    · obtain rfl : k = N := by omega
      have HT2 := Lib.hid (HT.out.congr (g := joinG a b) (fun i j hi hj => joiF_all i j hi hj k k))
      go_wp2
      go_ret
      exact ⟨_, rfl, HT2.out, hw0⟩
set_option maxHeartbeats 4000000 in
set_option maxRecDepth 100000 in
theorem l9Repeated_any (N : Nat) (a : Tb) (va : Value) (lo hi : Nat) (w : World) (h1 : 1 ≤ N) (h9 : N ≤ 9) (hlo : lo ≤ 9) (hhi : hi ≤ 9) (ha : OwnTab 0 w va N N a) :
    Calls Tryd.prog 106 #[va, .int .i64 (lo : Int), .int .i64 (hi : Int)] w (TabOut w N (repG a lo hi)) := by
  have HA := Lib.hid ha
  obtain ⟨ga, ca, _, rfl, _⟩ := ha.at 0 h1
  clear ha
  go_enter Tryd.func106, Tryd.ntmps106
  go_wp2_with fail
  refine (l9Grid_any N false _ h1 h9).mono ?_
  rintro e w1 ⟨v1, rfl, ho1, hs1⟩
  obtain ⟨go, co, _, rfl, _⟩ := ho1.at 0 h1
  have HO1 := Lib.hid ho1
  clear ho1
  go_wp2_with fail
  refine (l9Grid_any N true _ h1 h9).mono ?_
  rintro e w2 ⟨v2, rfl, ho2, hs2⟩
  obtain ⟨gp, cp, _, rfl, _⟩ := ho2.at 0 h1
  have HP2 : Hid (OwnTab w.heap.size w2 (.slice (some ⟨gp, 0, none⟩) N cp) N N (powG a 0)) := (ho2.mono hs1.size).congr (fun i j _ _ => by unfold gridF powG sameG; simp)
  have HO2 : Hid (OwnTab w.heap.size w2 (.slice (some ⟨go, 0, none⟩) N co) N N (repK a lo 0)) := (HO1.out.since hs2).congr (fun i j _ _ => by unfold gridF repK; simp)
  have h02 := hs1.trans hs2
  clear ho2 HO1
  go_wp2
  go_loopw [7, 8, 9] (fun ov pv i wr => ∃ (k go co gp cp : Nat), k ≤ hi + 1 ∧ i = .int .i64 k ∧ ov = .slice (some ⟨go, 0, none⟩) N co ∧ pv = .slice (some ⟨gp, 0, none⟩) N cp ∧ Hid (OwnTab w.heap.size wr (.slice (some ⟨go, 0, none⟩) N co) N N (repK a lo k)) ∧ Hid (OwnTab w.heap.size wr (.slice (some ⟨gp, 0, none⟩) N cp) N N (powG a k)) ∧ Hid (Since w wr)) (fun _ _ i _ => hi + 1 - (intOf i).toNat)
  case atStart => exact ⟨0, go, co, gp, cp, Nat.zero_le _, rfl, rfl, rfl, HO2.out, HP2.out, h02⟩
  case round =>
    clear HO2 HP2 h02 hs1 hs2
    obtain ⟨k, go, co, gp, cp, hk, rfl, rfl, rfl, HO, HP, HW⟩ := hrel
    have hw0 := HW.out
    clear HW
    by_cases hlt : k < hi + 1
    · have hki : (k : Int) ≤ (hi : Int) := by omega
      have hk0 : (0 : Int) ≤ (k : Int) := by omega
      have HSC := Lib.hid (repK_succ a lo k)
      by_cases hlk : lo ≤ k
      · have hlki : (lo : Int) ≤ (k : Int) := by omega
        have HLK := Lib.hid hlk
        clear hlk
        go_wp2_with fail
        refine (l9Either_any N _ _ _ _ _ h1 h9 (HO.out.mono (Nat.zero_le _)) (HP.out.mono (Nat.zero_le _)) (low_rep lo k) (low_pow k)).mono ?_
        rintro e w3 ⟨v3, rfl, ho3, hs3⟩
        obtain ⟨g3, c3, _, rfl, _⟩ := ho3.at 0 h1
        have HO3 : Hid (OwnTab w.heap.size w3 (.slice (some ⟨g3, 0, none⟩) N c3) N N (repK a lo (k + 1))) := (ho3.mono hw0.size).congr (fun i j _ _ => by rw [HSC.out, if_pos HLK.out])
        have HP3 := Lib.hid (HP.out.since hs3)
        have h03 := hw0.trans hs3
        clear ho3 hs3
        go_wp2_with fail
        refine (l9Joined_any N _ _ _ _ _ h1 h9 (HP3.out.mono (Nat.zero_le _)) (HA.out.since h03)).mono ?_
        rintro e w4 ⟨v4, rfl, ho4, hs4⟩
        obtain ⟨g4, c4, _, rfl, _⟩ := ho4.at 0 h1
        have HP4 : Hid (OwnTab w.heap.size w4 (.slice (some ⟨g4, 0, none⟩) N c4) N N (powG a (k + 1))) := ho4.mono h03.size
        have HO4 := Lib.hid (HO3.out.since hs4)
        have h04 := h03.trans hs4
        clear ho4 hs4
        go_wp2
        go_roundw
        case rel => exact ⟨k + 1, _, _, _, _, by omega, by go_num, rfl, rfl, HO4.out, HP4.out, h04⟩
        case measure => simp [intOf]; omega
      · have hlki : ¬ ((lo : Int) ≤ (k : Int)) := by omega
        have HO3 : Hid (OwnTab w.heap.size wr (.slice (some ⟨go, 0, none⟩) N co) N N (repK a lo (k + 1))) := HO.out.congr (fun i j _ _ => by rw [HSC.out, if_neg hlk])
        clear hlk
        go_wp2_with fail
        refine (l9Joined_any N _ _ _ _ _ h1 h9 (HP.out.mono (Nat.zero_le _)) (HA.out.since hw0)).mono ?_
        rintro e w4 ⟨v4, rfl, ho4, hs4⟩
        obtain ⟨g4, c4, _, rfl, _⟩ := ho4.at 0 h1
        have HP4 : Hid (OwnTab w.heap.size w4 (.slice (some ⟨g4, 0, none⟩) N c4) N N (powG a (k + 1))) := ho4.mono hw0.size
        have HO4 := Lib.hid (HO3.out.since hs4)
        have h04 := hw0.trans hs4
        clear ho4 hs4
        go_wp2
        go_roundw
        case rel => exact ⟨k + 1, _, _, _, _, by omega, by go_num, rfl, rfl, HO4.out, HP4.out, h04⟩
        case measure => simp [intOf]; omega
    · obtain rfl : k = hi + 1 := by omega
      have HR : Hid (OwnTab w.heap.size wr (.slice (some ⟨go, 0, none⟩) N co) N N (repG a lo hi)) := HO.out
      clear HO
      go_wp2
      go_ret
      exact ⟨_, rfl, HR.out, hw0⟩
end Go.Proofs.YtiojgahjfndmdaaDoor
