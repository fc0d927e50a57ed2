/- CountRuns, the model's. -/
import Derived.Test.YtgnjgfifgfbmcaaCnM
namespace Go.Proofs.Ytgnjgfifgfbmcaa
set_option maxRecDepth 100000
open Go.ChangeShapes Go.WideShapes Go.ChangeAt Go.RowKit
set_option linter.unusedVariables false
set_option linter.unusedSimpArgs false

set_option maxHeartbeats 1000000 in
set_option maxRecDepth 100000 in
theorem specCR_any (v u : Value) (p : Psn) (z : List Int) (w : World) (h : PsAt w v p) (hz : IntsAt w u z) (hl : p.ls.length ≤ maxLen) (hl2 : p.fo.length ≤ maxLen) (hzl : z.length ≤ 1048577) :
    Calls Try.prog 33 #[v, u] w fun e w' => e = .returned (.int .i64 (crN p z : Int)) ∧ Since w w' := by
  have HP := Lib.hid h
  have HZ := Lib.hid hz
  obtain ⟨a, b, rfl, ha, hb, hi1, hi2⟩ := h
  obtain ⟨ao, ac, rfl, _⟩ := ha.row
  obtain ⟨bo, bc, rfl, _⟩ := hb.row
  obtain ⟨zo, zc, rfl, HZC⟩ := hz.row
  clear ha hb hz
  obtain ⟨n, hn⟩ : ∃ n, n = p.ls.length := ⟨_, rfl⟩
  obtain ⟨m, hm⟩ : ∃ m, m = p.fo.length := ⟨_, rfl⟩
  obtain ⟨zn, hzn⟩ : ∃ zn, zn = z.length := ⟨_, rfl⟩
  rw [← hn, ← hm] at HP ⊢
  rw [← hzn] at HZ ⊢
  have HN := Lib.hid hn
  have HM := Lib.hid hm
  have HZN := Lib.hid hzn
  obtain ⟨y, hy⟩ : ∃ y, y = w.alloc (.cells #[.slice ao n ac, .int .i64 p.fi, .int .i64 p.la, .slice bo m bc, .bool p.nu] 26) := ⟨_, rfl⟩
  have hs0 : Since w y := by rw [hy]; exact (Since.refl w).alloc _
  have B0 : Hid (Blk y w.heap.size 26 #[.slice ao n ac, .int .i64 p.fi, .int .i64 p.la, .slice bo m bc, .bool p.nu]) := by rw [hy]; exact Blk.new rfl _ _
  have HY := Lib.hid hy
  have HYS : Hid (y.heap.size = w.heap.size + 1) := by unfold Hid; rw [hy]; simp
  obtain ⟨⟨p0, p1, p2, p3, p4⟩, _⟩ := B0.out.fiveP
  rw [hy] at p0 p1 p2 p3 p4
  clear hn hm hzn hy
  have HPV : Hid (∀ W, Since w W → Calls Try.prog 17 #[.agg #[.slice ao n ac, .int .i64 p.fi, .int .i64 p.la, .slice bo m bc, .bool p.nu]] W fun e w' => e = .returned (.bool (posB p)) ∧ Since W w') := fun W hW => specPV_any _ p W (HP.out.since hW) hl hl2
  have HIW : Hid (∀ W, Since w W → Calls Try.prog 18 #[.slice zo zn zc] W fun e w' => e = .returned (.bool (isWordB z)) ∧ W = w') := fun W hW => specIW_any _ z W (HZ.out.since hW) hzl
  clear hl hl2
  cases hv : posB p with
  | false =>
    rw [hv] at HPV
    have HR : Hid (crN p z = 0) := by unfold Hid crN; rw [hv]; rfl
    clear hv
    go_enter Try.func33, Try.ntmps33
    go_wp2_with fail
    rw [← HY.out]
    refine (HPV.out _ hs0).mono ?_
    rintro e w1 ⟨rfl, hs1⟩
    have s1 := hs0.trans hs1
    go_wp2
    go_ret
    exact ⟨ret_int (by rw [HR.out]; rfl), s1⟩
  | true =>
    rw [hv] at HPV
    cases hw : isWordB z with
    | false =>
      rw [hw] at HIW
      have HR : Hid (crN p z = 0) := by unfold Hid crN; rw [hv, hw]; rfl
      clear hv hw
      go_enter Try.func33, Try.ntmps33
      go_wp2_with fail
      rw [← HY.out]
      refine (HPV.out _ hs0).mono ?_
      rintro e w1 ⟨rfl, hs1⟩
      have s1 := hs0.trans hs1
      obtain ⟨⟨q0, q1, q2, q3, q4⟩, _⟩ := (B0.out.since hs1).fiveP
      go_wp2_with fail
      refine (HIW.out _ s1).mono ?_
      rintro e wx ⟨rfl, rfl⟩
      go_wp2
      go_ret
      exact ⟨ret_int (by rw [HR.out]; rfl), s1⟩
    | true =>
      rw [hw] at HIW
      have hz8 : zn ≤ 8 := by rw [HZN.out]; exact word_le hw
      have hn9 : n ≤ 20 := by rw [HN.out]; exact (posB_parts hv).1
      have HR : Hid (crN p z = sumK p (cW p z) (n + 1)) := by unfold Hid crN; rw [hv, hw, HN.out]; rfl
      have HPT : Hid (∀ s, s ≤ 21 → 2 ^ s < 4194305) := fun s hs => pow_two_lt hv hs
      have HCL : Hid (∀ k j, cW p (z.take k) j ≤ 1000000) := fun k j => cW_le p _ j
      have HAF : Hid (∀ (S : Nat) (l : Int) W, Since w W → S < 4194305 → Calls Try.prog 59 #[.agg #[.slice ao n ac, .int .i64 p.fi, .int .i64 p.la, .slice bo m bc, .bool p.nu], .int .i64 (S : Int), .int .i64 l] W fun e w' => e = .returned (.int .i64 (aft p S l : Int)) ∧ Since W w') := fun S l W hW hS => specAF_any _ p S l W (HP.out.since hW) hv (by omega)
      have HAC : Hid (∀ (S : Nat) W, Since w W → S < 4194305 → Calls Try.prog 62 #[.agg #[.slice ao n ac, .int .i64 p.fi, .int .i64 p.la, .slice bo m bc, .bool p.nu], .int .i64 (S : Int)] W fun e w' => e = .returned (.bool (accN p S)) ∧ Since W w') := fun S W hW hS => specAC_any _ p S W (HP.out.since hW) hv (by omega)
      have HAL : Hid (∀ S l, aft p S l < 2097152) := (posB_plain hv).2.2.2.2.2.2
      obtain ⟨N, hN⟩ : ∃ N, N = n + 1 := ⟨_, rfl⟩
      have hN9 : N ≤ 21 := by omega
      have hN1 : 1 ≤ N := by omega
      have HNN := Lib.hid hN
      have ewN : ((n : Int) + 1) = (N : Int) := by omega
      rw [← hN] at HR
      obtain ⟨i0, hi, hz0, hz1, hz2⟩ := info_parts info_int
      have HZ2 := Lib.hid hz2
      clear hv hw hN hz2
      go_enter Try.func33, Try.ntmps33
      go_wp2_with fail
      rw [← HY.out]
      refine (HPV.out _ hs0).mono ?_
      rintro e w1 ⟨rfl, hs1⟩
      have s1 := hs0.trans hs1
      obtain ⟨⟨q0, q1, q2, q3, q4⟩, _⟩ := (B0.out.since hs1).fiveP
      go_wp2_with fail
      refine (HIW.out _ s1).mono ?_
      rintro e wx ⟨rfl, rfl⟩
      go_upto_region 4 with (at_make; go_must (refine wpList_make_full _ rfl _ _ 24 rfl w1.heap.size 3 i0 (.int .i64 0) 1 Try.underlying24 hi hz0 hz1 .i64 .i64 _ _ N rfl rfl rfl rfl (by rw [HZ2.out]; omega) (by unfold maxLen; omega) (Nat.le_refl _) ?_); intro w2 hown hgrow)
      have hs2 : Since w1 w2 := (Since.refl w1).grown hgrow (fun _ h => by simp at h)
      have hg2 := hown.lt w1.heap.size (by rfl)
      have hy1 := hs1.size
      have HO2 := Lib.hid ((own_made hown).mono hy1)
      have c0 := own_cntR HO2.out 0 hN1
      have f0 := own_frozR HO2.out 0
      have HO3 : Hid (Own y.heap.size (w2.setCell ⟨w1.heap.size, 0, none⟩ (.int .i64 1)) (.slice (some ⟨w1.heap.size, 0, none⟩) N N) (cntR c0C N)) := by
        have := own_set HO2.out (cntR_len _ _) 0 1 (by unfold InI; omega)
        rw [c0C_row] at this
        exact this
      have HS3 : Hid (Since y (w2.setCell ⟨w1.heap.size, 0, none⟩ (.int .i64 1))) := (hs1.trans hs2).setCell hy1 _
      have hn0 : (0 : Int) < (N : Int) := by omega
      have hg3 : w1.heap.size < (w2.setCell ⟨w1.heap.size, 0, none⟩ (.int .i64 1)).heap.size := by simp; exact hg2.2
      clear hown hgrow HO2 q0 q1 q2 q3 q4 p0 p1 p2 p3 p4
      go_wp2_with fail
      go_loopw [5, 6] (fun nv i wr => ∃ k g : Nat, k ≤ zn ∧ i = .int .i64 k ∧ nv = .slice (some ⟨g, 0, none⟩) N N ∧ (y.heap.size ≤ g ∧ g < wr.heap.size) ∧ Hid (Own y.heap.size wr (.slice (some ⟨g, 0, none⟩) N N) (cntR (cW p (z.take k)) N)) ∧ Hid (Since y wr)) (fun _ i _ => zn - (intOf i).toNat)
      case atStart => exact ⟨0, _, Nat.zero_le _, rfl, rfl, ⟨hy1, hg3⟩, HO3, HS3⟩
      case round =>
        obtain ⟨k, g, hk, rfl, rfl, ⟨hyg, hgw⟩, HO, HS⟩ := hrel
        obtain ⟨wA, hwA⟩ : ∃ W, W = wr := ⟨_, rfl⟩
        subst hwA
        clear c0 f0 HO3 HS3
        have s2 := hs0.trans HS.out
        obtain ⟨⟨q0, q1, q2, q3, q4⟩, _⟩ := (B0.out.since HS.out).fiveP
        obtain ⟨c, hc⟩ : ∃ c, c = cW p (z.take k) := ⟨_, rfl⟩
        have hcl : ∀ j, c j ≤ 1000000 := fun j => by rw [hc]; exact HCL.out k j
        have HCc := Lib.hid hcl
        rw [← hc] at HO
        by_cases hlt : k < zn
        · have hx : k < z.length := by have := HZN.out; omega
          have HNX : Hid (cW p (z.take (k + 1)) = stpC p c z[k]) := by unfold Hid; rw [hc]; exact cW_snoc p z k hx
          obtain ⟨bv, ov, rfl, hbv, cv⟩ := HZC.out k hx
          obtain ⟨x, hxv⟩ : ∃ x, x = z[k] := ⟨_, rfl⟩
          rw [← hxv] at cv HNX
          have hk1 : (0 : Int) ≤ (k : Int) := by omega
          have hk2 : (k : Int) < (zn : Int) := by omega
          have HC1 := Lib.hid hc
          clear hc hxv hcl
          go_upto_region 9 with (at_make; go_must (refine wpList_make_full _ rfl _ _ 24 rfl wA.heap.size 3 i0 (.int .i64 0) 1 Try.underlying24 hi hz0 hz1 .i64 .i64 _ _ N rfl rfl rfl rfl (by rw [HZ2.out]; omega) (by unfold maxLen; omega) (Nat.le_refl _) ?_); intro w3 hown hgrow)
          have hs3 : Since wA w3 := (Since.refl wA).grown hgrow (fun _ h => by simp at h)
          have hg3 := hown.lt wA.heap.size (by rfl)
          have HX := Lib.hid (own_made hown)
          clear hown hgrow q0 q1 q2 q3 q4
          go_wp2_with fail
          go_loopw [8] (fun i wq => ∃ s : Nat, s ≤ N ∧ i = .int .i64 s ∧ wA.heap.size < wq.heap.size ∧ Hid (Own wA.heap.size wq (.slice (some ⟨wA.heap.size, 0, none⟩) N N) (cntR (fun j => cntK p c x j s) N)) ∧ Hid (Since wA wq)) (fun i _ => N - (intOf i).toNat)
          case atStart => exact ⟨0, Nat.zero_le _, rfl, hg3.2, HX, hs3⟩
          case round =>
            obtain ⟨s, hs, rfl, hgq, HXQ, HSQ⟩ := hrel
            obtain ⟨wq, hwq⟩ : ∃ W, W = wr := ⟨_, rfl⟩
            subst hwq
            clear HX
            have s4 := HS.out.trans HSQ.out
            have s5 := hs0.trans s4
            by_cases hlt2 : s < N
            · have HKC : Hid (∀ w', Since wq w' → w'.cell? ⟨w.heap.size, 0, none⟩ = some (.slice ao n ac) ∧ w'.cell? ⟨w.heap.size, 1, none⟩ = some (.int .i64 p.fi) ∧ w'.cell? ⟨w.heap.size, 2, none⟩ = some (.int .i64 p.la) ∧ w'.cell? ⟨w.heap.size, 3, none⟩ = some (.slice bo m bc) ∧ w'.cell? ⟨w.heap.size, 4, none⟩ = some (.bool p.nu) ∧ w'.cell? ⟨bv, ov + k, none⟩ = some (.int .i64 x)) := by
                intro w' hs
                obtain ⟨⟨r0, r1, r2, r3, r4⟩, _⟩ := ((B0.out.since s4).since hs).fiveP
                exact ⟨r0, r1, r2, r3, r4, ((since_cells (s5.trans hs) hbv) _).trans cv⟩
              obtain ⟨S, hS⟩ : ∃ S, S = 2 ^ s := ⟨_, rfl⟩
              have hS9 : S < 4194305 := by rw [hS]; exact HPT.out s (by omega)
              have EW : Hid (wrap64 (2 ^ s) = (S : Int)) := by unfold Hid; rw [hS]; exact wrap64_pow (by omega)
              have hs1' : (0 : Int) ≤ (s : Int) := by omega
              have hs2' : (s : Int) < (N : Int) := by omega
              have hs3' : min s 64 = s := by omega
              have HBIT : Hid (∀ j, cntK p c x j (s + 1) = if (aft p S x).testBit j = true then min 1000000 (cntK p c x j s + c s) else cntK p c x j s) := fun j => by rw [hS]; exact cntK_bit p c x j s
              have EW2 : Hid (IntKind.i64.wrap (2 ^ s) = (S : Int)) := by unfold Hid; rw [hS]; exact wrapI_pow (by omega)
              clear hS
              have ew := EW.out
              have ew2 := EW2.out
              go_wp2_with fail
              refine wp_region_held_drew (S := (fun w' => w'.cell? ⟨w.heap.size, 0, none⟩ = some (.slice ao n ac) ∧ w'.cell? ⟨w.heap.size, 1, none⟩ = some (.int .i64 p.fi) ∧ w'.cell? ⟨w.heap.size, 2, none⟩ = some (.int .i64 p.la) ∧ w'.cell? ⟨w.heap.size, 3, none⟩ = some (.slice bo m bc) ∧ w'.cell? ⟨w.heap.size, 4, none⟩ = some (.bool p.nu) ∧ w'.cell? ⟨bv, ov + k, none⟩ = some (.int .i64 x))) (by kernel_rfl) (HKC.out _ (Since.refl _).drew) (fun hHeld => ?_)
              refine take_yes 0 (some 45) (v := ?_) rfl (by kernel_rfl) (by kernel_rfl) (by kernel_rfl) (by kernel_rfl) (fun _ _ _ h => h) (by rfl) (by assumption) ?_ ?_
              rotate_left
              · (intro w' hSw; (try dsimp only at hSw); go_simp; try with_reducible rfl)
              try simp only [Act.put, List.setIfInBounds_toArray, List.set_cons_zero, List.set_cons_succ]
              refine take_yes 1 (some 46) (v := ?_) rfl (by kernel_rfl) (by kernel_rfl) (by kernel_rfl) (by kernel_rfl) (fun _ _ _ h => h) (by rfl) (by assumption) ?_ ?_
              rotate_left
              · (intro w' hSw; (try dsimp only at hSw); go_simp; try with_reducible rfl)
              try simp only [Act.put, List.setIfInBounds_toArray, List.set_cons_zero, List.set_cons_succ]
              refine take_yes 2 (some 47) (v := ?_) rfl (by kernel_rfl) (by kernel_rfl) (by kernel_rfl) (by kernel_rfl) (fun _ _ _ h => h) (by rfl) (by assumption) ?_ ?_
              rotate_left
              · (intro w' hSw; (try dsimp only at hSw); go_simp; try with_reducible rfl)
              try simp only [Act.put, List.setIfInBounds_toArray, List.set_cons_zero, List.set_cons_succ]
              refine take_yes 3 (some 48) (v := ?_) rfl (by kernel_rfl) (by kernel_rfl) (by kernel_rfl) (by kernel_rfl) (fun _ _ _ h => h) (by rfl) (by assumption) ?_ ?_
              rotate_left
              · (intro w' hSw; (try dsimp only at hSw); go_simp; try with_reducible rfl)
              try simp only [Act.put, List.setIfInBounds_toArray, List.set_cons_zero, List.set_cons_succ]
              refine take_yes 4 (some 49) (v := ?_) rfl (by kernel_rfl) (by kernel_rfl) (by kernel_rfl) (by kernel_rfl) (fun _ _ _ h => h) (by rfl) (by assumption) ?_ ?_
              rotate_left
              · (intro w' hSw; (try dsimp only at hSw); go_simp; try with_reducible rfl)
              try simp only [Act.put, List.setIfInBounds_toArray, List.set_cons_zero, List.set_cons_succ]
              refine take_yes 5 (some 50) (v := ?_) rfl (by kernel_rfl) (by kernel_rfl) (by kernel_rfl) (by kernel_rfl) (fun _ _ _ h => h) (by rfl) (by assumption) ?_ ?_
              rotate_left
              · (intro w' hSw; (try dsimp only at hSw); go_simp; try with_reducible rfl)
              try simp only [Act.put, List.setIfInBounds_toArray, List.set_cons_zero, List.set_cons_succ]
              refine take_yes 6 (some 51) (v := ?_) rfl (by kernel_rfl) (by kernel_rfl) (by kernel_rfl) (by kernel_rfl) (fun _ _ _ h => h) (by rfl) (by assumption) ?_ ?_
              rotate_left
              · (intro w' hSw; (try dsimp only at hSw); go_simp; try with_reducible rfl)
              try simp only [Act.put, List.setIfInBounds_toArray, List.set_cons_zero, List.set_cons_succ]
              clear ew ew2
              refine take_run 7 rfl (by kernel_rfl) (by rfl) (fun K hK => ?_)
              go_simp
              refine (HAF.out _ _ _ (s5.drew) hS9).mono ?_
              rintro e w5 ⟨rfl, hs6⟩
              have hc6 := Since.of_drew hs6
              refine hK.out _ _ (HKC.out _ hc6) (fun hHeld2 => ?_)
              clear hK K hHeld
              try simp only [Act.put, List.setIfInBounds_toArray, List.set_cons_zero, List.set_cons_succ]
              refine take_yes 8 (some 9) (v := ?_) rfl (by kernel_rfl) (by kernel_rfl) (by kernel_rfl) (by kernel_rfl) (fun _ _ _ h => h) (by rfl) (by assumption) ?_ ?_
              rotate_left
              · (intro w' hSw; (try dsimp only at hSw); go_simp; try with_reducible rfl)
              try simp only [Act.put, List.setIfInBounds_toArray, List.set_cons_zero, List.set_cons_succ]
              refine wpAnyH_done (by kernel_rfl) ?_ _
              clear hHeld2
              obtain ⟨R, hR⟩ : ∃ R, R = aft p S x := ⟨_, rfl⟩
              rw [← hR] at HBIT ⊢
              have hR9 : R < 2097152 := by rw [hR]; exact HAL.out _ _
              clear hR
              have HX5 := Lib.hid (HXQ.out.since hc6)
              have s6 := HSQ.out.trans hc6
              have hgq5 : wA.heap.size < w5.heap.size := Nat.lt_of_lt_of_le hgq hc6.size
              obtain ⟨cs, hcs⟩ : ∃ cs, cs = c s := ⟨_, rfl⟩
              have hcs9 : cs ≤ 1000000 := by rw [hcs]; exact HCc.out s
              by_cases hpos : 0 < cs
              · have hd0 : decide ((0 : Int) < (cs : Int)) = true := by simp; omega
                have hd1 : decide (0 < cs) = true := by simpa using hpos
                have HCS := Lib.hid hcs
                have HX6 : Hid (Own wA.heap.size w5 (.slice (some ⟨wA.heap.size, 0, none⟩) N N) (cntR (mixC p c x s 0) N)) := by rw [mixC_zero]; exact HX5
                clear HX5 hpos hcs
                go_wp2_with fail
                go_loopw [10] (fun i wk => ∃ j : Nat, j ≤ N ∧ i = .int .i64 j ∧ wA.heap.size < wk.heap.size ∧ Hid (Own wA.heap.size wk (.slice (some ⟨wA.heap.size, 0, none⟩) N N) (cntR (mixC p c x s j) N)) ∧ Hid (Since wA wk)) (fun i _ => N - (intOf i).toNat)
                case atStart => exact ⟨0, Nat.zero_le _, rfl, hgq5, HX6, s6⟩
                case round =>
                  obtain ⟨j, hj, rfl, hgk, HXK, HSK⟩ := hrel
                  obtain ⟨wk, hwk⟩ : ∃ W, W = wr := ⟨_, rfl⟩
                  subst hwk
                  clear HX6
                  have cn := own_cntR (HO.out.since HSK.out) s hlt2
                  rw [← HCS.out] at cn
                  by_cases hlt3 : j < N
                  · have cx := own_cntR HXK.out j hlt3
                    obtain ⟨T, hT⟩ : ∃ T, T = cntK p c x j s := ⟨_, rfl⟩
                    rw [mixC_at, ← hT] at cx
                    have hT9 : T ≤ 1000000 := by rw [hT]; exact cntK_le ..
                    have fx := own_frozR HXK.out j
                    have hj1 : (0 : Int) ≤ (j : Int) := by omega
                    have hj2 : (j : Int) < (N : Int) := by omega
                    have hj3 : min j 64 = j := by omega
                    obtain ⟨bt, hbt⟩ : ∃ bt, bt = R.testBit j := ⟨_, rfl⟩
                    have HB := HBIT.out j
                    rw [← hbt, ← hT, ← HCS.out] at HB
                    have HBB := Lib.hid HB
                    have HTT := Lib.hid hT
                    clear hT HB
                    have ht1 := bit_test R j (by omega)
                    rw [← hbt] at ht1
                    clear hbt
                    cases bt with
                    | false =>
                      have HNXT : Hid (mixC p c x s (j + 1) = mixC p c x s j) := by
                        unfold Hid; refine mixC_skip p c x s j ?_; rw [HBB.out, HTT.out]; rfl
                      go_wp2_with fail
                      clear ht1
                      go_roundw
                      case rel => exact ⟨j + 1, by omega, by go_num, hgk, by rw [HNXT.out]; exact HXK, HSK⟩
                      case measure => simp [intOf]; omega
                    | true =>
                      have HNXT : Hid (cntK p c x j (s + 1) = min 1000000 (T + cs)) := by unfold Hid; rw [HBB.out]; rfl
                      go_wp2_with fail
                      clear ht1
                      have hgo : Hid (Own wA.heap.size (wk.setCell ⟨wA.heap.size, j, none⟩ (.int .i64 ((min 1000000 (T + cs) : Nat) : Int))) (.slice (some ⟨wA.heap.size, 0, none⟩) N N) (cntR (mixC p c x s (j + 1)) N)) := by
                        have h1 := own_set HXK.out (cntR_len _ _) j (((min 1000000 (T + cs) : Nat) : Int)) (by unfold InI; omega)
                        rw [← HNXT.out, ← mixC_next p c x s j, cntR_set _ _ N j (fun i hi => mixC_else p c x s j i hi)] at h1
                        rw [mixC_next p c x s j, HNXT.out] at h1
                        exact h1
                      have hso : Hid (Since wA (wk.setCell ⟨wA.heap.size, j, none⟩ (.int .i64 ((min 1000000 (T + cs) : Nat) : Int)))) := HSK.out.setCell (Nat.le_refl _) _
                      have hgz : wA.heap.size < (wk.setCell ⟨wA.heap.size, j, none⟩ (.int .i64 ((min 1000000 (T + cs) : Nat) : Int))).heap.size := by simp; exact hgk
                      rw [min_if] at hgo hso hgz
                      go_region
                      go_wp2_with fail
                      go_roundw
                      case rel => exact ⟨j + 1, by omega, by go_num, hgz, hgo, by first | exact hso | exact (HSK.out.drewN _).setCell (Nat.le_refl _) _ | exact (HSK.out.setCell (Nat.le_refl _) _).drewN _⟩
                      case measure => simp [intOf]; omega
                  · obtain rfl : j = N := by omega
                    have HX7 : Hid (Own wA.heap.size wk (.slice (some ⟨wA.heap.size, 0, none⟩) j j) (cntR (fun i => cntK p c x i (s + 1)) j)) := by rw [← mixC_end]; exact HXK.out
                    go_wp2_with fail
                    go_roundw
                    case rel => exact ⟨s + 1, by omega, by go_num, hgk, HX7, HSK⟩
                    case measure => simp [intOf]; omega
              · have hd0 : decide ((0 : Int) < (cs : Int)) = false := by simp; omega
                have hd1 : decide (0 < cs) = false := by simpa using hpos
                have HX7 : Hid (Own wA.heap.size w5 (.slice (some ⟨wA.heap.size, 0, none⟩) N N) (cntR (fun i => cntK p c x i (s + 1)) N)) := by rw [mixC_none p c x s (by rw [← hcs]; exact hpos)]; exact HX5
                have cn := own_cntR (HO.out.since s6) s hlt2
                rw [← hcs] at cn
                have hn1' : (0 : Int) < (N : Int) := by omega
                clear hpos hcs
                go_wp2_with fail
                go_loopw [10] (fun i wk => i = .int .i64 0 ∧ wk = w5) (fun _ _ => 0)
                case atStart => exact ⟨rfl, rfl⟩
                case round =>
                  obtain ⟨rfl, rfl⟩ := hrel
                  go_wp2_with fail
                  go_roundw
                  case rel => exact ⟨s + 1, by omega, by go_num, hgq5, HX7, s6⟩
                  case measure => simp [intOf]; omega
            · obtain rfl : s = N := by omega
              have HX8 : Hid (Own y.heap.size wq (.slice (some ⟨wA.heap.size, 0, none⟩) s s) (cntR (cW p (z.take (k + 1))) s)) := by
                rw [HNX.out]
                have : (fun j => cntK p c x j s) = stpC p c x := by funext j; unfold stpC; rw [HNN.out, HN.out]
                rw [← this]
                exact HXQ.out.mono (by have := HS.out.size; exact this)
              have hyw := HS.out.size
              go_wp2_with fail
              go_roundw
              case rel => exact ⟨k + 1, _, by omega, by go_num, rfl, ⟨hyw, hgq⟩, HX8, s4⟩
              case measure => simp [intOf]; omega
        · obtain rfl : k = zn := by omega
          have HF : Hid (crN p z = sumK p c N) := by
            unfold Hid; rw [HR.out, hc, List.take_of_length_le (by have := HZN.out; omega)]
          clear hc q0 q1 q2 q3 q4
          go_wp2_with fail
          go_loopw [11, 12] (fun q i wr => ∃ s : Nat, s ≤ N ∧ i = .int .i64 s ∧ q = .int .i64 ((sumK p c s : Nat) : Int) ∧ Hid (Since wA wr)) (fun _ i _ => N - (intOf i).toNat)
          case atStart => exact ⟨0, Nat.zero_le _, rfl, rfl, Since.refl _⟩
          case round =>
            obtain ⟨s, hs, rfl, rfl, HSQ⟩ := hrel
            obtain ⟨wq, hwq⟩ : ∃ W, W = wr := ⟨_, rfl⟩
            subst hwq
            obtain ⟨T, hT⟩ : ∃ T, T = sumK p c s := ⟨_, rfl⟩
            rw [← hT]
            have hT9 : T ≤ 1000000 := by rw [hT]; exact sumK_le ..
            have s4 := HS.out.trans HSQ.out
            have s5 := hs0.trans s4
            by_cases hlt2 : s < N
            · have HKC : Hid (∀ w', Since wq w' → w'.cell? ⟨w.heap.size, 0, none⟩ = some (.slice ao n ac) ∧ w'.cell? ⟨w.heap.size, 1, none⟩ = some (.int .i64 p.fi) ∧ w'.cell? ⟨w.heap.size, 2, none⟩ = some (.int .i64 p.la) ∧ w'.cell? ⟨w.heap.size, 3, none⟩ = some (.slice bo m bc) ∧ w'.cell? ⟨w.heap.size, 4, none⟩ = some (.bool p.nu)) := by
                intro w' hs
                obtain ⟨⟨r0, r1, r2, r3, r4⟩, _⟩ := ((B0.out.since s4).since hs).fiveP
                exact ⟨r0, r1, r2, r3, r4⟩
              obtain ⟨S, hS⟩ : ∃ S, S = 2 ^ s := ⟨_, rfl⟩
              have hS9 : S < 4194305 := by rw [hS]; exact HPT.out s (by omega)
              have EW : Hid (wrap64 (2 ^ s) = (S : Int)) := by unfold Hid; rw [hS]; exact wrap64_pow (by omega)
              have EW2 : Hid (IntKind.i64.wrap (2 ^ s) = (S : Int)) := by unfold Hid; rw [hS]; exact wrapI_pow (by omega)
              have hs1' : (0 : Int) ≤ (s : Int) := by omega
              have hs2' : (s : Int) < (N : Int) := by omega
              have hs3' : min s 64 = s := by omega
              obtain ⟨cs, hcs⟩ : ∃ cs, cs = c s := ⟨_, rfl⟩
              have hcs9 : cs ≤ 1000000 := by rw [hcs]; exact HCc.out s
              have HBIT : Hid (sumK p c (s + 1) = if accN p S = true then min 1000000 (T + cs) else T) := by unfold Hid; rw [hS, hT, hcs]; exact sumK_bit p c s
              have HTT := Lib.hid hT
              clear hS hT
              have ew := EW.out
              have ew2 := EW2.out
              go_wp2_with fail
              refine wp_region_held_drew (S := (fun w' => w'.cell? ⟨w.heap.size, 0, none⟩ = some (.slice ao n ac) ∧ w'.cell? ⟨w.heap.size, 1, none⟩ = some (.int .i64 p.fi) ∧ w'.cell? ⟨w.heap.size, 2, none⟩ = some (.int .i64 p.la) ∧ w'.cell? ⟨w.heap.size, 3, none⟩ = some (.slice bo m bc) ∧ w'.cell? ⟨w.heap.size, 4, none⟩ = some (.bool p.nu))) (by kernel_rfl) (HKC.out _ (Since.refl _).drew) (fun hHeld => ?_)
              refine take_yes 0 (some 91) (v := ?_) rfl (by kernel_rfl) (by kernel_rfl) (by kernel_rfl) (by kernel_rfl) (fun _ _ _ h => h) (by rfl) (by assumption) ?_ ?_
              rotate_left
              · (intro w' hSw; (try dsimp only at hSw); go_simp; try with_reducible rfl)
              try simp only [Act.put, List.setIfInBounds_toArray, List.set_cons_zero, List.set_cons_succ]
              refine take_yes 1 (some 92) (v := ?_) rfl (by kernel_rfl) (by kernel_rfl) (by kernel_rfl) (by kernel_rfl) (fun _ _ _ h => h) (by rfl) (by assumption) ?_ ?_
              rotate_left
              · (intro w' hSw; (try dsimp only at hSw); go_simp; try with_reducible rfl)
              try simp only [Act.put, List.setIfInBounds_toArray, List.set_cons_zero, List.set_cons_succ]
              refine take_yes 2 (some 93) (v := ?_) rfl (by kernel_rfl) (by kernel_rfl) (by kernel_rfl) (by kernel_rfl) (fun _ _ _ h => h) (by rfl) (by assumption) ?_ ?_
              rotate_left
              · (intro w' hSw; (try dsimp only at hSw); go_simp; try with_reducible rfl)
              try simp only [Act.put, List.setIfInBounds_toArray, List.set_cons_zero, List.set_cons_succ]
              clear ew ew2
              refine take_run 3 rfl (by kernel_rfl) (by rfl) (fun K hK => ?_)
              go_simp
              refine (HAC.out _ _ (s5.drew) hS9).mono ?_
              rintro e w5 ⟨rfl, hs6⟩
              have hc6 := Since.of_drew hs6
              refine hK.out _ _ (HKC.out _ hc6) (fun hHeld2 => ?_)
              clear hK K hHeld
              try simp only [Act.put, List.setIfInBounds_toArray, List.set_cons_zero, List.set_cons_succ]
              refine wpAnyH_done (by kernel_rfl) ?_ _
              clear hHeld2
              have s6 := Lib.hid (HSQ.out.trans hc6)
              have cn := own_cntR (HO.out.since s6.out) s hlt2
              rw [← hcs] at cn
              clear hcs
              obtain ⟨bt, hbt⟩ : ∃ bt, bt = accN p S := ⟨_, rfl⟩
              rw [← hbt] at HBIT ⊢
              clear hbt
              cases bt with
              | false =>
                go_wp2_with fail
                go_roundw
                case rel => exact ⟨s + 1, by omega, by go_num, by rw [HBIT.out]; rfl, s6⟩
                case measure => simp [intOf]; omega
              | true =>
                have HM2 : Hid (((sumK p c (s + 1) : Nat) : Int) = if (T : Int) + (cs : Int) < 1000000 then (T : Int) + (cs : Int) else 1000000) := by unfold Hid; rw [HBIT.out, if_pos rfl, min_if]
                go_wp2_with fail
                go_roundw
                case rel => exact ⟨s + 1, by omega, by go_num, by rw [HM2.out], s6⟩
                case measure => simp [intOf]; omega
            · obtain rfl : s = N := by omega
              go_wp2
              go_ret
              exact ⟨ret_int (by rw [HF.out, hT]), s5⟩
end Go.Proofs.Ytgnjgfifgfbmcaa
