/- CountRuns, the program's. -/
import Derived.Test.YtgnjgfifgfbmcaaCnA
namespace Go.Proofs.Ytgnjgfifgfbmcaa
set_option maxRecDepth 100000
open Go.ChangeShapes Go.WideShapes Go.ChangeAt Go.RowKit
set_option linter.unusedVariables false
set_option linter.unusedSimpArgs false

/-- A state's bit in the accepting set. -/
theorem wpList_build_c0 {ops : Array Oper} {rest : List Oper} {o : Oper} {a : Act} {w : World} {Q : Exit → Act → World → Prop} (hgd : o.guard = none) (ho : o.op = .build 76 #[(0, .const (.int .i64 1))])
    (h : wpList Try.prog ops Q rest (a.put o.dst (.agg (cntA c0C))) w) : wpList Try.prog ops Q (o :: rest) a w := by
  have e : Try.prog.built 76 [(0, Value.int .i64 1)] = some (cntA c0C) := by kernel_rfl
  have hp : ((#[(0, Operand.const (.int .i64 1))] : Array (Nat × Operand)).map fun (i, x) => (i, a.eval x)).toList = [(0, Value.int .i64 1)] := by simp; rfl
  refine wpList_build hgd 76 #[(0, .const (.int .i64 1))] ho ?_ ?_
  · rw [hp, e]; rfl
  · rw [hp, e]; exact h
theorem acc_bit (p : Psn) (s : Nat) : (accS p).testBit s = accN p (2 ^ s) := by
  rw [← acc_and, ← and_pow_ne, Nat.and_comm]

set_option maxHeartbeats 1000000 in
set_option maxRecDepth 100000 in
theorem implCR_any (v u : Value) (p : Psn) (z : List Int) (w : World) (h : PsAt w v p) (hz : IntsAt w u z) (hl : p.ls.length ≤ maxLen) (hl2 : p.fo.length ≤ maxLen) (hzl : z.length ≤ 1048577) :
    Calls Try.prog 19 #[v, u] w fun e w' => e = .returned (.int .i64 (crN p z : Int)) ∧ Since w w' := by
  have HP := Lib.hid h
  have HZ := Lib.hid hz
  obtain ⟨a, b, rfl, ha, hb, hi1, hi2⟩ := h
  obtain ⟨ao, ac, rfl, _⟩ := ha.row
  obtain ⟨bo, bc, rfl, _⟩ := hb.row
  obtain ⟨zo, zc, rfl, HZC⟩ := hz.row
  clear ha hb hz
  obtain ⟨n, hn⟩ : ∃ n, n = p.ls.length := ⟨_, rfl⟩
  obtain ⟨m, hm⟩ : ∃ m, m = p.fo.length := ⟨_, rfl⟩
  obtain ⟨zn, hzn⟩ : ∃ zn, zn = z.length := ⟨_, rfl⟩
  rw [← hn, ← hm] at HP ⊢
  rw [← hzn] at HZ ⊢
  have HN := Lib.hid hn
  have HM := Lib.hid hm
  have HZN := Lib.hid hzn
  obtain ⟨y, hy⟩ : ∃ y, y = w.alloc (.cells #[.slice ao n ac, .int .i64 p.fi, .int .i64 p.la, .slice bo m bc, .bool p.nu] 26) := ⟨_, rfl⟩
  have hs0 : Since w y := by rw [hy]; exact (Since.refl w).alloc _
  have B0 : Hid (Blk y w.heap.size 26 #[.slice ao n ac, .int .i64 p.fi, .int .i64 p.la, .slice bo m bc, .bool p.nu]) := by rw [hy]; exact Blk.new rfl _ _
  have HY := Lib.hid hy
  have HYS : Hid (y.heap.size = w.heap.size + 1) := by unfold Hid; rw [hy]; simp
  obtain ⟨⟨p0, p1, p2, p3, p4⟩, _⟩ := B0.out.fiveP
  rw [hy] at p0 p1 p2 p3 p4
  clear hn hm hzn hy
  have HPV : Hid (∀ W, Since w W → Calls Try.prog 23 #[.agg #[.slice ao n ac, .int .i64 p.fi, .int .i64 p.la, .slice bo m bc, .bool p.nu]] W fun e w' => e = .returned (.bool (posB p)) ∧ Since W w') := fun W hW => implPV_any _ p W (HP.out.since hW) hl hl2
  have HIW : Hid (∀ W, Since w W → Calls Try.prog 51 #[.slice zo zn zc] W fun e w' => e = .returned (.bool (isWordB z)) ∧ W = w') := fun W hW => implIW_any _ z W (HZ.out.since hW) hzl
  clear hl hl2
  cases hv : posB p with
  | false =>
    rw [hv] at HPV
    have HR : Hid (crN p z = 0) := by unfold Hid crN; rw [hv]; rfl
    clear hv
    go_enter Try.func19, Try.ntmps19
    go_wp2_with fail
    rw [← HY.out]
    refine (HPV.out _ hs0).mono ?_
    rintro e w1 ⟨rfl, hs1⟩
    have s1 := hs0.trans hs1
    go_wp2
    go_ret
    exact ⟨ret_int (by rw [HR.out]; rfl), s1⟩
  | true =>
    rw [hv] at HPV
    cases hw : isWordB z with
    | false =>
      rw [hw] at HIW
      have HR : Hid (crN p z = 0) := by unfold Hid crN; rw [hv, hw]; rfl
      clear hv hw
      go_enter Try.func19, Try.ntmps19
      go_wp2_with fail
      rw [← HY.out]
      refine (HPV.out _ hs0).mono ?_
      rintro e w1 ⟨rfl, hs1⟩
      have s1 := hs0.trans hs1
      obtain ⟨⟨q0, q1, q2, q3, q4⟩, _⟩ := (B0.out.since hs1).fiveP
      go_wp2_with fail
      refine (HIW.out _ s1).mono ?_
      rintro e wx ⟨rfl, rfl⟩
      go_wp2
      go_ret
      exact ⟨ret_int (by rw [HR.out]; rfl), s1⟩
    | true =>
      rw [hw] at HIW
      have hz8 : zn ≤ 8 := by rw [HZN.out]; exact word_le hw
      have hn9 : n ≤ 20 := by rw [HN.out]; exact (posB_parts hv).1
      have HR : Hid (crN p z = sumK p (cW p z) (n + 1)) := by unfold Hid crN; rw [hv, hw, HN.out]; rfl
      have HPT : Hid (∀ s, s ≤ 21 → 2 ^ s < 4194305) := fun s hs => pow_two_lt hv hs
      have HCL : Hid (∀ k j, cW p (z.take k) j ≤ 1000000) := fun k j => cW_le p _ j
      have HCA : Hid (∀ (c : Nat → Nat) (x : Int) W, Since w W → (∀ j, c j ≤ 1000000) → Calls Try.prog 52 #[.agg #[.slice ao n ac, .int .i64 p.fi, .int .i64 p.la, .slice bo m bc, .bool p.nu], .agg (cntA c), .int .i64 x] W fun e w' => e = .returned (.agg (cntA (stpC p c x))) ∧ Since W w') := fun c x W hW hc => implCA_any _ p c x W (HP.out.since hW) hv hc
      have HAS : Hid (∀ W, Since w W → Calls Try.prog 40 #[.agg #[.slice ao n ac, .int .i64 p.fi, .int .i64 p.la, .slice bo m bc, .bool p.nu]] W fun e w' => e = .returned (.int .i64 (accS p : Int)) ∧ Since W w') := fun W hW => implAS_any _ p W (HP.out.since hW) hv
      have hA9 : accS p < 2097152 := by
        refine Nat.lt_of_lt_of_le (accS_lt hv) ?_
        exact Nat.le_trans (Nat.pow_le_pow_right (by decide) (show p.ls.length + 1 ≤ 21 by have := (posB_parts hv).1; omega)) (by decide)
      obtain ⟨A, hA⟩ : ∃ A, A = accS p := ⟨_, rfl⟩
      rw [← hA] at HAS hA9
      have HHB : Hid (∀ (s : Nat) W, s ≤ 21 → Calls Try.prog 53 #[.int .i64 (A : Int), .int .i64 (s : Int)] W fun e w' => e = .returned (.bool (accN p (2 ^ s))) ∧ W = w') := fun s W hs => by rw [← acc_bit, ← hA]; exact has_any A s W (by omega) (by omega)
      have HFIN : Hid (∀ c : Nat → Nat, (∀ k, n < k → c k = 0) → sumK p c 21 = sumK p c (n + 1)) := by
        intro c hc
        have e21 : n + 1 + (20 - n) = 21 := by omega
        have h1 := sumK_far (p := p) c (by rw [← HN.out]; exact hc) (20 - n)
        rw [← HN.out, e21] at h1
        exact h1
      have HFAR : Hid (∀ k j, n < j → cW p (z.take k) j = 0) := fun k j hj => cW_far p _ j (by rw [← HN.out]; exact hj)
      clear hv hw hA
      go_enter Try.func19, Try.ntmps19
      go_wp2_with fail
      rw [← HY.out]
      refine (HPV.out _ hs0).mono ?_
      rintro e w1 ⟨rfl, hs1⟩
      have s1 := hs0.trans hs1
      obtain ⟨⟨q0, q1, q2, q3, q4⟩, _⟩ := (B0.out.since hs1).fiveP
      go_wp2_with fail
      refine (HIW.out _ s1).mono ?_
      rintro e wx ⟨rfl, rfl⟩
      obtain ⟨y2, hy2⟩ : ∃ y2, y2 = (w1.alloc (.cells #[.int .i64 0, .int .i64 0, .int .i64 0, .int .i64 0, .int .i64 0, .int .i64 0, .int .i64 0, .int .i64 0, .int .i64 0, .int .i64 0, .int .i64 0, .int .i64 0, .int .i64 0, .int .i64 0, .int .i64 0, .int .i64 0, .int .i64 0, .int .i64 0, .int .i64 0, .int .i64 0, .int .i64 0] 76)).setRow w1.heap.size (cntA c0C) := ⟨_, rfl⟩
      have hs2 : Since w1 y2 := by rw [hy2]; exact ((Since.refl w1).alloc _).setRow (Nat.le_refl _) _
      have BN : Hid (Blk (w1.alloc (.cells #[.int .i64 0, .int .i64 0, .int .i64 0, .int .i64 0, .int .i64 0, .int .i64 0, .int .i64 0, .int .i64 0, .int .i64 0, .int .i64 0, .int .i64 0, .int .i64 0, .int .i64 0, .int .i64 0, .int .i64 0, .int .i64 0, .int .i64 0, .int .i64 0, .int .i64 0, .int .i64 0, .int .i64 0] 76)) w1.heap.size 76 #[.int .i64 0, .int .i64 0, .int .i64 0, .int .i64 0, .int .i64 0, .int .i64 0, .int .i64 0, .int .i64 0, .int .i64 0, .int .i64 0, .int .i64 0, .int .i64 0, .int .i64 0, .int .i64 0, .int .i64 0, .int .i64 0, .int .i64 0, .int .i64 0, .int .i64 0, .int .i64 0, .int .i64 0]) := Blk.new rfl _ _
      have B1 : Hid (Blk y2 w1.heap.size 76 (cntA c0C)) := by rw [hy2]; exact BN.out.setRow _
      have HY2 := Lib.hid hy2
      have hw1 := s1.size
      clear hy2 q0 q1 q2 q3 q4 p0 p1 p2 p3 p4
      go_upto_region 4 with (first
        | (refine wpList_build_c0 rfl rfl ?_)
        | (refine wpList_store_blk rfl 76 _ _ rfl w1.heap.size (cntA c0C) rfl rfl 76 _ BN.out (info_rc _) (by rw [cntA_size]; rfl) (cntA_one _) ?_))
      rw [← HY2.out]
      go_wp2_with fail
      go_loopw [23] (fun i wr => ∃ k : Nat, k ≤ zn ∧ i = .int .i64 k ∧ Hid (Blk wr w1.heap.size 76 (cntA (cW p (z.take k)))) ∧ Hid (Since w1 wr)) (fun i _ => zn - (intOf i).toNat)
      case atStart => exact ⟨0, Nat.zero_le _, rfl, B1, hs2⟩
      case round =>
        obtain ⟨k, hk, rfl, HX, HS⟩ := hrel
        obtain ⟨wA, hwA⟩ : ∃ W, W = wr := ⟨_, rfl⟩
        subst hwA
        clear B1 hs2 HY2
        have s2 := s1.trans HS.out
        obtain ⟨⟨q0, q1, q2, q3, q4⟩, _⟩ := (B0.out.since (hs1.trans HS.out)).fiveP
        obtain ⟨c, hc⟩ : ∃ c, c = cW p (z.take k) := ⟨_, rfl⟩
        have hcl : ∀ j, c j ≤ 1000000 := fun j => by rw [hc]; exact HCL.out k j
        rw [← hc] at HX
        by_cases hlt : k < zn
        · have hx : k < z.length := by have := HZN.out; omega
          have HNX : Hid (cW p (z.take (k + 1)) = stpC p c z[k]) := by unfold Hid; rw [hc]; exact cW_snoc p z k hx
          obtain ⟨bv, ov, rfl, hbv, cv⟩ := HZC.out k hx
          obtain ⟨x, hxv⟩ : ∃ x, x = z[k] := ⟨_, rfl⟩
          rw [← hxv] at cv HNX
          have hk1 : (0 : Int) ≤ (k : Int) := by omega
          have hk2 : (k : Int) < (zn : Int) := by omega
          have cv2 := ((since_cells s2 hbv) _).trans cv
          have HCc := Lib.hid hcl
          clear hc hxv hcl
          go_upto_region 8 with (first
            | (refine wpList_load_row rfl 76 _ rfl w1.heap.size rfl 76 (cntA c) (0, 0) _ HX.out Try.underlying76 rfl (info_rc _) ?_)
            | (go_at_call 52; refine (HCA.out _ _ _ s2 HCc.out).mono ?_; rintro e w5 ⟨rfl, hs6⟩; have HX5 := Lib.hid (HX.out.since hs6); have HS5 := Lib.hid (HS.out.trans hs6); clear hs6)
            | (refine wpList_store_blk rfl 76 _ _ rfl w1.heap.size (cntA (stpC p c x)) rfl rfl 76 _ HX5.out (info_rc _) (by rw [cntA_size, cntA_size]) (cntA_one _) ?_))
          have HX7 : Hid (Blk (w5.setRow w1.heap.size (cntA (stpC p c x))) w1.heap.size 76 (cntA (cW p (z.take (k + 1))))) := by rw [HNX.out]; exact HX5.out.setRow _
          have HS7 : Hid (Since w1 (w5.setRow w1.heap.size (cntA (stpC p c x)))) := HS5.out.setRow (Nat.le_refl _) _
          go_wp2_with fail
          go_roundw
          case rel => exact ⟨k + 1, by omega, by go_num, HX7, HS7⟩
          case measure => simp [intOf]; omega
        · obtain rfl : k = zn := by omega
          have HFF : Hid (crN p z = sumK p c 21) := by
            have e2 : z.take k = z := List.take_of_length_le (by have := HZN.out; omega)
            have h1 := HFIN.out c (fun j hj => by rw [hc]; exact HFAR.out k j hj)
            unfold Hid
            rw [HR.out, h1, hc, e2]
          have HCc := Lib.hid hcl
          clear hc hcl
          go_wp2_with fail
          refine (HAS.out _ s2).mono ?_
          rintro e w5 ⟨rfl, hs6⟩
          have HX5 := Lib.hid (HX.out.since hs6)
          have HS5 := Lib.hid (s2.trans hs6)
          clear hs6 q0 q1 q2 q3 q4
          go_wp2_with (refine wpList_load_row rfl 76 _ rfl w1.heap.size rfl 76 (cntA c) (0, 0) _ HX5.out Try.underlying76 rfl (info_rc _) ?_)
          go_loop [9, 35] (fun q i => ∃ s : Nat, s ≤ 21 ∧ i = .int .i64 s ∧ q = .int .i64 ((sumK p c s : Nat) : Int)) (fun _ i => 21 - (intOf i).toNat)
          case atStart => exact ⟨0, by omega, rfl, rfl⟩
          case round =>
            obtain ⟨s, hs, rfl, rfl⟩ := hrel
            obtain ⟨T, hT⟩ : ∃ T, T = sumK p c s := ⟨_, rfl⟩
            rw [← hT]
            have hT9 : T ≤ 1000000 := by rw [hT]; exact sumK_le ..
            by_cases hlt2 : s < 21
            · have hs1' : (0 : Int) ≤ (s : Int) := by omega
              have hs2' : (s : Int) < 21 := by omega
              have hix : ∀ W, (Instr.index 76 (.agg (cntA c)) (.int .i64 (s : Int))).run Try.prog W = .ok (.int .i64 ((c s : Nat) : Int)) W := fun W => index_cnt c s hlt2 W
              obtain ⟨cs, hcs⟩ : ∃ cs, cs = c s := ⟨_, rfl⟩
              have hcs9 : cs ≤ 1000000 := by rw [hcs]; exact HCc.out s
              obtain ⟨bt, hbt⟩ : ∃ bt, bt = accN p (2 ^ s) := ⟨_, rfl⟩
              have HBIT : Hid (sumK p c (s + 1) = if bt = true then min 1000000 (T + cs) else T) := by unfold Hid; rw [hbt, hT, hcs]; exact sumK_bit p c s
              rw [← hcs] at hix
              have HB : Hid (∀ W, Calls Try.prog 53 #[.int .i64 (A : Int), .int .i64 (s : Int)] W fun e w' => e = .returned (.bool bt) ∧ W = w') := fun W => by rw [hbt]; exact HHB.out s W (by omega)
              clear hT hcs hbt
              cases bt with
              | false =>
                go_wp2_with fail
                refine (HB.out _).mono ?_
                rintro e wx ⟨rfl, rfl⟩
                clear hix
                go_wp2_with fail
                go_round
                case rel => exact ⟨s + 1, by omega, by go_num, by rw [HBIT.out]; rfl⟩
                case measure => simp [intOf]; omega
              | true =>
                have HADD : Hid (∀ W, Calls Try.prog 54 #[.int .i64 (T : Int), .int .i64 (cs : Int)] W fun e w' => e = .returned (.int .i64 ((sumK p c (s + 1) : Nat) : Int)) ∧ W = w') := fun W => by rw [HBIT.out, if_pos rfl]; exact addRuns_any T cs W hT9 hcs9
                go_wp2_with fail
                refine (HB.out _).mono ?_
                rintro e wx ⟨rfl, rfl⟩
                clear hix
                go_wp2_with fail
                refine (HADD.out _).mono ?_
                rintro e wx ⟨rfl, rfl⟩
                go_wp2_with fail
                go_round
                case rel => exact ⟨s + 1, by omega, by go_num, rfl⟩
                case measure => simp [intOf]; omega
            · obtain rfl : s = 21 := by omega
              go_wp2
              go_ret
              exact ⟨ret_int (by rw [HFF.out]), HS5.out⟩
end Go.Proofs.Ytgnjgfifgfbmcaa
