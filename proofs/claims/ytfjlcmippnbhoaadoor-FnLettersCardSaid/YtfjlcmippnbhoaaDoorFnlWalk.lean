/- The law of letters and words, walked. -/
import Derived.Test.YtfjlcmippnbhoaaDoorFnl
import Derived.Test.YtfjlcmippnbhoaaDoorSame
import Derived.Test.YtfjlcmippnbhoaaDoorDraw2
import Derived.Test.YtfjlcmippnbhoaaDoorPwI
import Derived.Deep.DeepCutAuto
namespace Go.Proofs.YtfjlcmippnbhoaaDoor
set_option linter.unusedVariables false
open Go.ChangeShapes Go.WideShapes Go.ChangeAt Go.RowKit

set_option maxHeartbeats 4000000 in
set_option maxRecDepth 100000 in
theorem fnLetters_walk (v : Value) (w : World) (ht : Fmts w) (hm : MaxL w) (hv : CodeAt w.heap.size w v) :
    Calls Tryd.prog 3 #[v] w fun e w' => e = .returned (.bool true) ∧ Since w w' := by
  obtain ⟨ao, len, cap, rfl, hlen, hcode⟩ := hv
  have HCODE := Lib.hid hcode
  have HT := Lib.hid ht
  have HM := Lib.hid hm
  clear hcode ht hm
  by_cases hbig : 1048576 < len
  · have hb : decide (1048576 < len) = true := by simp [hbig]
    have HB := Lib.hid hbig
    clear hbig
    go_enter Tryd.func3, Tryd.ntmps3
    go_wp2_with (go_at_call 8; refine (big_any _ _ _ _ hlen).mono ?_; rintro e w' ⟨rfl, rfl⟩)
    go_ret
    exact ⟨rfl, Since.refl _⟩
  · have hv0 : Hid (CodeIn w.heap.size w (.slice ao len cap)) := ⟨ao, len, cap, rfl, by omega, HCODE.out⟩
    have hb : decide (1048576 < len) = false := by simp; omega
    have HB := Lib.hid hbig
    clear hbig
    go_enter Tryd.func3, Tryd.ntmps3
    go_wp2_with (go_at_call 8; refine (big_any _ _ _ _ hlen).mono ?_; rintro e w' ⟨rfl, rfl⟩)
    refine (drawIL w.heap.size w _ (Nat.le_refl _) hv0.out).mono ?_
    rintro e w1 ⟨n, hn0, hn9, rfl, hs1⟩
    have HS1 := Lib.hid hs1
    clear hs1 hb
    go_upto_region 4 with fail
    go_cut [44] (fun b wx => b = .bool false ∧ w1 = wx)
    case first =>
      have hI := invL_invL n
      have hMv := (move_ne n).symm
      go_wp2_with (first
        | (go_at_call 10; refine (implIL_any _ _).mono ?_; rintro e w' ⟨rfl, rfl⟩)
        | (go_at_call 11; refine (specIL_any _ _).mono ?_; rintro e w' ⟨rfl, rfl⟩)
        | (go_at_call 12; refine (implIM_any _ _).mono ?_; rintro e w' ⟨rfl, rfl⟩)
        | (go_at_call 13; refine (specIM_any _ _).mono ?_; rintro e w' ⟨rfl, rfl⟩))
      go_meet
      exact ⟨by simp, rfl⟩
    case rest =>
      obtain ⟨h44, hw1⟩ := hcut
      subst h44
      subst hw1
      go_wp2_with fail
      refine (implFL_any n _ (HT.out.since HS1.out)).mono ?_
      rintro e w2 ⟨rfl, hs2⟩
      have HS2 := Lib.hid (HS1.out.trans hs2)
      have hfz : (fmtL n).size ≤ 2 := fmtL_size n
      clear hs2 HS1
      go_wp2_with fail
      refine (implPL_any (fmtL n) _ (HT.out.since HS2.out) (by omega)).mono ?_
      rintro e w3 ⟨rfl, hs3⟩
      have HS3 := Lib.hid (HS2.out.trans hs3)
      clear hs3 HS2
      go_upto_region 7 with fail
      go_cut [4, 5, 45, 48, 49, 50, 63] (fun _ _ _ _ _ _ b wx => b = .bool false ∧ Since w wx)
      case first =>
        cases hi : inB n 0 8 with
        | true =>
          obtain ⟨h1, h2, h3⟩ := pl_fmt_in hi
          have e0 : (fmtL n).toList ≠ [] := by
            rw [ByteArray.toList_eq]; intro e; apply h3; exact str_ext e
          have e1 : (fmtL n).toList.isEmpty = false := by simpa using e0
          have e2 : ((fmtL n).toList = []) = False := by simp [e0]
          clear h3 e0
          go_wp2_with (go_at_call 16; refine (specFL_any _ _).mono ?_; rintro e w4 ⟨rfl, hs4⟩)
          go_meet
          exact ⟨by simp, HS3.out.trans hs4⟩
        | false =>
          obtain ⟨h1, h2⟩ := pl_fmt_out hi
          have e1 : (fmtL n).toList.isEmpty = true := by rw [h2]; simp
          have e2 : ((fmtL n).toList = []) = True := by rw [h2]; simp
          clear h2
          go_wp2_with (go_at_call 16; refine (specFL_any _ _).mono ?_; rintro e w4 ⟨rfl, hs4⟩)
          go_meet
          exact ⟨by simp, HS3.out.trans hs4⟩
      case rest =>
        obtain ⟨h63, hsin⟩ := hcut
        subst h63
        have HS4 := Lib.hid hsin
        clear hsin HS3 hfz
        go_wp2_with fail
        refine (drawCW w.heap.size wc _ HS4.out.lt (hv0.out.since HS4.out)).mono ?_
        rintro e w5 ⟨va, vb, xs, ys, hlx, hly, rfl, hax, hby, hs5⟩
        have HS5 := Lib.hid (HS4.out.trans hs5)
        have HA5 := Lib.hid hax
        have HB5 := Lib.hid hby
        have hx1 : xs.length ≤ 1048577 := by omega
        have hx2 : xs.length ≤ 4611686018427387904 := by omega
        have hy2 : ys.length ≤ 4611686018427387904 := by omega
        clear hs5 hax hby HS4
        go_wp2_with fail
        refine (implCW_any _ _ xs ys _ HA5.out HB5.out hx2 hy2).mono ?_
        rintro e w' ⟨rfl, rfl⟩
        go_upto_region 11 with fail
        go_cut [92] (fun b wx => b = .bool false ∧ Since w5 wx)
        case first =>
          have hbd := cmpW_bd xs ys
          have hneg := cmpW_neg xs ys
          have hzero := cmpW_zero xs ys
          go_wp2_with fail
          refine (specCW_any _ _ xs ys _ HA5.out HB5.out hx2 hy2).mono ?_
          rintro e w6 ⟨rfl, hs6⟩
          have HS6 := Lib.hid hs6
          clear hs6
          go_wp2_with fail
          refine (implCW_any _ _ ys xs _ (HB5.out.since HS6.out) (HA5.out.since HS6.out) hy2 hx2).mono ?_
          rintro e w' ⟨rfl, rfl⟩
          go_wp2_with fail
          refine (sameInts_any _ _ xs ys _ (HA5.out.since HS6.out) (HB5.out.since HS6.out) hx2 hy2).mono ?_
          rintro e w7 ⟨rfl, hs7⟩
          have HS7 := Lib.hid (HS6.out.trans hs7)
          clear hs7
          go_wp2_with fail
          go_meet
          exact ⟨by simp, HS7.out⟩
        case rest =>
          obtain ⟨h92, hsin⟩ := hcut
          subst h92
          have HS6 := Lib.hid (HS5.out.trans hsin)
          have HA6 := Lib.hid (HA5.out.since hsin)
          clear hsin HS5 HA5 HB5
          have hr := revW_length xs
          have hr1 : (revW xs).length ≤ 1048577 := by omega
          have hr2 : (revW xs).length ≤ 4611686018427387904 := by omega
          have hfz := fmtW_size xs
          have HPW := Lib.hid (pw_fmt xs)
          clear hr
          go_wp2_with fail
          refine (implRW_any _ xs _ HA6.out hx1).mono ?_
          rintro e w7 ⟨v7, rfl, ho7, hs7⟩
          have HS7 := Lib.hid (HS6.out.trans hs7)
          have HA7 := Lib.hid (HA6.out.since hs7)
          have HR7 := Lib.hid ho7.at
          clear hs7 ho7 HS6 HA6
          go_wp2_with fail
          refine (implFW_any _ xs _ (HT.out.since HS7.out) HA7.out hx1).mono ?_
          rintro e w8 ⟨rfl, hs8⟩
          have HS8 := Lib.hid (HS7.out.trans hs8)
          have HA8 := Lib.hid (HA7.out.since hs8)
          have HR8 := Lib.hid (HR7.out.since hs8)
          clear hs8 HS7 HA7 HR7
          go_wp2_with fail
          refine (implPW_any _ _ (HT.out.since HS8.out) (HM.out.since HS8.out) (by omega)).mono ?_
          rintro e w9 ⟨v9, rfl, ho9, hs9⟩
          have HS9 := Lib.hid (HS8.out.trans hs9)
          have HA9 := Lib.hid (HA8.out.since hs9)
          have HR9 := Lib.hid (HR8.out.since hs9)
          have HY9 := Lib.hid ho9.at
          clear hs9 ho9 HS8 HA8 HR8
          go_wp2_with fail
          refine (specRW_any _ xs _ HA9.out hx1).mono ?_
          rintro e w10 ⟨v10, rfl, ho10, hs10⟩
          have HS10 := Lib.hid (HS9.out.trans hs10)
          have HA10 := Lib.hid (HA9.out.since hs10)
          have HR10 := Lib.hid (HR9.out.since hs10)
          have HY10 := Lib.hid (HY9.out.since hs10)
          have HQ10 := Lib.hid ho10.at
          clear hs10 ho10 HS9 HA9 HR9 HY9
          go_wp2_with fail
          refine (sameInts_any _ _ (revW xs) (revW xs) _ HR10.out HQ10.out hr2 hr2).mono ?_
          rintro e w11 ⟨rfl, hs11⟩
          have HS11 := Lib.hid (HS10.out.trans hs11)
          have HA11 := Lib.hid (HA10.out.since hs11)
          have HR11 := Lib.hid (HR10.out.since hs11)
          have HY11 := Lib.hid (HY10.out.since hs11)
          have hx : decide (revW xs = revW xs) = true := by simp
          clear hs11 HS10 HA10 HR10 HY10 HQ10
          go_wp2_with fail
          refine (implRW_any _ (revW xs) _ HR11.out hr1).mono ?_
          rintro e w12 ⟨v12, rfl, ho12, hs12⟩
          have HS12 := Lib.hid (HS11.out.trans hs12)
          have HA12 := Lib.hid (HA11.out.since hs12)
          have HY12 := Lib.hid (HY11.out.since hs12)
          have HQ12 : Hid (IntsAt w12 v12 xs) := by have := ho12.at; rwa [revW_revW] at this
          clear hs12 ho12 HS11 HA11 HR11 HY11
          go_wp2_with fail
          refine (sameInts_any _ _ xs xs _ HQ12.out HA12.out hx2 hx2).mono ?_
          rintro e w13 ⟨rfl, hs13⟩
          have HS13 := Lib.hid (HS12.out.trans hs13)
          have HA13 := Lib.hid (HA12.out.since hs13)
          have HY13 := Lib.hid (HY12.out.since hs13)
          have hx3 : decide (xs = xs) = true := by simp
          clear hs13 HS12 HA12 HY12 HQ12
          cases hw : isWordB xs with
          | true =>
            have HL := Lib.hid ((HPW.out).2 hw)
            have hpb : pwB (fmtW xs) = true := (HPW.out).1.trans hw
            go_wp2_with fail
            refine (specIW_any _ xs _ HA13.out hx1).mono ?_
            rintro e w' ⟨rfl, rfl⟩
            have HY14 : Hid (IntsAt w13 v9 xs) := by have := HY13.out; rwa [HL.out] at this
            go_wp2_with fail
            refine (sameInts_any _ _ xs xs _ HY14.out HA13.out hx2 hx2).mono ?_
            rintro e w14 ⟨rfl, hs14⟩
            have HS14 := Lib.hid (HS13.out.trans hs14)
            clear hs14
            go_wp2_with fail
            go_ret
            exact ⟨ret_bool (by simp), HS14.out⟩
          | false =>
            have hpb : pwB (fmtW xs) = false := (HPW.out).1.trans hw
            go_wp2_with fail
            refine (specIW_any _ xs _ HA13.out hx1).mono ?_
            rintro e w' ⟨rfl, rfl⟩
            go_wp2_with fail
            go_ret
            exact ⟨ret_bool (by simp), HS13.out⟩
end Go.Proofs.YtfjlcmippnbhoaaDoor
