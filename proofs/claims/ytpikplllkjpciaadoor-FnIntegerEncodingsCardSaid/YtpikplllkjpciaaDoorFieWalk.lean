/- The law of the integer encodings, walked. -/
import Derived.Test.YtpikplllkjpciaaDoorFieBack
import Derived.Test.YtpikplllkjpciaaDoorDraw1
import Derived.Deep.DeepCutAuto
namespace Go.Proofs.YtpikplllkjpciaaDoor
open Go.ChangeShapes Go.WideShapes Go.ChangeAt Go.RowKit

theorem big_any (w : World) (ao : Option Addr) (len cap : Nat) (h : len ≤ 9223372036854775807) :
    Calls Tryd.prog 6 #[.slice ao len cap] w fun e w' => e = .returned (.bool (decide (1048576 < len))) ∧ w = w' := by
  go_enter Tryd.func6, Tryd.ntmps6
  go_wp2
  go_ret
  exact ⟨ret_bool (by rw [decide_eq_decide]; omega), rfl⟩
theorem cat (a b : List UInt8) : (⟨a.toArray⟩ : ByteArray) ++ ⟨b.toArray⟩ = ⟨(a ++ b).toArray⟩ := ByteArray.mk_append_mk a b

set_option maxHeartbeats 2000000 in
set_option maxRecDepth 100000 in
theorem fnIntegerEncodings_walk (v : Value) (w : World) (ht : Tab w) (hv : CodeAt w.heap.size w v) :
    Calls Tryd.prog 3 #[v] w fun e w' => e = .returned (.bool true) ∧ Since w w' := by
  obtain ⟨ao, len, cap, rfl, hlen, hcode⟩ := hv
  have HCODE := Lib.hid hcode
  clear hcode
  have HT := Lib.hid ht
  clear ht
  by_cases hbig : 1048576 < len
  · have hb : decide (1048576 < len) = true := by simp [hbig]
    have HB := Lib.hid hbig
    clear hbig
    go_enter Tryd.func3, Tryd.ntmps3
    go_wp2_with (go_at_call 6; refine (big_any _ _ _ _ hlen).mono ?_; rintro e w' ⟨rfl, rfl⟩)
    go_ret
    exact ⟨rfl, Since.refl _⟩
  · have hv0 : Hid (CodeIn w.heap.size w (.slice ao len cap)) := ⟨ao, len, cap, rfl, by omega, HCODE.out⟩
    have hb : decide (1048576 < len) = false := by simp; omega
    have HB := Lib.hid hbig
    clear hbig
    go_enter Tryd.func3, Tryd.ntmps3
    go_wp2_with (go_at_call 6; refine (big_any _ _ _ _ hlen).mono ?_; rintro e w' ⟨rfl, rfl⟩)
    refine (drawEV w.heap.size w _ (Nat.le_refl _) hv0.out).mono ?_
    rintro e w1 ⟨n, hn0, hn9, rfl, hs1⟩
    go_wp2_with fail
    refine (drawEH w.heap.size w1 _ hs1.lt (hv0.out.since hs1)).mono ?_
    rintro e w2 ⟨T, hT, rfl, hs2⟩
    have HS2 := Lib.hid (hs1.trans hs2)
    clear hs1 hs2
    go_wp2_with fail
    refine (implEV_any n w2).mono ?_
    rintro e w3 ⟨rfl, hs3⟩
    have HS3 := Lib.hid (HS2.out.trans hs3)
    clear hs3 HS2
    have hsz : (encV n).size ≤ 7 := by
      unfold encV; split
      · exact vbytes_le7 _ (by omega)
      · exact Nat.zero_le _
    go_wp2_with fail
    refine (implDV_any _ w3 (by rw [ByteArray.size_append, show (⟨T.toArray⟩ : ByteArray).size = T.length from rfl]; omega)).mono ?_
    rintro e w4 ⟨rfl, hs4⟩
    have HS4 := Lib.hid (HS3.out.trans hs4)
    clear hs4 HS3
    go_upto_region 7 with fail
    go_cut [57] (fun b wx => b = .bool false ∧ w4 = wx)
    case first =>
      by_cases hr : 0 ≤ n ∧ n ≤ 562949953421311
      · obtain ⟨hr0, hr9⟩ := hr
        obtain ⟨m, rfl⟩ := Int.eq_ofNat_of_zero_le hr0
        have hd := decV_back m (by omega) T
        have he : encV (m : Int) = ⟨(vbytes m).toArray⟩ := encV_in m (by omega)
        have hdl : (encV (m : Int)).data.toList = vbytes m := by rw [he]
        have hdz : (encV (m : Int)).size = (vbytes m).length := by rw [he]; rfl
        have d1 : (decV ((encV (m : Int)).data.toList ++ T)).1 = m := by rw [hdl, hd]
        have d2 : (decV ((encV (m : Int)).data.toList ++ T)).2 = (encV (m : Int)).size := by rw [hdl, hd, hdz]
        have e1 : (encV (m : Int)).toList.isEmpty = false := by rw [ByteArray.toList_eq, hdl]; simp [vbytes_ne]
        have e2 : ((encV (m : Int)).toList = []) = False := by rw [ByteArray.toList_eq, hdl]; simp [vbytes_ne]
        clear hd he hdl hdz
        go_wp2_with fail
        go_meet
        exact ⟨by simp, rfl⟩
      · have he : encV n = ⟨#[]⟩ := encV_out (by omega)
        have e1 : (encV n).toList.isEmpty = true := by rw [he]; simp
        have e2 : ((encV n).toList = []) = True := by rw [he]; simp
        by_cases hn : n < 0
        · clear he hr
          go_wp2_with fail
          go_meet
          exact ⟨by simp, rfl⟩
        · have hn2 : 562949953421311 < n := by omega
          have hn3 : 0 ≤ n := by omega
          clear he hr hn
          go_wp2_with fail
          go_meet
          exact ⟨by simp; omega, rfl⟩
    case rest =>
      obtain ⟨h57, hw4⟩ := hcut
      subst h57
      subst hw4
      go_wp2_with fail
      refine (drawEF w.heap.size w4 _ HS4.out.lt (hv0.out.since HS4.out)).mono ?_
      rintro e w5 ⟨x, y, hx0, hx9, hy0, hy9, rfl, hs5⟩
      have HS5 := Lib.hid (HS4.out.trans hs5)
      clear hs5 HS4
      go_wp2_with fail
      refine (implEF_gen x y w5 hx9).mono ?_
      rintro e w6 ⟨rfl, hs6⟩
      have HS6 := Lib.hid (HS5.out.trans hs6)
      clear hs6 HS5
      have hz7 := encF_size x y
      go_wp2_with fail
      refine (implDF_back x y T w6 hT).mono ?_
      rintro e w6' ⟨z, b, rfl, rfl, hback⟩
      have HBK := Lib.hid hback
      clear hback
      go_upto_region 12 with fail
      go_cut [99] (fun c wx => c = .bool false ∧ Since w wx)
      case first =>
        by_cases hE : (encF x y).toList = []
        · have e1 : (encF x y).toList.isEmpty = true := by rw [hE]; rfl
          have e2 : ((encF x y).toList = []) = True := by simp [hE]
          clear hE
          go_wp2_with (go_at_call 14; refine (specEF_gen x y _ hx9).mono ?_; rintro e w7 ⟨rfl, hs7⟩)
          go_meet
          exact ⟨by simp, HS6.out.trans hs7⟩
        · obtain ⟨rfl, rfl, hsz7⟩ := HBK.out hE
          have e1 : (encF z y).toList.isEmpty = false := by simpa using hE
          have e2 : ((encF z y).toList = []) = False := by simp [hE]
          clear hE
          go_wp2_with (go_at_call 14; refine (specEF_gen _ y _ hx9).mono ?_; rintro e w7 ⟨rfl, hs7⟩)
          go_meet
          exact ⟨by simp, HS6.out.trans hs7⟩
      case rest =>
        obtain ⟨h99, hsin⟩ := hcut
        subst h99
        have hlen2 := hexOf_length T
        go_wp2_with fail
        refine (implEH_T T wc hT).mono ?_
        rintro e w8 ⟨rfl, hs8⟩
        have HS8 := Lib.hid (hsin.trans hs8)
        clear hs8 hsin
        go_wp2_with fail
        refine (implDH_T T w8 hT).mono ?_
        rintro e w9 ⟨rfl, hs9⟩
        have HS9 := Lib.hid (HS8.out.trans hs9)
        clear hs9 HS8
        go_wp2_with fail
        refine (implFI_any x w9 hx0 hx9 (HT.out.since HS9.out)).mono ?_
        rintro e w10 ⟨rfl, hs10⟩
        have HS10 := Lib.hid (HS9.out.trans hs10)
        clear hs10 HS9
        go_wp2_with fail
        by_cases hsm : -1000000000 < x ∧ x < 1000000000
        · obtain ⟨h1, h2⟩ := hsm
          refine (implPI_yes x w10 h1 h2 (HT.out.since HS10.out)).mono ?_
          rintro e w11 ⟨rfl, hs11⟩
          have HS11 := Lib.hid (HS10.out.trans hs11)
          clear hs11 HS10
          go_wp2_with (go_at_call 19; refine (specFI_any x _ hx0 hx9).mono ?_; rintro e w12 ⟨rfl, hs12⟩)
          go_ret
          exact ⟨rfl, HS11.out.trans hs12⟩
        · refine (implPI_no x w10 hx0 hx9 hsm (HT.out.since HS10.out)).mono ?_
          rintro e w11 ⟨rfl, hs11⟩
          have HS11 := Lib.hid (HS10.out.trans hs11)
          clear hs11 HS10
          by_cases h1 : -1000000000 < x
          · have h2 : 1000000000 ≤ x := by omega
            clear hsm
            go_wp2_with (go_at_call 19; refine (specFI_any x _ hx0 hx9).mono ?_; rintro e w12 ⟨rfl, hs12⟩)
            go_ret
            exact ⟨ret_bool (by simp; omega), HS11.out.trans hs12⟩
          · clear hsm
            go_wp2_with (go_at_call 19; refine (specFI_any x _ hx0 hx9).mono ?_; rintro e w12 ⟨rfl, hs12⟩)
            go_ret
            exact ⟨rfl, HS11.out.trans hs12⟩
end Go.Proofs.YtpikplllkjpciaaDoor
