/- DeR, FdvWalk: small words and contracts that the other texts use. -/
import Derived.Test.YtiojgahjfndmdaaDoorL4
import Derived.Test.YtiojgahjfndmdaaDoorL0
import Derived.Test.YtiojgahjfndmdaaDoorL5
import Derived.Test.YtiojgahjfndmdaaDoorL7
import Derived.Test.YtiojgahjfndmdaaDoorL6
import Derived.Test.YtiojgahjfndmdaaDoorOpen
import Derived.Deep.DeepCutAuto
/- What the great law of derivatives wants, as plain data. -/
namespace Go.Proofs.YtiojgahjfndmdaaDoor
set_option maxRecDepth 100000
open Go.ChangeShapes Go.WideShapes Go.ChangeAt Go.RowKit
set_option linter.unusedVariables false
set_option linter.unusedSimpArgs false

theorem nul_mat {xs : List Tok} {W : List Int} (h : (derW xs W).2 = true) (hv : validXB xs = true) (hw : isWordB W = true) : nulX (derW xs W).1 = mtX xs W := by
  rw [mtX_of, hv, hw, Bool.true_and, Bool.true_and]
  exact mat_der (isP_iff.1 (valid_is hv).1) h
theorem der_out {xs : List Tok} {c : Int} (h : (derX xs c).2 = true) (hc : c ∉ alX xs) : alX (derX xs c).1 = [] ∧ nulX (derX xs c).1 = false := by
  cases ht : treeO xs with
  | none => rw [derX_none c ht] at h; cases h
  | some T =>
    by_cases hn : xs.length ≤ 400 ∧ inB c 0 8 = true ∧ (derT c T).length ≤ 400
    · rw [derX_in c ht hn]
      obtain ⟨hok, hp⟩ := treeO_some ht
      have hc8 : 0 ≤ c ∧ c < 9 := by
        have := hn.2.1
        unfold inB at this
        simp at this; omega
      have hno : ∀ t ∈ T.post, t.kd = 3 → t.lr ≠ c := by
        intro t htm h3 e
        apply hc
        unfold alX
        rw [if_pos (isXB_some ht), alT_mem]
        refine ⟨?_, hc8.1, hc8.2⟩
        unfold ltrs
        rw [hp]
        exact List.mem_map.2 ⟨t, List.mem_filter.2 ⟨htm, by simp [h3]⟩, e⟩
      rw [derT_none c hok hno]
      exact ⟨by decide, by decide⟩
    · rw [derX_out c ht hn] at h; cases h
theorem alX_in (xs : List Tok) : ∀ x ∈ alX xs, InI x := by
  intro x hx
  unfold alX at hx
  split at hx
  · exact alT_in _ (by omega) x hx
  · simp at hx
end Go.Proofs.YtiojgahjfndmdaaDoor

/- The great law of derivatives, walked. -/
namespace Go.Proofs.YtiojgahjfndmdaaDoor
set_option maxRecDepth 100000
open Go.ChangeShapes Go.WideShapes Go.ChangeAt Go.RowKit
set_option linter.unusedVariables false
set_option linter.unusedSimpArgs false

theorem codeIn_since {B : Nat} {w w' : World} {v : Value} (h : CodeIn B w v) (k : Since w w') : CodeIn B w' v := h.since k
set_option maxHeartbeats 16000000 in
set_option maxRecDepth 100000 in
theorem fnDerivatives_walk (v : Value) (w : World) (hfr : Forms w) (hv : CodeAt w.heap.size w v) :
    Calls Tryd.prog 4 #[v] w fun e w' => e = .returned (.bool true) ∧ Since w w' := by
  obtain ⟨ao0, len, cap, rfl, hlen, hcode⟩ := hv
  have HCODE := Lib.hid hcode
  have HFR := Lib.hid hfr
  clear hcode hfr
  by_cases hbig : 1048576 < len
  · have hb : decide (1048576 < len) = true := by simp [hbig]
    have HB := Lib.hid hbig
    clear hbig
    go_enter Tryd.func4, Tryd.ntmps4
    go_wp2_with (go_at_call 12; refine (big_any _ _ _ _ hlen).mono ?_; rintro e w' ⟨rfl, rfl⟩)
    go_ret
    exact ⟨rfl, Since.refl _⟩
  · have hv0 : CodeIn w.heap.size w (.slice ao0 len cap) := ⟨ao0, len, cap, rfl, by omega, HCODE.out⟩
    have HV := Lib.hid hv0
    have hb : decide (1048576 < len) = false := by simp; omega
    have HB := Lib.hid hbig
    clear hbig hv0
    go_enter Tryd.func4, Tryd.ntmps4
    go_wp2_with (go_at_call 12; refine (big_any _ _ _ _ hlen).mono ?_; rintro e w' ⟨rfl, rfl⟩)
    refine (drawMW_any w.heap.size w _ (Nat.le_refl _) HV.out).mono ?_
    rintro e w1 ⟨ve, u, xs, W, rfl, hx, hl, hu, hlW, hs1⟩
    clear hb HCODE HB hlen
    have hx1 : xs.length ≤ 1048577 := by omega
    have hW1 : W.length ≤ 1048577 := by omega
    have HIM : Hid (∀ V U Q, Since w Q → ExC Q V xs → IntsAt Q U W → Calls Tryd.prog 27 #[V, U] Q fun e w' => e = .returned (.bool (mtX xs W)) ∧ Since Q w') := fun V U Q hQ h k => implMW_any V U xs W Q (HFR.out.since hQ) h hx1 k hW1
    have HSM : Hid (∀ V U Q, Since w Q → ExC Q V xs → IntsAt Q U W → Calls Tryd.prog 28 #[V, U] Q fun e w' => e = .returned (.bool (mtX xs W)) ∧ Since Q w') := fun V U Q _ h k => specMW_any V U xs W Q h hx1 k hW1
    have HID : Hid (∀ V U Q, Since w Q → ExC Q V xs → IntsAt Q U W → Calls Tryd.prog 29 #[V, U] Q (XBOut Q (derW xs W).1 (derW xs W).2)) := fun V U Q hQ h k => implDW_any V U xs W Q (HFR.out.since hQ) h hx1 k hW1
    have HSD : Hid (∀ V U Q, Since w Q → ExC Q V xs → IntsAt Q U W → Calls Tryd.prog 30 #[V, U] Q (XBOut Q (derW xs W).1 (derW xs W).2)) := fun V U Q _ h k => specDW_any V U xs W Q h hx1 k hW1
    have HSV : Hid (∀ V Q, Since w Q → ExAt Q V xs → Calls Tryd.prog 21 #[V] Q fun e w' => e = .returned (.bool (validXB xs)) ∧ Since Q w') := fun V Q _ h => specVX_any V xs Q h hx1
    have HSW : Hid (∀ U Q, IntsAt Q U W → Calls Tryd.prog 26 #[U] Q fun e w' => e = .returned (.bool (isWordB W)) ∧ Q = w') := fun U Q h => specIW_any U W Q h hW1
    have hD := derW_len xs W
    have hDm : (derW xs W).1.length ≤ 1048577 := by omega
    have HIN : Hid (∀ V Q, Since w Q → ExC Q V (derW xs W).1 → Calls Tryd.prog 23 #[V] Q fun e w' => e = .returned (.bool (nulX (derW xs W).1)) ∧ Since Q w') := fun V Q hQ h => implNU_any V _ Q (HFR.out.since hQ) h hDm
    have HMATH : Hid ((derW xs W).2 = true → validXB xs = true → isWordB W = true → nulX (derW xs W).1 = mtX xs W) := nul_mat
    generalize nulX (derW xs W).1 = ND at HIN HMATH
    generalize (derW xs W).1 = D at HID HSD HIN hD hDm
    generalize (derW xs W).2 = FI at HID HSD HMATH
    generalize mtX xs W = IS at HIM HSM HMATH
    generalize validXB xs = VX at HSV HMATH
    generalize isWordB W = WB at HSW HMATH
    have hD9 : D.length ≤ 1152921504606846976 := by omega
    have dDD : decide (D = D) = true := by simp
    have eIS : (IS != IS) = false := by simp
    have eFI : (FI != FI) = false := by simp
    clear hD hDm
    obtain ⟨uo, uc, rfl⟩ := hu.len
    obtain ⟨un, hun⟩ : ∃ n, n = W.length := ⟨_, rfl⟩
    rw [← hun] at hu ⊢
    have HU := Lib.hid hu
    clear hun hu hx1 hW1
    obtain ⟨eo, ec, rfl, _, _⟩ := hx.open
    obtain ⟨en, hen⟩ : ∃ n, n = xs.length := ⟨_, rfl⟩
    rw [← hen] at hx ⊢
    have HX := Lib.hid hx
    clear hen hx
    have HVs := Lib.hid (codeIn_since HV.out hs1)
    clear HV
    obtain ⟨y1, hy1⟩ : ∃ y, y = w1.alloc (.cells #[.slice eo en ec] 26) := ⟨_, rfl⟩
    have ha2 : Since w1 y1 := by rw [hy1]; exact (Since.refl w1).alloc _
    have B3 : Hid (Blk y1 w1.heap.size 26 #[.slice eo en ec]) := by rw [hy1]; exact Blk.new rfl _ _
    have F4 := Lib.hid (exC_since HX.out ha2)
    clear HX
    have F5 := Lib.hid (HU.out.since ha2)
    clear HU
    have F6 := Lib.hid (HVs.out.since ha2)
    clear HVs
    have hs7 := hs1.trans ha2
    obtain ⟨p0, _⟩ := B3.out.one
    rw [hy1] at p0
    go_wp2_with fail
    rw [← hy1]
    clear hy1 p0
    refine (HIM.out _ _ _ hs7 F4.out F5.out).mono ?_
    rintro e w8 ⟨rfl, hq9⟩
    have F10 := Lib.hid (exC_since F4.out hq9)
    clear F4
    have F11 := Lib.hid (F5.out.since hq9)
    clear F5
    have F12 := Lib.hid (F6.out.since hq9)
    clear F6
    have F13 := Lib.hid (B3.out.since hq9)
    clear B3
    have hs14 := hs7.trans hq9
    obtain ⟨p0, _⟩ := F13.out.one
    go_wp2_with fail
    clear p0
    refine (HSM.out _ _ _ hs14 F10.out F11.out).mono ?_
    rintro e w15 ⟨rfl, hq16⟩
    have F17 := Lib.hid (exC_since F10.out hq16)
    clear F10
    have F18 := Lib.hid (F11.out.since hq16)
    clear F11
    have F19 := Lib.hid (F12.out.since hq16)
    clear F12
    have F20 := Lib.hid (F13.out.since hq16)
    clear F13
    have hs21 := hs14.trans hq16
    obtain ⟨p0, _⟩ := F20.out.one
    go_wp2_with fail
    clear p0
    refine (HID.out _ _ _ hs21 F17.out F18.out).mono ?_
    rintro e w22 ⟨vd, rfl, hod, hq23⟩
    have F24 := Lib.hid (exC_since F17.out hq23)
    clear F17
    have F25 := Lib.hid (F18.out.since hq23)
    clear F18
    have F26 := Lib.hid (F19.out.since hq23)
    clear F19
    have F27 := Lib.hid (F20.out.since hq23)
    clear F20
    have hs28 := hs21.trans hq23
    obtain ⟨dqs, rfl, dqk, _⟩ := hod
    obtain ⟨dqo, dqn, dqc, dqN, rfl⟩ := dqk.lenN
    have Hdq := Lib.hid (OwnX.mk dqk).atC
    clear dqk
    obtain ⟨y29, hy29⟩ : ∃ y, y = w22.alloc (.cells #[.slice dqo dqn dqc] 26) := ⟨_, rfl⟩
    have ha30 : Since w22 y29 := by rw [hy29]; exact (Since.refl w22).alloc _
    have B31 : Hid (Blk y29 w22.heap.size 26 #[.slice dqo dqn dqc]) := by rw [hy29]; exact Blk.new rfl _ _
    have F32 := Lib.hid (exC_since F24.out ha30)
    clear F24
    have F33 := Lib.hid (F25.out.since ha30)
    clear F25
    have F34 := Lib.hid (F26.out.since ha30)
    clear F26
    have F35 := Lib.hid (F27.out.since ha30)
    clear F27
    have F36 := Lib.hid (exC_since Hdq.out ha30)
    clear Hdq
    have hs37 := hs28.trans ha30
    obtain ⟨p0, _⟩ := F35.out.one
    rw [hy29] at p0
    go_wp2_with fail
    rw [← hy29]
    clear hy29 p0
    refine (HSD.out _ _ _ hs37 F32.out F33.out).mono ?_
    rintro e w38 ⟨vx, rfl, hox, hq39⟩
    have F40 := Lib.hid (exC_since F32.out hq39)
    clear F32
    have F41 := Lib.hid (F33.out.since hq39)
    clear F33
    have F42 := Lib.hid (F34.out.since hq39)
    clear F34
    have F43 := Lib.hid (F35.out.since hq39)
    clear F35
    have F44 := Lib.hid (exC_since F36.out hq39)
    clear F36
    have F45 := Lib.hid (B31.out.since hq39)
    clear B31
    have hs46 := hs37.trans hq39
    obtain ⟨xqs, rfl, xqk, _⟩ := hox
    obtain ⟨xqo, xqn, xqc, xqN, rfl⟩ := xqk.lenN
    have Hxq := Lib.hid (OwnX.mk xqk).atC
    clear xqk
    obtain ⟨y47, hy47⟩ : ∃ y, y = w38.alloc (.cells #[.slice xqo xqn xqc] 26) := ⟨_, rfl⟩
    have ha48 : Since w38 y47 := by rw [hy47]; exact (Since.refl w38).alloc _
    have B49 : Hid (Blk y47 w38.heap.size 26 #[.slice xqo xqn xqc]) := by rw [hy47]; exact Blk.new rfl _ _
    have F50 := Lib.hid (exC_since F40.out ha48)
    clear F40
    have F51 := Lib.hid (F41.out.since ha48)
    clear F41
    have F52 := Lib.hid (F42.out.since ha48)
    clear F42
    have F53 := Lib.hid (F43.out.since ha48)
    clear F43
    have F54 := Lib.hid (exC_since F44.out ha48)
    clear F44
    have F55 := Lib.hid (F45.out.since ha48)
    clear F45
    have F56 := Lib.hid (exC_since Hxq.out ha48)
    clear Hxq
    have hs57 := hs46.trans ha48
    obtain ⟨p0, _⟩ := F55.out.one
    obtain ⟨p1, _⟩ := B49.out.one
    rw [hy47] at p0 p1
    go_wp2_with fail
    rw [← hy47]
    clear hy47 p0 p1
    refine (specEE_any _ _ D D _ F54.out.1 F56.out.1 hD9 hD9).mono ?_
    rintro e w58 ⟨rfl, hq59⟩
    have F60 := Lib.hid (exC_since F50.out hq59)
    clear F50
    have F61 := Lib.hid (F51.out.since hq59)
    clear F51
    have F62 := Lib.hid (F52.out.since hq59)
    clear F52
    have F63 := Lib.hid (F53.out.since hq59)
    clear F53
    have F64 := Lib.hid (exC_since F54.out hq59)
    clear F54
    have F65 := Lib.hid (F55.out.since hq59)
    clear F55
    have F66 := Lib.hid (exC_since F56.out hq59)
    clear F56
    have F67 := Lib.hid (B49.out.since hq59)
    clear B49
    have hs68 := hs57.trans hq59
    clear eIS eFI
    have HSB := Lib.hid hs68
    obtain ⟨wA, hwA⟩ : ∃ wA, wA = w58 := ⟨_, rfl⟩
    have HEQ := Lib.hid hwA
    clear hwA
    obtain ⟨b0, _⟩ := F63.out.one
    obtain ⟨b1, _⟩ := F65.out.one
    go_upto_region 11 with fail
    go_cut [66] (fun b wx => b = .bool false ∧ Hid (Since w58 wx))
    case first =>
      cases FI with
      | false =>
        go_wp2_with fail
        go_meet
        exact ⟨by simp, Since.refl _⟩
      | true =>
        go_wp2_with fail
        refine (HSV.out _ _ hs68 F60.out.1).mono ?_
        rintro e w30 ⟨rfl, hs30⟩
        obtain ⟨b2, _⟩ := (F65.out.since hs30).one
        cases VX with
        | false =>
          have h30 := Lib.hid hs30
          go_wp2_with fail
          go_meet
          exact ⟨by simp, h30.out⟩
        | true =>
          go_wp2_with fail
          refine (HSW.out _ _ (F61.out.since hs30)).mono ?_
          rintro e w31 ⟨rfl, rfl⟩
          cases WB with
          | false =>
            have h30 := Lib.hid hs30
            go_wp2_with fail
            go_meet
            exact ⟨by simp, h30.out⟩
          | true =>
            go_wp2_with fail
            refine (HIN.out _ _ (hs68.trans hs30) (exC_since F64.out hs30)).mono ?_
            rintro e w32 ⟨rfl, hs32⟩
            have hND : ND = IS := by first | exact HMATH.out trivial trivial trivial | exact HMATH.out rfl rfl rfl
            have HND : Hid ((ND != IS) = false) := by unfold Hid; rw [hND]; simp
            have hnd := HND.out
            have HNI := Lib.hid hND
            clear hND
            have h30 := Lib.hid (hs30.trans hs32)
            go_wp2_with fail
            go_meet
            exact ⟨by simp [HNI.out], h30.out⟩
    case rest =>
      obtain ⟨h66, hw8⟩ := hcut
      subst h66
      have hw8 := hw8.out
      clear F60
      clear F61
      clear F63
      clear F65
      clear F67
      clear F64
      clear F66
      clear b0 b1 HEQ HSB HIM HSM HID HSD HSV HSW HIN HMATH dDD hD9
      have F69 := Lib.hid (F62.out.since hw8)
      clear F62
      have hs70 := hs68.trans hw8
      go_wp2_with fail
      refine (drawDV_any w.heap.size _ _ hs70.size F69.out).mono ?_
      rintro e w71 ⟨vf, ys, c, rfl, hf, hlf, hc9, hq72⟩
      have F73 := Lib.hid (F69.out.since hq72)
      clear F69
      have hs74 := hs70.trans hq72
      clear F73
      have hf1 : ys.length ≤ 1048577 := by omega
      have HID : Hid (∀ V Q, Since w Q → ExC Q V ys → Calls Tryd.prog 32 #[V, .int .i64 c] Q (XBOut Q (derX ys c).1 (derX ys c).2)) := fun V Q hQ h => implDV_any V ys c Q (HFR.out.since hQ) h hf1
      have HSD : Hid (∀ V Q, Since w Q → ExC Q V ys → Calls Tryd.prog 33 #[V, .int .i64 c] Q (XBOut Q (derX ys c).1 (derX ys c).2)) := fun V Q _ h => specDV_any V ys c Q h hf1
      have hD := derX_len ys c
      have hDm : (derX ys c).1.length ≤ 1048577 := by omega
      have HAL : Hid (∀ V Q, Since w Q → ExC Q V ys → Calls Tryd.prog 35 #[V] Q (OwnOut Q (alX ys))) := fun V Q hQ h => implAL_any V ys Q (HFR.out.since hQ) h.1 hf1
      have HAD : Hid (∀ V Q, Since w Q → ExC Q V (derX ys c).1 → Calls Tryd.prog 35 #[V] Q (OwnOut Q (alX (derX ys c).1))) := fun V Q hQ h => implAL_any V _ Q (HFR.out.since hQ) h.1 hDm
      have HIN : Hid (∀ V Q, Since w Q → ExC Q V (derX ys c).1 → Calls Tryd.prog 23 #[V] Q fun e w' => e = .returned (.bool (nulX (derX ys c).1)) ∧ Since Q w') := fun V Q hQ h => implNU_any V _ Q (HFR.out.since hQ) h hDm
      have HMATH : Hid ((derX ys c).2 = true → c ∉ alX ys → alX (derX ys c).1 = [] ∧ nulX (derX ys c).1 = false) := der_out
      have hal : (alX ys).length ≤ 9 := alX_len ys
      generalize nulX (derX ys c).1 = ND at HIN HMATH
      generalize alX (derX ys c).1 = AD at HAD HMATH
      generalize (derX ys c).1 = D at HID HSD HIN HAD HMATH hD hDm
      generalize (derX ys c).2 = FI at HID HSD HMATH
      generalize alX ys = AY at HAL HMATH hal
      have hD9 : D.length ≤ 1152921504606846976 := by omega
      have dDD : decide (D = D) = true := by simp
      have eFI : (FI != FI) = false := by simp
      obtain ⟨fo, fc, rfl, _, _⟩ := hf.open
      obtain ⟨fn, hfn⟩ : ∃ n, n = ys.length := ⟨_, rfl⟩
      rw [← hfn] at hf ⊢
      have HX := Lib.hid hf
      clear hD hDm hfn hf hf1 hlf
      obtain ⟨y75, hy75⟩ : ∃ y, y = w71.alloc (.cells #[.slice fo fn fc] 26) := ⟨_, rfl⟩
      have ha76 : Since w71 y75 := by rw [hy75]; exact (Since.refl w71).alloc _
      have B77 : Hid (Blk y75 w71.heap.size 26 #[.slice fo fn fc]) := by rw [hy75]; exact Blk.new rfl _ _
      have F78 := Lib.hid (exC_since HX.out ha76)
      clear HX
      have hs79 := hs74.trans ha76
      obtain ⟨p0, _⟩ := B77.out.one
      rw [hy75] at p0
      go_wp2_with fail
      rw [← hy75]
      clear hy75 p0
      refine (HID.out _ _ hs79 F78.out).mono ?_
      rintro e w80 ⟨vy, rfl, hoy, hq81⟩
      have F82 := Lib.hid (exC_since F78.out hq81)
      clear F78
      have F83 := Lib.hid (B77.out.since hq81)
      clear B77
      have hs84 := hs79.trans hq81
      obtain ⟨yqs, rfl, yqk, _⟩ := hoy
      obtain ⟨yqo, yqn, yqc, yqN, rfl⟩ := yqk.lenN
      have Hyq := Lib.hid (OwnX.mk yqk).atC
      clear yqk
      obtain ⟨y85, hy85⟩ : ∃ y, y = w80.alloc (.cells #[.slice yqo yqn yqc] 26) := ⟨_, rfl⟩
      have ha86 : Since w80 y85 := by rw [hy85]; exact (Since.refl w80).alloc _
      have B87 : Hid (Blk y85 w80.heap.size 26 #[.slice yqo yqn yqc]) := by rw [hy85]; exact Blk.new rfl _ _
      have F88 := Lib.hid (exC_since F82.out ha86)
      clear F82
      have F89 := Lib.hid (F83.out.since ha86)
      clear F83
      have F90 := Lib.hid (exC_since Hyq.out ha86)
      clear Hyq
      have hs91 := hs84.trans ha86
      obtain ⟨p0, _⟩ := F89.out.one
      rw [hy85] at p0
      go_wp2_with fail
      rw [← hy85]
      clear hy85 p0
      refine (HSD.out _ _ hs91 F88.out).mono ?_
      rintro e w92 ⟨vz, rfl, hoz, hq93⟩
      have F94 := Lib.hid (exC_since F88.out hq93)
      clear F88
      have F95 := Lib.hid (F89.out.since hq93)
      clear F89
      have F96 := Lib.hid (exC_since F90.out hq93)
      clear F90
      have F97 := Lib.hid (B87.out.since hq93)
      clear B87
      have hs98 := hs91.trans hq93
      obtain ⟨zqs, rfl, zqk, _⟩ := hoz
      obtain ⟨zqo, zqn, zqc, zqN, rfl⟩ := zqk.lenN
      have Hzq := Lib.hid (OwnX.mk zqk).atC
      clear zqk
      obtain ⟨y99, hy99⟩ : ∃ y, y = w92.alloc (.cells #[.slice zqo zqn zqc] 26) := ⟨_, rfl⟩
      have ha100 : Since w92 y99 := by rw [hy99]; exact (Since.refl w92).alloc _
      have B101 : Hid (Blk y99 w92.heap.size 26 #[.slice zqo zqn zqc]) := by rw [hy99]; exact Blk.new rfl _ _
      have F102 := Lib.hid (exC_since F94.out ha100)
      clear F94
      have F103 := Lib.hid (F95.out.since ha100)
      clear F95
      have F104 := Lib.hid (exC_since F96.out ha100)
      clear F96
      have F105 := Lib.hid (F97.out.since ha100)
      clear F97
      have F106 := Lib.hid (exC_since Hzq.out ha100)
      clear Hzq
      have hs107 := hs98.trans ha100
      obtain ⟨p0, _⟩ := F105.out.one
      obtain ⟨p1, _⟩ := B101.out.one
      rw [hy99] at p0 p1
      go_wp2_with fail
      rw [← hy99]
      clear hy99 p0 p1
      refine (specEE_any _ _ D D _ F104.out.1 F106.out.1 hD9 hD9).mono ?_
      rintro e w108 ⟨rfl, hq109⟩
      have F110 := Lib.hid (exC_since F102.out hq109)
      clear F102
      have F111 := Lib.hid (F103.out.since hq109)
      clear F103
      have F112 := Lib.hid (exC_since F104.out hq109)
      clear F104
      have F113 := Lib.hid (F105.out.since hq109)
      clear F105
      have F114 := Lib.hid (exC_since F106.out hq109)
      clear F106
      have F115 := Lib.hid (B101.out.since hq109)
      clear B101
      have hs116 := hs107.trans hq109
      clear eFI dDD
      obtain ⟨b0, _⟩ := F111.out.one
      obtain ⟨b1, _⟩ := F113.out.one
      cases FI with
      | false =>
        go_wp2_with fail
        go_ret
        exact ⟨rfl, hs116⟩
      | true =>
        go_wp2_with fail
        refine (HAL.out _ _ hs116 F110.out).mono ?_
        rintro e w40 ⟨va, rfl, hoa, hs40⟩
        go_wp2_with fail
        refine (hasI_any va AY c _ hoa.at (by omega)).mono ?_
        rintro e w41 ⟨rfl, rfl⟩
        by_cases hin : c ∈ AY
        · have hd : decide (c ∈ AY) = true := decide_eq_true hin
          have h40 := Lib.hid (hs116.trans hs40)
          go_wp2_with fail
          go_ret
          exact ⟨by simp [hin], h40.out⟩
        · have hd : decide (c ∈ AY) = false := decide_eq_false hin
          obtain ⟨rfl, rfl⟩ : AD = [] ∧ ND = false := by first | exact HMATH.out trivial hin | exact HMATH.out rfl hin
          have h40 := Lib.hid (hs116.trans hs40)
          have HB1 := Lib.hid (F113.out.since hs40)
          obtain ⟨b2, _⟩ := HB1.out.one
          go_wp2_with fail
          refine (HAD.out _ _ h40.out (exC_since F112.out hs40)).mono ?_
          rintro e w42 ⟨vb, rfl, hob, hs42⟩
          have h42 := Lib.hid (h40.out.trans hs42)
          have HB2 := Lib.hid (HB1.out.since hs42)
          obtain ⟨b3, _⟩ := HB2.out.one
          go_wp2_with fail
          have hal0 : Since w42 (w42.alloc (.cells #[] 3)) := (Since.refl w42).alloc _
          refine (sameInts_any vb _ [] [] _ (hob.at.since hal0) ⟨by simp, .inl ⟨rfl, _, _, rfl⟩⟩ (by simp) (by simp)).mono ?_
          rintro e w43 ⟨rfl, hs43'⟩
          have hs43 := hal0.trans hs43'
          have h43 := Lib.hid (h42.out.trans hs43)
          have HB3 := Lib.hid (HB2.out.since hs43)
          have HY3 := Lib.hid (exC_since (exC_since (exC_since F112.out hs40) hs42) hs43)
          obtain ⟨b4, _⟩ := HB3.out.one
          go_wp2_with fail
          refine (HIN.out _ _ h43.out HY3.out).mono ?_
          rintro e w44 ⟨rfl, hs44⟩
          have h44 := Lib.hid (h43.out.trans hs44)
          go_wp2_with fail
          go_ret
          exact ⟨by simp, h44.out⟩
end Go.Proofs.YtiojgahjfndmdaaDoor
