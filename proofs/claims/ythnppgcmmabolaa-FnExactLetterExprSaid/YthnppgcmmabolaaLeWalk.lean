/- The law of LetterExpr, walked. -/
import Derived.Test.YthnppgcmmabolaaTokL
import Derived.Test.YthnppgcmmabolaaOpenX
import Derived.Test.YthnppgcmmabolaaXf
import Derived.Test.YthnppgcmmabolaaK1
namespace Go.Proofs.Ythnppgcmmabolaa
set_option maxRecDepth 100000
open Go.ChangeShapes Go.WideShapes Go.ChangeAt Go.RowKit
set_option linter.unusedVariables false
set_option linter.unusedSimpArgs false

set_option maxHeartbeats 4000000 in
set_option maxRecDepth 100000 in
theorem fnExactLetterExpr_walk (b : Int)  (hwb : (Lit.int .i64 b).wf = true) (w : World) :
    Calls Try.prog 3 #[.int .i64 b] w fun e w' => e = .returned (.bool true) ∧ Since w w' := by
  obtain ⟨y0, hy0⟩ : ∃ y, y = w := ⟨_, rfl⟩
  have hs0 : Since w y0 := by rw [hy0]; exact Since.refl w
  have HS : Hid (∀  W, Calls Try.prog 9 #[.int .i64 b] W ((XOut W (([⟨3, b, 0, 0⟩] : List Tok))))) := fun  W  => specLE_any b W (wf_i64 hwb)
  have HI : Hid (∀  W, Calls Try.prog 10 #[.int .i64 b] W ((XOut W (([⟨3, b, 0, 0⟩] : List Tok))))) := fun  W  => implLE_any b W (wf_i64 hwb)
  have q0 : (([⟨3, b, 0, 0⟩] : List Tok)).length ≤ 2097160 := (by simp)
  generalize ([⟨3, b, 0, 0⟩] : List Tok) = R at HS HI q0
  have qe0 : R.length ≤ 1152921504606846976 := by omega
  have qm0 : R.length ≤ 288230376151711744 := by omega
  have dRR : decide (R = R) = true := by simp
  obtain ⟨kr, hkr⟩ : ∃ kr : Int, kr = 1 + 4 * (R.length : Int) := ⟨_, rfl⟩
  have dkr : decide (kr < 0) = false := by simp; omega
  have ekr : (kr != kr) = false := by simp
  have HKR := Lib.hid hkr
  clear hkr
  go_enter Try.func3, Try.ntmps3
  go_wp2_with fail
  subst hy0
  refine (HS.out _).mono ?_
  rintro e w1 ⟨vs3, rfl, ho3, hq2⟩
  have SR := Lib.hid ho3
  obtain ⟨ws, rfl, wk, _⟩ := ho3
  obtain ⟨wso, wsc, rfl⟩ := wk.len
  clear wk
  have hs3 := hs0.trans hq2
  have zhs3 := hq2.size
  obtain ⟨y4, hy4⟩ : ∃ y, y = w1.alloc (.cells #[.slice wso R.length wsc] 24) := ⟨_, rfl⟩
  have ha5 : Since w1 y4 := by rw [hy4]; exact (Since.refl w1).alloc _
  have zby4 : w1.heap.size + 1 = y4.heap.size := by rw [hy4]; simp
  have SB6 : Hid (Blk y4 w1.heap.size 24 #[.slice wso R.length wsc]) := by rw [hy4]; exact Blk.new rfl _ _
  have F7 := Lib.hid (SR.out.since ha5)
  clear SR
  have hs8 := hs3.trans ha5
  have zhs8 := ha5.size
  go_wp2_with fail
  rw [← hy4]
  clear hy4 
  refine (HI.out  _ ).mono ?_
  rintro e w9 ⟨vg5, rfl, ho5, hq10⟩
  have GO := Lib.hid ho5
  obtain ⟨gs, rfl, gk, _⟩ := ho5
  obtain ⟨gso, gsc, rfl⟩ := gk.len
  clear gk
  have F11 := Lib.hid (F7.out.since hq10)
  clear F7
  have F12 := Lib.hid (SB6.out.since hq10)
  clear SB6
  have hs13 := hs8.trans hq10
  have zhs13 := hq10.size
  obtain ⟨y14, hy14⟩ : ∃ y, y = w9.alloc (.cells #[.slice gso R.length gsc] 24) := ⟨_, rfl⟩
  have ha15 : Since w9 y14 := by rw [hy14]; exact (Since.refl w9).alloc _
  have zby14 : w9.heap.size + 1 = y14.heap.size := by rw [hy14]; simp
  have SB16 : Hid (Blk y14 w9.heap.size 24 #[.slice gso R.length gsc]) := by rw [hy14]; exact Blk.new rfl _ _
  have F17 := Lib.hid (F11.out.since ha15)
  clear F11
  have F18 := Lib.hid (F12.out.since ha15)
  clear F12
  have F19 := Lib.hid (GO.out.since ha15)
  clear GO
  have hs20 := hs13.trans ha15
  have zhs20 := ha15.size
  obtain ⟨p0, _⟩ := F18.out.one
  obtain ⟨r0, _⟩ := SB16.out.one
  rw [hy14] at p0 r0
  go_wp2_with fail
  rw [← hy14]
  clear hy14 p0 r0
  refine (eqExpr_any _ _ R R _ F19.out.at F17.out.at qe0 qe0).mono ?_
  rintro e w21 ⟨rfl, hq22⟩
  have F23 := Lib.hid (F17.out.since hq22)
  clear F17
  have F24 := Lib.hid (F18.out.since hq22)
  clear F18
  have F25 := Lib.hid (F19.out.since hq22)
  clear F19
  have F26 := Lib.hid (SB16.out.since hq22)
  clear SB16
  have hs27 := hs20.trans hq22
  have zhs27 := hq22.size
  obtain ⟨r0, _⟩ := F26.out.one
  go_wp2_with fail
  clear r0
  refine (markExpr_any _ _ _ R 1 _ F25.out (by decide) (by decide) qm0).mono ?_
  rintro e w28 ⟨rfl, hmg, hw29⟩
  rw [← HKR.out]
  have HM := Lib.hid hmg
  clear hmg
  clear F25
  have F30 := Lib.hid (F23.out.within hw29 (by omega))
  clear F23
  have F31 := Lib.hid (F24.out.within hw29 (by omega))
  clear F24
  have F32 := Lib.hid (F26.out.within hw29 (by omega))
  clear F26
  have hs33 := hs27.within (by omega) hw29
  have zhs33 := hw29.size
  obtain ⟨r0, _⟩ := F32.out.one
  go_wp2_with fail
  clear r0
  refine (heldExpr_any _ R 1 _ HM.out.at (by decide) (by decide) qm0).mono ?_
  rintro e w34 ⟨rfl, hq35⟩
  rw [← HKR.out]
  have F36 := Lib.hid (F30.out.since hq35)
  clear F30
  have F37 := Lib.hid (F31.out.since hq35)
  clear F31
  have F38 := Lib.hid (F32.out.since hq35)
  clear F32
  have F39 := Lib.hid (HM.out.since hq35)
  clear HM
  have hs40 := hs33.trans hq35
  have zhs40 := hq35.size
  go_wp2_with fail
  refine (HI.out _).mono ?_
  rintro e w41 ⟨vs4, rfl, ho3, hq42⟩
  have HOO := Lib.hid ho3
  obtain ⟨hs, rfl, hk, _⟩ := ho3
  obtain ⟨hso, hsc, rfl⟩ := hk.len
  clear hk
  have F43 := Lib.hid (F36.out.since hq42)
  clear F36
  have F44 := Lib.hid (F37.out.since hq42)
  clear F37
  have F45 := Lib.hid (F38.out.since hq42)
  clear F38
  have F46 := Lib.hid (F39.out.since hq42)
  clear F39
  have hs47 := hs40.trans hq42
  have zhs47 := hq42.size
  obtain ⟨y48, hy48⟩ : ∃ y, y = w41.alloc (.cells #[.slice hso R.length hsc] 24) := ⟨_, rfl⟩
  have ha49 : Since w41 y48 := by rw [hy48]; exact (Since.refl w41).alloc _
  have zby48 : w41.heap.size + 1 = y48.heap.size := by rw [hy48]; simp
  have SB50 : Hid (Blk y48 w41.heap.size 24 #[.slice hso R.length hsc]) := by rw [hy48]; exact Blk.new rfl _ _
  have F51 := Lib.hid (F43.out.since ha49)
  clear F43
  have F52 := Lib.hid (F44.out.since ha49)
  clear F44
  have F53 := Lib.hid (F45.out.since ha49)
  clear F45
  have F54 := Lib.hid (F46.out.since ha49)
  clear F46
  have F55 := Lib.hid (HOO.out.since ha49)
  clear HOO
  have hs56 := hs47.trans ha49
  have zhs56 := ha49.size
  obtain ⟨p0, _⟩ := F52.out.one
  obtain ⟨r0, _⟩ := SB50.out.one
  rw [hy48] at p0 r0
  go_wp2_with fail
  rw [← hy48]
  clear hy48 p0 r0
  refine (eqExpr_any _ _ R R _ F55.out.at F51.out.at qe0 qe0).mono ?_
  rintro e w57 ⟨rfl, hq58⟩
  have F59 := Lib.hid (F51.out.since hq58)
  clear F51
  have F60 := Lib.hid (F52.out.since hq58)
  clear F52
  have F61 := Lib.hid (F53.out.since hq58)
  clear F53
  have F62 := Lib.hid (F54.out.since hq58)
  clear F54
  have F63 := Lib.hid (F55.out.since hq58)
  clear F55
  have F64 := Lib.hid (SB50.out.since hq58)
  clear SB50
  have hs65 := hs56.trans hq58
  have zhs65 := hq58.size
  clear F59
  clear F63
  clear F60
  clear F64
  obtain ⟨r0, _⟩ := F61.out.one
  go_wp2_with fail
  clear r0
  refine (heldExpr_any _ R 1 _ F62.out.at (by decide) (by decide) qm0).mono ?_
  rintro e w66 ⟨rfl, hq67⟩
  rw [← HKR.out]
  have F68 := Lib.hid (F61.out.since hq67)
  clear F61
  have F69 := Lib.hid (F62.out.since hq67)
  clear F62
  have hs70 := hs65.trans hq67
  have zhs70 := hq67.size
  go_wp2
  go_ret
  exact ⟨rfl, hs70⟩
end Go.Proofs.Ythnppgcmmabolaa
