/- The law of ParseExpr, walked. -/
import Derived.Test.YthnppgcmmabolaaDoorPxI
import Derived.Test.YthnppgcmmabolaaDoorPxP
import Derived.Test.YthnppgcmmabolaaDoorTokL
import Derived.Test.YthnppgcmmabolaaDoorOpenX
namespace Go.Proofs.YthnppgcmmabolaaDoor
set_option maxRecDepth 100000
open Go.ChangeShapes Go.WideShapes Go.ChangeAt Go.RowKit
set_option linter.unusedVariables false
set_option linter.unusedSimpArgs false

set_option maxHeartbeats 4000000 in
set_option maxRecDepth 100000 in
theorem fnExactParseExpr_walk (s : ByteArray) (hs : s.size ≤ maxLen) (w : World) (ht : Tab w) (hf : Fmts w) (hm : MaxX w) (hr : Forms w) :
    Calls Tryd.prog 8 #[.string s] w fun en w' => en = .returned (.bool true) ∧ Since w w' := by
  unfold maxLen at hs
  by_cases hbig : 1048576 < s.size
  · clear ht hf hm hr
    go_enter Tryd.func8, Tryd.ntmps8
    go_wp2
    go_ret
    exact ⟨rfl, Since.refl _⟩
  · have hsm : s.size ≤ 1048576 := by omega
    have HS : Hid (∀ W, Calls Tryd.prog 24 #[.string s] W (XBOut W (pxA s) (pxB s))) := fun W => specPX_any s W hsm
    have HI : Hid (∀ W, Since w W → Calls Tryd.prog 25 #[.string s] W (XBOut W (pxA s) (pxB s))) := fun W hW => implPX_any s W hsm (ht.since hW) (hm.since hW) (hf.since hW) (hr.since hW)
    have q1 := pxA_len s
    clear ht hf hm hr
    generalize pxA s = R at HS HI q1
    generalize pxB s = C at HS HI
    have q3 : R.length ≤ 1152921504606846976 := by omega
    have q5 : R.length ≤ 288230376151711744 := by omega
    obtain ⟨kr, hkr⟩ : ∃ kr : Int, kr = 1 + 4 * (R.length : Int) := ⟨_, rfl⟩
    have dkr : decide (kr < 0) = false := by simp; omega
    have ekr : (kr != kr) = false := by simp
    have HKR := Lib.hid hkr
    have dRR : decide (R = R) = true := by simp
    have eCC : (C != C) = false := by simp
    clear hkr
    go_enter Tryd.func8, Tryd.ntmps8
    go_wp2_with fail
    refine (HS.out _).mono ?_
    rintro e w3 ⟨v3, rfl, ho3, hs3⟩
    have SW := Lib.hid ho3
    obtain ⟨wa, rfl, ka, _⟩ := ho3
    obtain ⟨wao, wac, rfl⟩ := ka.len
    clear ka
    have z3 := hs3.size
    have SB : Hid (Blk (w3.alloc (.cells #[.slice wao R.length wac] 29)) w3.heap.size 29 #[.slice wao R.length wac]) := Blk.new rfl _ _
    have hs03 := hs3.alloc (.cells #[.slice wao R.length wac] 29)
    have SW' := Lib.hid (SW.out.since ((Since.refl w3).alloc (.cells #[.slice wao R.length wac] 29)))
    have y3z : Hid (w3.heap.size + 1 = (w3.alloc (.cells #[.slice wao R.length wac] 29)).heap.size) := by unfold Hid; simp
    clear hs3 SW
    go_wp2_with fail
    generalize (w3.alloc (.cells #[.slice wao R.length wac] 29)) = y3 at hs03 SW' SB y3z ⊢
    have c0 : w3.heap.size < y3.heap.size := by have := y3z.out; omega
    clear y3z
    refine (HI.out _ hs03).mono ?_
    rintro e w5 ⟨v5, rfl, ho5, hs5⟩
    have GO := Lib.hid ho5
    obtain ⟨ga, rfl, ka, _⟩ := ho5
    obtain ⟨gao, gac, rfl⟩ := ka.len
    clear ka
    have z5 := hs5.size
    have hs05 := (hs03.trans hs5).alloc (.cells #[.slice gao R.length gac] 29)
    have hs5' := hs5.alloc (.cells #[.slice gao R.length gac] 29)
    have SB5 := Lib.hid (SB.out.since hs5')
    have SW5 := Lib.hid (SW'.out.since hs5')
    have GO5 := Lib.hid (GO.out.since ((Since.refl w5).alloc (.cells #[.slice gao R.length gac] 29)))
    have GB5 : Hid (Blk (w5.alloc (.cells #[.slice gao R.length gac] 29)) w5.heap.size 29 #[.slice gao R.length gac]) := Blk.new rfl _ _
    have y5z : Hid (w5.heap.size + 1 = (w5.alloc (.cells #[.slice gao R.length gac] 29)).heap.size) := by unfold Hid; simp
    clear SB SW' GO hs03 hs5 hs5'
    obtain ⟨p0, p1⟩ := SB5.out.one
    obtain ⟨r0, r1⟩ := GB5.out.one
    go_wp2_with fail
    clear p0 p1 r0 r1
    generalize (w5.alloc (.cells #[.slice gao R.length gac] 29)) = y5 at hs05 SB5 SW5 GO5 GB5 y5z ⊢
    have c3 : w5.heap.size < y5.heap.size := by have := y5z.out; omega
    clear y5z
    refine (eqExpr_any _ _ R R _ GO5.out.at SW5.out.at q3 q3).mono ?_
    rintro e w6 ⟨rfl, hs6⟩
    have hs06 := hs05.trans hs6
    have SB6 := Lib.hid (SB5.out.since hs6)
    have SW6 := Lib.hid (SW5.out.since hs6)
    have GO6 := Lib.hid (GO5.out.since hs6)
    have GB6 := Lib.hid (GB5.out.since hs6)
    have z6 := hs6.size
    clear SB5 SW5 GO5 GB5 hs05 hs6
    obtain ⟨r0, r1⟩ := GB6.out.one
    go_wp2_with fail
    clear r0 r1
    refine (markExpr_any _ _ _ R 1 _ GO6.out (by decide) (by decide) q5).mono ?_
    rintro e w8 ⟨rfl, hmg, hs8⟩
    rw [← HKR.out]
    have HM := Lib.hid hmg
    have hs08 := hs06.within (by omega) hs8
    have SB8 := Lib.hid (SB6.out.within hs8 (by omega))
    have SW8 := Lib.hid (SW6.out.within hs8 (by omega))
    have GB8 := Lib.hid (GB6.out.within hs8 (by omega))
    have z8 := hs8.size
    clear SB6 SW6 GO6 GB6 hs06 hs8 hmg
    obtain ⟨r0, r1⟩ := GB8.out.one
    go_wp2_with fail
    clear r0 r1
    refine (heldExpr_any _ R 1 _ HM.out.at (by decide) (by decide) q5).mono ?_
    rintro e w9 ⟨rfl, hs9⟩
    rw [← HKR.out]
    have hs09 := hs08.trans hs9
    have SB9 := Lib.hid (SB8.out.since hs9)
    have SW9 := Lib.hid (SW8.out.since hs9)
    have GB9 := Lib.hid (GB8.out.since hs9)
    have HM9 := Lib.hid (HM.out.since hs9)
    clear SB8 SW8 GB8 HM hs08 hs9
    go_wp2_with fail
    refine (HI.out _ hs09).mono ?_
    rintro e w10 ⟨v10, rfl, ho10, hs10⟩
    have HO := Lib.hid ho10
    obtain ⟨ha, rfl, ka, _⟩ := ho10
    obtain ⟨hao, hac, rfl⟩ := ka.len
    clear ka
    have hs010 := (hs09.trans hs10).alloc (.cells #[.slice hao R.length hac] 29)
    have hs10' := hs10.alloc (.cells #[.slice hao R.length hac] 29)
    have SB10 := Lib.hid (SB9.out.since hs10')
    have SW10 := Lib.hid (SW9.out.since hs10')
    have GB10 := Lib.hid (GB9.out.since hs10')
    have HM10 := Lib.hid (HM9.out.since hs10')
    have HO10 := Lib.hid (HO.out.since ((Since.refl w10).alloc (.cells #[.slice hao R.length hac] 29)))
    have HB10 : Hid (Blk (w10.alloc (.cells #[.slice hao R.length hac] 29)) w10.heap.size 29 #[.slice hao R.length hac]) := Blk.new rfl _ _
    clear SB9 SW9 GB9 HM9 HO hs09 hs10 hs10'
    obtain ⟨p0, p1⟩ := SB10.out.one
    obtain ⟨r0, r1⟩ := HB10.out.one
    go_wp2_with fail
    clear p0 p1 r0 r1
    refine (eqExpr_any _ _ R R _ HO10.out.at SW10.out.at q3 q3).mono ?_
    rintro e w11 ⟨rfl, hs11⟩
    have hs011 := hs010.trans hs11
    have GB11 := Lib.hid (GB10.out.since hs11)
    have HM11 := Lib.hid (HM10.out.since hs11)
    clear SB10 SW10 GB10 HM10 HO10 HB10 hs010 hs11
    obtain ⟨r0, r1⟩ := GB11.out.one
    go_wp2_with fail
    clear r0 r1
    refine (heldExpr_any _ R 1 _ HM11.out.at (by decide) (by decide) q5).mono ?_
    rintro e w12 ⟨rfl, hs12⟩
    rw [← HKR.out]
    have hs012 := hs011.trans hs12
    go_wp2_with fail
    go_ret
    exact ⟨ret_bool (by simp), hs012⟩
end Go.Proofs.YthnppgcmmabolaaDoor
