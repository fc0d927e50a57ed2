/- The law of ParseGraph, walked. -/
import Derived.Test.YtpmkpeclfhmhlaaDoorPgI
import Derived.Test.YtpmkpeclfhmhlaaDoorMarkG
namespace Go.Proofs.YtpmkpeclfhmhlaaDoor
set_option maxRecDepth 100000
open Go.ChangeShapes Go.WideShapes Go.ChangeAt Go.RowKit
set_option linter.unusedVariables false
set_option linter.unusedSimpArgs false

theorem pgG_len (p : ByteArray) (r : List ByteArray) : (pgG p r).vs.length ≤ 5 ∧ (pgG p r).es.length ≤ 12 := by
  cases h : pgB p r with
  | false => rw [pg_no h]; simp
  | true =>
    rw [pg_yes h]
    refine valid_len ?_
    unfold pgB at h
    rw [Bool.and_eq_true] at h
    exact h.2
theorem cons_of {α : Type} {l : List α} (h : 1 ≤ l.length) : ∃ a t, l = a :: t := by
  cases l with
  | nil => simp at h
  | cons a t => exact ⟨a, t, rfl⟩
set_option maxHeartbeats 4000000 in
set_option maxRecDepth 100000 in
theorem fnExactParseGraph_walk (s : ByteArray) (hs : s.size ≤ maxLen) (w : World) (ht : Tab w) (hf : Fmts w) (hm : MaxL w) :
    Calls Tryd.prog 6 #[.string s] w fun en w' => en = .returned (.bool true) ∧ Since w w' := by
  unfold maxLen at hs
  by_cases hbig : 1048576 < s.size
  · clear ht hf hm
    go_enter Tryd.func6, Tryd.ntmps6
    go_wp2
    go_ret
    exact ⟨rfl, Since.refl _⟩
  · have hsm : s.size ≤ 1048576 := by omega
    obtain ⟨p, r, hpr⟩ := cons_of (l := cutB s) (by rw [cutB_length]; exact cutL_pos _)
    obtain ⟨p', t, hpt⟩ := cons_of (splitB_part (min 14 (s.size + 1) - 1) s).2
    obtain ⟨e1, e2⟩ := pg_split hpr hpt
    have HS : Hid (∀ W, Calls Tryd.prog 18 #[.string s] W (GBOut W (pgG p r) (pgB p r))) := fun W => specPG_any s p r hpr W hsm
    have HI : Hid (∀ W, Since w W → Calls Tryd.prog 19 #[.string s] W (GBOut W (pgG p r) (pgB p r))) := fun W hW => by
      have := implPG_any s p' t hpt W hsm (ht.since hW) (hf.since hW) (hm.since hW)
      rw [e1, e2] at this; exact this
    have q1 := (pgG_len p r).1
    have q2 := (pgG_len p r).2
    clear ht hf hm hpt hpr e1 e2
    generalize pgG p r = R at HS HI q1 q2
    generalize pgB p r = C at HS HI
    have q3 : R.vs.length ≤ 1152921504606846976 := by omega
    have q4 : R.es.length ≤ 1152921504606846976 := by omega
    have q5 : R.vs.length ≤ 1152921504 := by omega
    have q6 : R.es.length ≤ 1152921504 := by omega
    obtain ⟨kr, hkr⟩ : ∃ kr : Int, kr = 1 + szOf R := ⟨_, rfl⟩
    have dkr : decide (kr < 0) = false := by unfold szOf at hkr; simp; omega
    have ekr : (kr != kr) = false := by simp
    have HKR := Lib.hid hkr
    have dRR : decide (R = R) = true := by simp
    have eCC : (C != C) = false := by simp
    clear hkr
    go_enter Tryd.func6, Tryd.ntmps6
    go_wp2_with fail
    refine (HS.out _).mono ?_
    rintro e w3 ⟨v3, rfl, ho3, hs3⟩
    have SW := Lib.hid ho3
    obtain ⟨wa, wb, rfl, ka, _, kb, _⟩ := ho3
    obtain ⟨wao, wac, rfl⟩ := ka.len
    obtain ⟨wbo, wbc, rfl⟩ := kb.len
    clear ka kb
    have z3 := hs3.size
    have SB : Hid (Blk (w3.alloc (.cells #[.slice wao R.vs.length wac, .slice wbo R.es.length wbc] 40)) w3.heap.size 40 #[.slice wao R.vs.length wac, .slice wbo R.es.length wbc]) := Blk.new rfl _ _
    have hs03 := hs3.alloc (.cells #[.slice wao R.vs.length wac, .slice wbo R.es.length wbc] 40)
    have SW' := Lib.hid (SW.out.since ((Since.refl w3).alloc (.cells #[.slice wao R.vs.length wac, .slice wbo R.es.length wbc] 40)))
    have y3z : Hid (w3.heap.size + 1 = (w3.alloc (.cells #[.slice wao R.vs.length wac, .slice wbo R.es.length wbc] 40)).heap.size) := by unfold Hid; simp
    clear hs3 SW
    go_wp2_with fail
    generalize (w3.alloc (.cells #[.slice wao R.vs.length wac, .slice wbo R.es.length wbc] 40)) = y3 at hs03 SW' SB y3z ⊢
    have c0 : w3.heap.size < y3.heap.size := by have := y3z.out; omega
    clear y3z
    refine (HI.out _ hs03).mono ?_
    rintro e w5 ⟨v5, rfl, ho5, hs5⟩
    have GO := Lib.hid ho5
    obtain ⟨ga, gb, rfl, ka, _, kb, _⟩ := ho5
    obtain ⟨gao, gac, rfl⟩ := ka.len
    obtain ⟨gbo, gbc, rfl⟩ := kb.len
    clear ka kb
    have z5 := hs5.size
    have hs05 := (hs03.trans hs5).alloc (.cells #[.slice gao R.vs.length gac, .slice gbo R.es.length gbc] 40)
    have hs5' := hs5.alloc (.cells #[.slice gao R.vs.length gac, .slice gbo R.es.length gbc] 40)
    have SB5 := Lib.hid (SB.out.since hs5')
    have SW5 := Lib.hid (SW'.out.since hs5')
    have GO5 := Lib.hid (GO.out.since ((Since.refl w5).alloc (.cells #[.slice gao R.vs.length gac, .slice gbo R.es.length gbc] 40)))
    have GB5 : Hid (Blk (w5.alloc (.cells #[.slice gao R.vs.length gac, .slice gbo R.es.length gbc] 40)) w5.heap.size 40 #[.slice gao R.vs.length gac, .slice gbo R.es.length gbc]) := Blk.new rfl _ _
    have y5z : Hid (w5.heap.size + 1 = (w5.alloc (.cells #[.slice gao R.vs.length gac, .slice gbo R.es.length gbc] 40)).heap.size) := by unfold Hid; simp
    clear SB SW' GO hs03 hs5 hs5'
    obtain ⟨p0, p1, _, _⟩ := SB5.out.two
    obtain ⟨r0, r1, _, _⟩ := GB5.out.two
    go_wp2_with fail
    clear p0 p1 r0 r1
    generalize (w5.alloc (.cells #[.slice gao R.vs.length gac, .slice gbo R.es.length gbc] 40)) = y5 at hs05 SB5 SW5 GO5 GB5 y5z ⊢
    have c3 : w5.heap.size < y5.heap.size := by have := y5z.out; omega
    clear y5z
    refine (eqGraph_any _ _ R R _ GO5.out.at SW5.out.at q3 q4 q3 q4).mono ?_
    rintro e w6 ⟨rfl, hs6⟩
    have hs06 := hs05.trans hs6
    have SB6 := Lib.hid (SB5.out.since hs6)
    have SW6 := Lib.hid (SW5.out.since hs6)
    have GO6 := Lib.hid (GO5.out.since hs6)
    have GB6 := Lib.hid (GB5.out.since hs6)
    have z6 := hs6.size
    clear SB5 SW5 GO5 GB5 hs05 hs6
    obtain ⟨r0, r1, _, _⟩ := GB6.out.two
    go_wp2_with fail
    clear r0 r1
    refine (markGraph_any _ _ _ R 1 _ GO6.out (by omega) (by decide) (by decide) q5 q6).mono ?_
    rintro e w8 ⟨rfl, hmg, hs8⟩
    rw [← HKR.out]
    have HM := Lib.hid hmg
    have hs08 := hs06.within (by omega) hs8
    have SB8 := Lib.hid (SB6.out.within hs8 (by omega))
    have SW8 := Lib.hid (SW6.out.within hs8 (by omega))
    have GB8 := Lib.hid (GB6.out.within hs8 (by omega))
    have z8 := hs8.size
    clear SB6 SW6 GO6 GB6 hs06 hs8 hmg
    obtain ⟨r0, r1, _, _⟩ := GB8.out.two
    go_wp2_with fail
    clear r0 r1
    refine (heldGraph_any _ R 1 _ HM.out.at (by decide) (by decide) q5 q6).mono ?_
    rintro e w9 ⟨rfl, hs9⟩
    rw [← HKR.out]
    have hs09 := hs08.trans hs9
    have SB9 := Lib.hid (SB8.out.since hs9)
    have SW9 := Lib.hid (SW8.out.since hs9)
    have GB9 := Lib.hid (GB8.out.since hs9)
    have HM9 := Lib.hid (HM.out.since hs9)
    clear SB8 SW8 GB8 HM hs08 hs9
    go_wp2_with fail
    refine (HI.out _ hs09).mono ?_
    rintro e w10 ⟨v10, rfl, ho10, hs10⟩
    have HO := Lib.hid ho10
    obtain ⟨ha, hb, rfl, ka, _, kb, _⟩ := ho10
    obtain ⟨hao, hac, rfl⟩ := ka.len
    obtain ⟨hbo, hbc, rfl⟩ := kb.len
    clear ka kb
    have hs010 := (hs09.trans hs10).alloc (.cells #[.slice hao R.vs.length hac, .slice hbo R.es.length hbc] 40)
    have hs10' := hs10.alloc (.cells #[.slice hao R.vs.length hac, .slice hbo R.es.length hbc] 40)
    have SB10 := Lib.hid (SB9.out.since hs10')
    have SW10 := Lib.hid (SW9.out.since hs10')
    have GB10 := Lib.hid (GB9.out.since hs10')
    have HM10 := Lib.hid (HM9.out.since hs10')
    have HO10 := Lib.hid (HO.out.since ((Since.refl w10).alloc (.cells #[.slice hao R.vs.length hac, .slice hbo R.es.length hbc] 40)))
    have HB10 : Hid (Blk (w10.alloc (.cells #[.slice hao R.vs.length hac, .slice hbo R.es.length hbc] 40)) w10.heap.size 40 #[.slice hao R.vs.length hac, .slice hbo R.es.length hbc]) := Blk.new rfl _ _
    clear SB9 SW9 GB9 HM9 HO hs09 hs10 hs10'
    obtain ⟨p0, p1, _, _⟩ := SB10.out.two
    obtain ⟨r0, r1, _, _⟩ := HB10.out.two
    go_wp2_with fail
    clear p0 p1 r0 r1
    refine (eqGraph_any _ _ R R _ HO10.out.at SW10.out.at q3 q4 q3 q4).mono ?_
    rintro e w11 ⟨rfl, hs11⟩
    have hs011 := hs010.trans hs11
    have GB11 := Lib.hid (GB10.out.since hs11)
    have HM11 := Lib.hid (HM10.out.since hs11)
    clear SB10 SW10 GB10 HM10 HO10 HB10 hs010 hs11
    obtain ⟨r0, r1, _, _⟩ := GB11.out.two
    go_wp2_with fail
    clear r0 r1
    refine (heldGraph_any _ R 1 _ HM11.out.at (by decide) (by decide) q5 q6).mono ?_
    rintro e w12 ⟨rfl, hs12⟩
    rw [← HKR.out]
    have hs012 := hs011.trans hs12
    go_wp2_with fail
    go_ret
    exact ⟨ret_bool (by simp), hs012⟩
end Go.Proofs.YtpmkpeclfhmhlaaDoor
