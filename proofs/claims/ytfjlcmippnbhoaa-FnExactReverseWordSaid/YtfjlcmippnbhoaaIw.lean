/- The laws over one or two lists of ints, walked: IsWord, CompareWords. -/
import Derived.Test.YtfjlcmippnbhoaaCmp
import Derived.Test.YtfjlcmippnbhoaaWord
import Derived.Deep.DeepCutAuto
namespace Go.Proofs.Ytfjlcmippnbhoaa
open Go.ChangeShapes Go.WideShapes Go.ChangeAt Go.RowKit
set_option linter.unusedVariables false

theorem Own.grown {base : Nat} {w w' : World} {v : Value} {xs : List Int} {row : Option Nat} (h : Own base w v xs) (k : w.grownBy w' row) (hr : ∀ b, row = some b → b < base) : Own base w' v xs := by
  obtain ⟨h1, h2, h3⟩ := h
  refine ⟨h1, h2, ?_⟩
  rcases h3 with h3 | ⟨g, cap, cur, a, b, c, d⟩
  · exact .inl h3
  · exact .inr ⟨g, cap, cur, a, b, (k.block g (heap_lt c) (fun e => by have := hr g e.symm; omega)).trans c, d⟩
theorem Own.lt {base : Nat} {w : World} {v : Value} {xs : List Int} (h : Own base w v xs) : ∀ k, v.ownBlock = some k → base ≤ k ∧ k < w.heap.size := h.2.lt
theorem ownBlock_or (v : Value) (row : Option Nat) (h : ∀ k, v.ownBlock = some k → row ≠ some k) : v.ownBlock = none ∨ v.ownBlock ≠ row := by
  cases e : v.ownBlock with
  | none => exact .inl rfl
  | some k => exact .inr (fun e2 => h k e e2.symm)
theorem count_neg (k : Int) (n : Nat) : count k n = count k n := rfl

set_option maxRecDepth 100000 in
theorem fnExactIsWord_walk (v : Value) (xs : List Int) (w : World) (h : IntsAt w v xs) (hl : xs.length ≤ maxLen) :
    Calls Try.prog 5 #[v] w fun e w' => e = .returned (.bool true) ∧ Since w w' := by
  unfold maxLen at hl
  have H := Lib.hid h
  obtain ⟨ao, cap, rfl⟩ := h.len
  clear h
  by_cases hbig : 1048576 < xs.length
  · go_enter Try.func5, Try.ntmps5
    go_wp2
    go_ret
    exact ⟨rfl, Since.refl _⟩
  · have hn : xs.length ≤ 1048577 := by omega
    have hn2 : xs.length ≤ 4611686018427387904 := by omega
    go_enter Try.func5, Try.ntmps5
    go_wp2_with fail
    refine (toIntS_any _ xs _ H.out hn).mono ?_
    rintro e w1 ⟨v1, rfl, ho1, hs1⟩
    go_wp2_with fail
    refine (specIW_any _ xs _ ho1.at hn).mono ?_
    rintro e w' ⟨rfl, rfl⟩
    go_wp2_with fail
    refine (toIntS_any _ xs _ (H.out.since hs1) hn).mono ?_
    rintro e w2 ⟨v2, rfl, ho2, hs2⟩
    go_wp2_with fail
    refine (implIW_any _ xs _ ho2.at hn).mono ?_
    rintro e w' ⟨rfl, rfl⟩
    have hs := hs1.trans hs2
    go_wp2_with fail
    refine (toIntS_any _ xs _ (H.out.since hs) hn).mono ?_
    rintro e w3 ⟨v3, rfl, ho3, hs3⟩
    go_wp2_with fail
    refine (eqIntS_any _ _ xs xs _ (ho2.at.since hs3) ho3.at hn2 hn2).mono ?_
    rintro e w4 ⟨rfl, hs4⟩
    have hf := (hs.trans hs3).trans hs4
    go_wp2_with fail
    go_ret
    exact ⟨ret_bool (by simp), hf⟩
set_option maxRecDepth 100000 in
theorem fnExactCompareWords_walk (a b : Value) (xs ys : List Int) (w : World) (h : IntsAt w a xs) (h2 : IntsAt w b ys) (hl : xs.length ≤ maxLen) (hl2 : ys.length ≤ maxLen) :
    Calls Try.prog 7 #[a, b] w fun e w' => e = .returned (.bool true) ∧ Since w w' := by
  unfold maxLen at hl hl2
  have H := Lib.hid h
  have H2 := Lib.hid h2
  obtain ⟨ao, cap, rfl⟩ := h.len
  obtain ⟨ao2, cap2, rfl⟩ := h2.len
  clear h h2
  by_cases hbig : 1048576 < xs.length
  · go_enter Try.func7, Try.ntmps7
    go_wp2
    go_ret
    exact ⟨rfl, Since.refl _⟩
  · by_cases hbig2 : 1048576 < ys.length
    · go_enter Try.func7, Try.ntmps7
      go_wp2
      go_ret
      exact ⟨rfl, Since.refl _⟩
    · have hn : xs.length ≤ 1048577 := by omega
      have hm : ys.length ≤ 1048577 := by omega
      have hn2 : xs.length ≤ 4611686018427387904 := by omega
      have hm2 : ys.length ≤ 4611686018427387904 := by omega
      go_enter Try.func7, Try.ntmps7
      go_wp2_with fail
      refine (toIntS_any _ xs _ H.out hn).mono ?_
      rintro e w1 ⟨v1, rfl, ho1, hs1⟩
      go_wp2_with fail
      refine (toIntS_any _ ys _ (H2.out.since hs1) hm).mono ?_
      rintro e w2 ⟨v2, rfl, ho2, hs2⟩
      have hs12 := hs1.trans hs2
      go_wp2_with fail
      refine (specCW_any _ _ xs ys _ (ho1.at.since hs2) ho2.at hn2 hm2).mono ?_
      rintro e w3 ⟨rfl, hs3⟩
      have hs13 := hs12.trans hs3
      go_wp2_with fail
      refine (toIntS_any _ xs _ (H.out.since hs13) hn).mono ?_
      rintro e w4 ⟨v4, rfl, ho4, hs4⟩
      have hs14 := hs13.trans hs4
      go_wp2_with fail
      refine (toIntS_any _ ys _ (H2.out.since hs14) hm).mono ?_
      rintro e w5 ⟨v5, rfl, ho5, hs5⟩
      have hs15 := hs14.trans hs5
      go_wp2_with fail
      refine (implCW_any _ _ xs ys _ (ho4.at.since hs5) ho5.at hn2 hm2).mono ?_
      rintro e w' ⟨rfl, rfl⟩
      go_wp2_with fail
      refine (toIntS_any _ xs _ (H.out.since hs15) hn).mono ?_
      rintro e w6 ⟨v6, rfl, ho6, hs6⟩
      have hs16 := hs15.trans hs6
      go_wp2_with fail
      refine (eqIntS_any _ _ xs xs _ (ho4.at.since (hs5.trans hs6)) ho6.at hn2 hn2).mono ?_
      rintro e w7 ⟨rfl, hs7⟩
      have hs17 := hs16.trans hs7
      have hx : decide (xs = xs) = true := by simp
      go_wp2_with fail
      refine (toIntS_any _ ys _ (H2.out.since hs17) hm).mono ?_
      rintro e w8 ⟨v8, rfl, ho8, hs8⟩
      have hs18 := hs17.trans hs8
      go_wp2_with fail
      refine (eqIntS_any _ _ ys ys _ (ho5.at.since ((hs6.trans hs7).trans hs8)) ho8.at hm2 hm2).mono ?_
      rintro e w9 ⟨rfl, hs9⟩
      have hs19 := hs18.trans hs9
      go_wp2_with fail
      go_ret
      exact ⟨ret_bool (by simp), hs19⟩

set_option maxRecDepth 100000 in
theorem fnExactReverseWord_walk (v : Value) (xs : List Int) (w : World) (h : IntsAt w v xs) (hl : xs.length ≤ maxLen) :
    Calls Try.prog 6 #[v] w fun e w' => e = .returned (.bool true) ∧ Since w w' := by
  unfold maxLen at hl
  have H := Lib.hid h
  obtain ⟨ao, cap, rfl⟩ := h.len
  clear h
  by_cases hbig : 1048576 < xs.length
  · go_enter Try.func6, Try.ntmps6
    go_wp2
    go_ret
    exact ⟨rfl, Since.refl _⟩
  · have hn : xs.length ≤ 1048577 := by omega
    have hn2 : xs.length ≤ 4611686018427387904 := by omega
    have hr := Lib.hid (revW_length xs)
    have hr2 : (revW xs).length ≤ 4611686018427387904 := by rw [hr.out]; exact hn2
    have hr3 : (revW xs).length ≤ 2305843009213693952 := by rw [hr.out]; omega
    have hx3 : xs.length ≤ 2305843009213693952 := by omega
    go_enter Try.func6, Try.ntmps6
    go_wp2_with fail
    refine (toIntS_any _ xs _ H.out hn).mono ?_
    rintro e w1 ⟨v1, rfl, ho1, hs1⟩
    go_wp2_with fail
    refine (specRW_any _ xs _ ho1.at hn).mono ?_
    rintro e w2 ⟨v2, rfl, ho2, hs2⟩
    have hs12 := hs1.trans hs2
    go_wp2_with fail
    refine (toIntS_any _ xs _ (H.out.since hs12) hn).mono ?_
    rintro e w3 ⟨v3, rfl, ho3, hs3⟩
    have hs13 := hs12.trans hs3
    go_wp2_with fail
    refine (implRW_any _ xs _ ho3.at hn).mono ?_
    rintro e w4 ⟨v4, rfl, ho4, hs4⟩
    have hs14 := hs13.trans hs4
    go_wp2_with fail
    refine (eqIntS_any _ _ (revW xs) (revW xs) _ ho4.at (ho2.at.since (hs3.trans hs4)) hr2 hr2).mono ?_
    rintro e w5 ⟨rfl, hs5⟩
    have hs15 := hs14.trans hs5
    have hx : decide (revW xs = revW xs) = true := by simp
    go_wp2_with fail
    refine (toIntS_any _ xs _ (H.out.since hs15) hn).mono ?_
    rintro e w6 ⟨v6, rfl, ho6, hs6⟩
    have hs16 := hs15.trans hs6
    go_wp2_with fail
    refine (eqIntS_any _ _ xs xs _ (ho3.at.since ((hs4.trans hs5).trans hs6)) ho6.at hn2 hn2).mono ?_
    rintro e w7 ⟨rfl, hs7⟩
    have hs17 := hs16.trans hs7
    have hx2 : decide (xs = xs) = true := by simp
    go_wp2_with fail
    refine (markIntS_any w2.heap.size v3 xs 1 w7 (ho3.since (((hs4.trans hs5).trans hs6).trans hs7)) (by decide) (by decide) hx3).mono ?_
    rintro e w8 ⟨rfl, ho8, hg8⟩
    have hs18 : Since w w8 := hs17.grown hg8 (fun k hk => by have := (ho3.lt k hk).1; have := hs12.lt; omega)
    have hne : ∀ b, v3.ownBlock = some b → b < w3.heap.size := fun b hb => (ho3.lt b hb).2
    have ho4b : Own w3.heap.size w8 v4 (revW xs) := (ho4.since ((hs5.trans hs6).trans hs7)).grown hg8 hne
    have ho2b : IntsAt w8 v2 (revW xs) := (ho2.at.since ((((hs3.trans hs4).trans hs5).trans hs6).trans hs7)).grown hg8 (ownBlock_or _ _ (fun k hk e => by have a1 := (ho2.lt k hk).2; have a2 := (ho3.lt k e).1; omega))
    have hd1 : decide ((1 : Int) + (xs.length : Int) < 0) = false := by simp; omega
    go_wp2_with fail
    refine (eqIntS_any _ _ (revW xs) (revW xs) _ ho4b.at ho2b hr2 hr2).mono ?_
    rintro e w9 ⟨rfl, hs9⟩
    have hs19 := hs18.trans hs9
    have hr1 := hr.out
    go_wp2_with fail
    refine (markIntS_any w3.heap.size v4 (revW xs) 1 w9 (ho4b.since hs9) (by decide) (by decide) hr3).mono ?_
    rintro e w10 ⟨rfl, ho10, hg10⟩
    have hs110 : Since w w10 := hs19.grown hg10 (fun k hk => by have := (ho4.lt k hk).1; have := hs13.lt; omega)
    have ho2c : IntsAt w10 v2 (revW xs) := (ho2b.since hs9).grown hg10 (ownBlock_or _ _ (fun k hk e => by have a1 := (ho2.lt k hk).2; have a2 := (ho4.lt k e).1; have := hs3.lt; omega))
    rw [hr1] at ho10
    go_wp2_with fail
    refine (heldIntS_any v4 1 xs.length w10 ho10.at (by decide) (by decide) hx3).mono ?_
    rintro e w' ⟨rfl, rfl⟩
    have hb1 : ((1 : Int) + (xs.length : Int) != 1 + (xs.length : Int)) = false := by simp
    go_wp2_with fail
    refine (toIntS_any _ xs _ (H.out.since hs110) hn).mono ?_
    rintro e w11 ⟨v11, rfl, ho11, hs11⟩
    have hs111 := hs110.trans hs11
    go_wp2_with fail
    refine (implRW_any _ xs _ ho11.at hn).mono ?_
    rintro e w12 ⟨v12, rfl, ho12, hs12'⟩
    have hs112 := hs111.trans hs12'
    go_wp2_with fail
    refine (eqIntS_any _ _ (revW xs) (revW xs) _ ho12.at (ho2c.since (hs11.trans hs12')) hr2 hr2).mono ?_
    rintro e w13 ⟨rfl, hs13'⟩
    have hs113 := hs112.trans hs13'
    go_wp2_with fail
    refine (heldIntS_any v4 1 xs.length w13 (ho10.at.since ((hs11.trans hs12').trans hs13')) (by decide) (by decide) hx3).mono ?_
    rintro e w' ⟨rfl, rfl⟩
    go_wp2_with fail
    go_ret
    exact ⟨ret_bool (by simp), hs113⟩
end Go.Proofs.Ytfjlcmippnbhoaa
