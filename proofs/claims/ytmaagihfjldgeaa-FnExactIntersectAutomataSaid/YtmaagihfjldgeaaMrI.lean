/- A row of a machine's states, the program's. -/
import Derived.Test.YtmaagihfjldgeaaA3
import Derived.Test.YtmaagihfjldgeaaNuI
import Derived.BigQuiet
import Derived.Deep.QuietTactic
import Derived.StillTailTactics
import Derived.Test.YtmaagihfjldgeaaK1
namespace Go.Proofs.Ytmaagihfjldgeaa
set_option maxRecDepth 100000
open Go.ChangeShapes Go.WideShapes Go.ChangeAt Go.RowKit Go.Maps
set_option linter.unusedVariables false
set_option linter.unusedSimpArgs false

set_option maxHeartbeats 4000000 in
set_option maxRecDepth 100000 in
theorem rowI_any (F1 : Value) (BA BL : Nat) (step : Int → Nat → Option Int) (fs : List Int) (s0 s : Int) (b n : Nat) (D : DU) (w : World) (hl : fs.length ≤ 1000) (hm : w.ownsMap Try.prog 3 (plainElem Try.prog 3) b n D) (hD : NumD fs D)
    (hc : ∀ k x, k < 9 → step s k = some x → x ∈ fs)
    (hN : ∀ k W, Since w W → k < 9 → Calls Try.prog 163 #[.int .i64 s, .int .i64 (k : Nat), (.pointer (some ⟨BA, 0, none⟩)), (.pointer (some ⟨BL, 0, none⟩))] W (NxOutI step s k W)) :
    Calls Try.prog 199 #[.agg #[.int .i64 s0, F1, .func (.func 163) #[] #[.pointer (some ⟨BA, 0, none⟩), .pointer (some ⟨BL, 0, none⟩)]], .int .i64 s, .map (some b)] w (OwnOut w (rowOf step fs s)) := by
  have HNX := Lib.hid hN
  have HC := Lib.hid hc
  have HD := Lib.hid hD
  clear hc hN hD
  obtain ⟨i0, hi, hz0, hz1, hz2⟩ := info_parts info_int
  have HZ2 := Lib.hid hz2
  clear hz2
  obtain ⟨y, hy⟩ : ∃ y, y = w.alloc (.cells #[.int .i64 s0, F1, .func (.func 163) #[] #[.pointer (some ⟨BA, 0, none⟩), .pointer (some ⟨BL, 0, none⟩)]] 114) := ⟨_, rfl⟩
  have hs0 : Since w y := by rw [hy]; exact (Since.refl w).alloc _
  have B0 : Hid (Blk y w.heap.size 114 #[.int .i64 s0, F1, .func (.func 163) #[] #[.pointer (some ⟨BA, 0, none⟩), .pointer (some ⟨BL, 0, none⟩)]]) := by rw [hy]; exact Blk.new rfl _ _
  have HM := Lib.hid (Since.keptMap hm hs0)
  have HY := Lib.hid hy
  clear hy hm
  go_enter Try.func199, Try.ntmps199
  go_upto_region 1 with fail
  rw [← HY.out]
  go_wp2_with (at_make; go_must (refine wpList_make_full _ rfl _ _ 24 rfl y.heap.size 3 i0 (.int .i64 0) 1 Try.underlying24 hi hz0 hz1 .i64 .i64 _ _ 9 rfl rfl rfl rfl (by rw [HZ2.out]; omega) (by unfold maxLen; omega) (Nat.le_refl _) ?_); intro w1 hown hgrow)
  have hs1 : Since y w1 := (Since.refl y).grown hgrow (fun _ h => by simp at h)
  have HO0 : Hid (Own y.heap.size w1 (.slice (some ⟨y.heap.size, 0, none⟩) 9 9) (fillR step fs s 0)) := by
    rw [made_ints] at hown
    unfold Hid
    rw [fillR_zero]
    exact ⟨fun x hx => by have := List.eq_of_mem_replicate hx; subst this; unfold InI; omega, hown⟩
  clear hown hgrow
  go_loopw [14] (fun i wr => ∃ k : Nat, k ≤ 9 ∧ i = .int .i64 k ∧ Hid (Own y.heap.size wr (.slice (some ⟨y.heap.size, 0, none⟩) 9 9) (fillR step fs s k)) ∧ Hid (Since y wr)) (fun i _ => 9 - (intOf i).toNat)
  case atStart => exact ⟨0, Nat.zero_le _, rfl, HO0.out, hs1⟩
  case round =>
    obtain ⟨k, hk, rfl, HO, HSy⟩ := hrel
    have HW : Hid (Since w wr) := hs0.trans HSy.out
    by_cases hlt : k < 9
    · have hki : (k : Int) < 9 := by omega
      have hk0 : (0 : Int) ≤ (k : Int) := by omega
      obtain ⟨c0, f0⟩ := HO.out.cellI (by rw [fillR_length]) k (by rw [fillR_length]; exact hlt)
      go_upto_region 6 with fail
      obtain ⟨w2, hw2⟩ : ∃ w2, w2 = wr.setCell ⟨y.heap.size, k, none⟩ (.int .i64 (-1)) := ⟨_, rfl⟩
      have hs2 : Since y w2 := by rw [hw2]; exact HSy.out.setCell (Nat.le_refl _) _
      have HO2 : Hid (Own y.heap.size w2 (.slice (some ⟨y.heap.size, 0, none⟩) 9 9) ((fillR step fs s k).set k (-1))) := by
        rw [hw2]; exact HO.out.setI (by rw [fillR_length]) k (-1) (by unfold InI; omega)
      rw [← hw2]
      clear hw2 c0 f0
      obtain ⟨⟨p0, p1, p2⟩, _⟩ := (B0.out.since hs2).threeA
      go_wp2_with fail
      refine (HNX.out k _ (hs0.trans hs2) hlt).mono ?_
      rintro e w3 ⟨⟨x, ok, rfl, hst, hxi⟩, hs3⟩
      have HS3 := Lib.hid (hs2.trans hs3)
      have HO3 := Lib.hid (HO2.out.since hs3)
      clear p0 p1 p2
      cases ok with
      | false =>
        have HR : Hid ((fillR step fs s k).set k (-1) = fillR step fs s (k + 1)) := fillR_set _ _ _ k hlt _ (rowAt_none (by rw [hst]; rfl)).symm
        clear hst
        go_wp2
        go_roundw
        case rel => exact ⟨k + 1, by omega, by go_num, by rw [← HR.out]; exact HO3.out, HS3.out⟩
        case measure => simp [intOf]; omega
      | true =>
        have hsx : step s k = some x := by rw [hst]; rfl
        have HX := Lib.hid (HC.out k x hlt hsx)
        have hkx := keyOf_int_mk (k := 3) Try.underlying3 (wf_in hxi)
        have HM3 := Since.keptMap HM.out HS3.out
        obtain ⟨c3, f3⟩ := HO3.out.cellI (by rw [List.length_set, fillR_length]) k (by rw [List.length_set, fillR_length]; exact hlt)
        have HV : Hid (∀ c, D.atKey (KY x) (.lit (.int .i64 0)) = .lit (.int .i64 c) → c = rowAt step fs s k ∧ InI c) := fun c hat => by
          rw [rowAt_some hsx]
          have h1 := HD.out.val HX.out hat
          refine ⟨h1, ?_⟩
          have := posN_le fs x
          unfold InI; omega
        clear hst hsx
        go_wp2_with (at_lookup; refine wpList_lookup_own_int _ rfl (.tmp 31) (.tmp 32) 159 rfl 3 3 .i64 lawI Try.underlying159 Try.underlying3 (zeroI _) b n D rfl HM3 (.int .i64 x) (KY x) rfl hkx ?_; intro c hat hwc; have HCV := Lib.hid (HV.out c hat); clear hat hwc)
        have HO4 : Hid (Own y.heap.size (w3.setCell ⟨y.heap.size, k, none⟩ (.int .i64 c)) (.slice (some ⟨y.heap.size, 0, none⟩) 9 9) (fillR step fs s (k + 1))) := by
          have h := HO3.out.setI (by rw [List.length_set, fillR_length]) k c HCV.out.2
          rw [fillR_set2 _ _ _ k hlt _ _ HCV.out.1] at h
          exact h
        have HS4 : Hid (Since y (w3.setCell ⟨y.heap.size, k, none⟩ (.int .i64 c))) := HS3.out.setCell (Nat.le_refl _) _
        clear HM3
        go_roundw
        case rel => exact ⟨k + 1, by omega, by go_num, HO4.out, HS4.out⟩
        case measure => simp [intOf]; omega
    · obtain rfl : k = 9 := by omega
      rw [fillR_all] at HO
      have hsz := hs0.size
      go_wp2
      go_ret
      exact ⟨_, rfl, HO.out.mono hsz, HW.out⟩
end Go.Proofs.Ytmaagihfjldgeaa
