/- A row of a machine's pairs, the program's. -/
import Derived.Test.YtmaagihfjldgeaaMdG
import Derived.Test.YtmaagihfjldgeaaNgM
import Derived.Test.YtmaagihfjldgeaaNuP
import Derived.BigQuiet
import Derived.Deep.OwnRows
import Derived.Deep.QuietTactic
import Derived.StillTailTactics
import Derived.Test.YtmaagihfjldgeaaK1
namespace Go.Proofs.Ytmaagihfjldgeaa
set_option maxRecDepth 100000
open Go.ChangeShapes Go.WideShapes Go.ChangeAt Go.RowKit Go.Maps
set_option linter.unusedVariables false
set_option linter.unusedSimpArgs false

set_option maxHeartbeats 4000000 in
set_option maxRecDepth 100000 in
theorem rowP_any (A B : Aut) (BQ BA BB : Nat) (s t a0 b0 : Int) (F : List (List Int)) (bm n : Nat) (D : DU) (w : World) (hva : ValidA A) (hvb : ValidA B) (ha : InQ A a0) (hb : InQ B b0) (hl : F.length ≤ 1000) (hm : w.ownsMap Try.prog 100 (plainElem Try.prog 3) bm n D) (hD : NumO 100 2 F D)
    (hc : ∀ k, k < 9 → [stpQ A a0 k, stpQ B b0 k] ∈ F) (hN : NxP A B BA BB w) :
    Calls Try.prog 197 #[mchP s t BQ BA BB, .agg #[.int .i64 a0, .int .i64 b0], .map (some bm)] w (OwnOut w ((List.range 9).map (cellG (prS A B) F [a0, b0]))) := by
  have HNC := Lib.hid hN
  have HC := Lib.hid hc
  have HD := Lib.hid hD
  have HAB : Hid (InQ A a0 ∧ InQ B b0) := ⟨ha, hb⟩
  have HIN : Hid (∀ a (k : Nat), k < 9 → InQ A a → InQ A (stpQ A a k) ∧ InI (stpQ A a k)) := fun a k hk h => ⟨stpQ_in hva h hk, inQ_inI hva (stpQ_in hva h hk)⟩
  have HINB : Hid (∀ a (k : Nat), k < 9 → InQ B a → InQ B (stpQ B a k) ∧ InI (stpQ B a k)) := fun a k hk h => ⟨stpQ_in hvb h hk, inQ_inI hvb (stpQ_in hvb h hk)⟩
  obtain ⟨CL, hCL⟩ : ∃ f, f = cellG (prS A B) F [a0, b0] := ⟨_, rfl⟩
  have HCL : Hid (∀ k, CL k = (posG F [stpQ A a0 k, stpQ B b0 k] : Int)) := fun k => by rw [hCL]; rfl
  rw [← hCL]
  clear hc hN hD hva hvb ha hb hCL
  obtain ⟨i0, hi, hz0, hz1, hz2⟩ := info_parts info_int
  have HZ2 := Lib.hid hz2
  clear hz2
  obtain ⟨y, hy⟩ : ∃ y, y = (w.alloc (.cells #[.int .i64 s, .int .i64 t, .func (.func 148) #[] #[.pointer (some ⟨BQ, 0, none⟩), .pointer (some ⟨BA, 0, none⟩), .pointer (some ⟨BB, 0, none⟩)], .func (.func 149) #[] #[.pointer (some ⟨BA, 0, none⟩), .pointer (some ⟨BB, 0, none⟩)]] 104)).alloc (.cells #[.int .i64 a0, .int .i64 b0] 100) := ⟨_, rfl⟩
  have hs0 : Since w y := by rw [hy]; exact ((Since.refl w).alloc _).alloc _
  have B0 : Hid (Blk y w.heap.size 104 #[.int .i64 s, .int .i64 t, .func (.func 148) #[] #[.pointer (some ⟨BQ, 0, none⟩), .pointer (some ⟨BA, 0, none⟩), .pointer (some ⟨BB, 0, none⟩)], .func (.func 149) #[] #[.pointer (some ⟨BA, 0, none⟩), .pointer (some ⟨BB, 0, none⟩)]]) := by rw [hy]; exact (Blk.new rfl _ _).alloc _
  have B1 : Hid (Blk y (w.heap.size + 1) 100 #[.int .i64 a0, .int .i64 b0]) := by rw [hy]; exact Blk.new (by simp) _ _
  have HM := Lib.hid (Since.keptMap hm hs0)
  have HY := Lib.hid hy
  clear hy hm
  go_enter Try.func197, Try.ntmps197
  go_upto_region 1 with fail
  rw [← HY.out]
  go_wp2_with (at_make; go_must (refine wpList_make_full _ rfl _ _ 24 rfl y.heap.size 3 i0 (.int .i64 0) 1 Try.underlying24 hi hz0 hz1 .i64 .i64 _ _ 9 rfl rfl rfl rfl (by rw [HZ2.out]; omega) (by unfold maxLen; omega) (Nat.le_refl _) ?_); intro w1 hown hgrow)
  have hs1 : Since y w1 := (Since.refl y).grown hgrow (fun _ h => by simp at h)
  have HO0 : Hid (Own y.heap.size w1 (.slice (some ⟨y.heap.size, 0, none⟩) 9 9) (fillC CL 0)) := by
    rw [made_ints] at hown
    unfold Hid
    rw [fillC_zero]
    exact ⟨fun x hx => by have := List.eq_of_mem_replicate hx; subst this; unfold InI; omega, hown⟩
  clear hown hgrow
  go_loopw [14] (fun i wr => ∃ k : Nat, k ≤ 9 ∧ i = .int .i64 k ∧ Hid (Own y.heap.size wr (.slice (some ⟨y.heap.size, 0, none⟩) 9 9) (fillC CL k)) ∧ Hid (Since y wr)) (fun i _ => 9 - (intOf i).toNat)
  case atStart => exact ⟨0, Nat.zero_le _, rfl, HO0.out, hs1⟩
  case round =>
    obtain ⟨k, hk, rfl, HO, HSy⟩ := hrel
    have HW : Hid (Since w wr) := hs0.trans HSy.out
    by_cases hlt : k < 9
    · have hki : (k : Int) < 9 := by omega
      have hk0 : (0 : Int) ≤ (k : Int) := by omega
      obtain ⟨c0, f0⟩ := HO.out.cellI (by rw [fillC_length]) k (by rw [fillC_length]; exact hlt)
      go_upto_region 6 with fail
      obtain ⟨w2, hw2⟩ : ∃ w2, w2 = wr.setCell ⟨y.heap.size, k, none⟩ (.int .i64 (-1)) := ⟨_, rfl⟩
      have hs2 : Since y w2 := by rw [hw2]; exact HSy.out.setCell (Nat.le_refl _) _
      have HO2 : Hid (Own y.heap.size w2 (.slice (some ⟨y.heap.size, 0, none⟩) 9 9) ((fillC CL k).set k (-1))) := by
        rw [hw2]; exact HO.out.setI (by rw [fillC_length]) k (-1) (by unfold InI; omega)
      rw [← hw2]
      clear hw2 c0 f0
      obtain ⟨za, hza⟩ : ∃ z, z = stpQ A a0 k := ⟨_, rfl⟩
      obtain ⟨zb, hzb⟩ : ∃ z, z = stpQ B b0 k := ⟨_, rfl⟩
      have HNXp : Hid (∀ W, Since w W → Calls Try.prog 149 #[.agg #[.int .i64 a0, .int .i64 b0], .int .i64 (k : Nat), .pointer (some ⟨BA, 0, none⟩), .pointer (some ⟨BB, 0, none⟩)] W fun e w' => e = .returned (.tuple #[.agg #[.int .i64 za, .int .i64 zb], .bool true]) ∧ Since W w') := fun W h => by rw [hza, hzb]; exact HNC.out a0 b0 k W hlt HAB.out.1 HAB.out.2 h
      have hia : InI za := by rw [hza]; exact (HIN.out a0 k hlt HAB.out.1).2
      have hib : InI zb := by rw [hzb]; exact (HINB.out b0 k hlt HAB.out.2).2
      have hokz : OkS 2 [za, zb] := ⟨rfl, fun x hx => by
        simp at hx
        rcases hx with hx | hx <;> subst hx
        · exact hia
        · exact hib⟩
      have hkz : keyOf Try.prog 100 (.agg #[.int .i64 za, .int .i64 zb]) = some (kyG 100 [za, zb]) := arrP.keyOf hokz
      have HV : Hid (∀ c, D.atKey (kyG 100 [za, zb]) (.lit (.int .i64 0)) = .lit (.int .i64 c) → c = CL k ∧ InI c) := fun c hat => by
        have hmem : [za, zb] ∈ F := by rw [hza, hzb]; exact HC.out k hlt
        have h1 := HD.out.num.val hmem hat
        rw [HCL.out, ← hza, ← hzb]
        refine ⟨h1, ?_⟩
        have := posG_lt F _ hmem
        unfold InI; omega
      clear hza hzb hia hib hokz
      have HK6 : Hid (∀ w', Since w2 w' → w'.cell? ⟨w.heap.size, 0, none⟩ = some (.int .i64 s) ∧ w'.cell? ⟨w.heap.size, 1, none⟩ = some (.int .i64 t) ∧ w'.cell? ⟨w.heap.size, 2, none⟩ = some (.func (.func 148) #[] #[.pointer (some ⟨BQ, 0, none⟩), .pointer (some ⟨BA, 0, none⟩), .pointer (some ⟨BB, 0, none⟩)]) ∧ w'.cell? ⟨w.heap.size, 3, none⟩ = some (.func (.func 149) #[] #[.pointer (some ⟨BA, 0, none⟩), .pointer (some ⟨BB, 0, none⟩)]) ∧ w'.cell? ⟨w.heap.size + 1, 0, none⟩ = some (.int .i64 a0) ∧ w'.cell? ⟨w.heap.size + 1, 1, none⟩ = some (.int .i64 b0)) := by
        intro w' hs
        obtain ⟨r0, r1, r2, r3, _⟩ := (B0.out.since (hs2.trans hs)).four
        obtain ⟨r4, r5, _, _⟩ := (B1.out.since (hs2.trans hs)).two
        exact ⟨r0, r1, r2, r3, r4, r5⟩
      obtain ⟨⟨x0, x1, x2, x3, x4, x5⟩⟩ : Nonempty (w2.cell? ⟨w.heap.size, 0, none⟩ = some (.int .i64 s) ∧ w2.cell? ⟨w.heap.size, 1, none⟩ = some (.int .i64 t) ∧ w2.cell? ⟨w.heap.size, 2, none⟩ = some (.func (.func 148) #[] #[.pointer (some ⟨BQ, 0, none⟩), .pointer (some ⟨BA, 0, none⟩), .pointer (some ⟨BB, 0, none⟩)]) ∧ w2.cell? ⟨w.heap.size, 3, none⟩ = some (.func (.func 149) #[] #[.pointer (some ⟨BA, 0, none⟩), .pointer (some ⟨BB, 0, none⟩)]) ∧ w2.cell? ⟨w.heap.size + 1, 0, none⟩ = some (.int .i64 a0) ∧ w2.cell? ⟨w.heap.size + 1, 1, none⟩ = some (.int .i64 b0)) := ⟨HK6.out _ (Since.refl _)⟩
      go_wp2_with fail
      refine (HNXp.out _ (hs0.trans hs2)).mono ?_
      rintro e w3 ⟨rfl, hq⟩
      clear x0 x1 x2 x3 x4 x5
      go_upto_region 7 with fail
      obtain ⟨wF, hwF⟩ : ∃ wF, wF = w3.alloc (.cells #[.int .i64 za, .int .i64 zb] 100) := ⟨_, rfl⟩
      obtain ⟨G, hG⟩ : ∃ G, G = w3.heap.size := ⟨_, rfl⟩
      have hcF : Since w2 wF := by rw [hwF]; exact hq.alloc _
      have BF : Hid (Blk wF G 100 #[.int .i64 za, .int .i64 zb]) := by rw [hwF]; exact Blk.new hG _ _
      try rw [← hwF]
      try rw [← hG]
      clear hwF hG hq
      have HS3 := Lib.hid (hs2.trans hcF)
      have HO3 := Lib.hid (HO2.out.since hcF)
      obtain ⟨q0, q1, _, _⟩ := BF.out.two
      have HM3 := Since.keptMap HM.out HS3.out
      obtain ⟨c3, f3⟩ := HO3.out.cellI (by rw [List.length_set, fillC_length]) k (by rw [List.length_set, fillC_length]; exact hlt)
      go_wp2_with (at_lookup; refine wpList_lookup_own_int _ rfl (.tmp 31) (.tmp 32) 192 rfl 100 3 .i64 arrP.law Try.underlying192 Try.underlying3 (zeroNP _) bm n D rfl HM3 (.agg #[.int .i64 za, .int .i64 zb]) (kyG 100 [za, zb]) rfl hkz ?_; intro c hat hwc; have HCV := Lib.hid (HV.out c hat); clear hat hwc)
      have HO4 : Hid (Own y.heap.size (wF.setCell ⟨y.heap.size, k, none⟩ (.int .i64 c)) (.slice (some ⟨y.heap.size, 0, none⟩) 9 9) (fillC CL (k + 1))) := by
        have h := HO3.out.setI (by rw [List.length_set, fillC_length]) k c HCV.out.2
        rw [fillC_set2 _ k hlt _ _ HCV.out.1] at h
        exact h
      have HS4 : Hid (Since y (wF.setCell ⟨y.heap.size, k, none⟩ (.int .i64 c))) := HS3.out.setCell (Nat.le_refl _) _
      clear HM3
      go_roundw
      case rel => exact ⟨k + 1, by omega, by go_num, HO4.out, HS4.out⟩
      case measure => simp [intOf]; omega
    · obtain rfl : k = 9 := by omega
      rw [fillC_all] at HO
      have hsz := hs0.size
      go_wp2
      go_ret
      exact ⟨_, rfl, HO.out.mono hsz, HW.out⟩
end Go.Proofs.Ytmaagihfjldgeaa
