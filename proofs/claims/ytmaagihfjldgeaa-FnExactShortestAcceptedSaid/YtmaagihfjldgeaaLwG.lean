/- The least word that a machine of pairs accepts, the program's. -/
import Derived.Test.YtmaagihfjldgeaaLwQ
import Derived.Test.YtmaagihfjldgeaaPmP
import Derived.Test.YtmaagihfjldgeaaLwD
import Derived.Test.YtmaagihfjldgeaaLwN
import Derived.Test.YtmaagihfjldgeaaCopyI
import Derived.Test.YtmaagihfjldgeaaK1
namespace Go.Proofs.Ytmaagihfjldgeaa
set_option maxRecDepth 100000
open Go.ChangeShapes Go.WideShapes Go.ChangeAt Go.RowKit Go.Maps
set_option linter.unusedVariables false
set_option linter.unusedSimpArgs false

theorem inQ_in {A : Aut} (hv : ValidA A) {s : Int} (h : InQ A s) : InI s := by
  have := hv.1
  unfold InQ at h
  unfold InI; omega
set_option maxHeartbeats 8000000 in
set_option maxRecDepth 100000 in
theorem lwordP_any (A B : Aut) (acc : List Int → Bool) (BQ BA BB : Nat) (s t : Int) (R : Option (List Int)) (w : World) (hva : ValidA A) (hvb : ValidA B) (hs : InQ A s) (ht : InQ B t)
    (hA : ∀ a b W, InQ A a → InQ B b → Since w W → Calls Try.prog 148 #[.agg #[.int .i64 a, .int .i64 b], .pointer (some ⟨BQ, 0, none⟩), .pointer (some ⟨BA, 0, none⟩), .pointer (some ⟨BB, 0, none⟩)] W fun e w' => e = .returned (.bool (acc [a, b])) ∧ Since W w')
    (hB : ∀ a b (k : Nat) W, k < 9 → InQ A a → InQ B b → Since w W → Calls Try.prog 149 #[.agg #[.int .i64 a, .int .i64 b], .int .i64 (k : Nat), .pointer (some ⟨BA, 0, none⟩), .pointer (some ⟨BB, 0, none⟩)] W fun e w' => e = .returned (.tuple #[.agg #[.int .i64 (stpQ A a k), .int .i64 (stpQ B b k)], .bool true]) ∧ Since W w')
    (hR : lwRun (prS A B) acc (pairN A B + 1) 0 [([s, t], [])] = some R) : Calls Try.prog 97 #[mchP s t BQ BA BB] w (WdOut w R) := by
  have HAC := Lib.hid hA
  have HNC := Lib.hid hB
  clear hA hB
  have HPL : Hid (pairN A B ≤ 1002001) := pairN_le hva hvb
  have HLH := Lib.hid (prS_H hva hvb)
  have HRa := Lib.hid hR
  have HIN : Hid (∀ a, InQ A a → InI a) := fun a h => inQ_in hva h
  have HINB : Hid (∀ a, InQ B a → InI a) := fun a h => inQ_in hvb h
  have HST : Hid (∀ a (k : Nat), k < 9 → InQ A a → InQ A (stpQ A a k)) := fun a k hk h => stpQ_in hva h hk
  have HSTB : Hid (∀ a (k : Nat), k < 9 → InQ B a → InQ B (stpQ B a k)) := fun a k hk h => stpQ_in hvb h hk
  obtain ⟨N, hN⟩ : ∃ N, N = pairN A B := ⟨_, rfl⟩
  rw [← hN] at HPL HLH HRa
  have hokS : Hid (∀ a b, InQ A a → InQ B b → OkS 2 [a, b]) := fun a b h1 h2 => ⟨rfl, fun x hx => by
    simp at hx
    rcases hx with hx | hx <;> subst hx
    · exact HIN.out _ h1
    · exact HINB.out _ h2⟩
  have HKEY : Hid (∀ a b, InQ A a → InQ B b → keyOf Try.prog 100 (.agg #[.int .i64 a, .int .i64 b]) = some (kyG 100 [a, b])) := fun a b h1 h2 => arrP.keyOf (hokS.out a b h1 h2)
  have HI0 : Hid (LwI (InP A B) [([s, t], [])]) := LwI.start ⟨s, t, rfl, hs, ht⟩
  have HOK0 := Lib.hid (hokS.out s t hs ht)
  have hk0 := HKEY.out s t hs ht
  clear hN hR hva hvb hs ht
  obtain ⟨y, hy⟩ : ∃ y, y = w.alloc (.cells #[.int .i64 s, .int .i64 t, .func (.func 148) #[] #[.pointer (some ⟨BQ, 0, none⟩), .pointer (some ⟨BA, 0, none⟩), .pointer (some ⟨BB, 0, none⟩)], .func (.func 149) #[] #[.pointer (some ⟨BA, 0, none⟩), .pointer (some ⟨BB, 0, none⟩)]] 104) := ⟨_, rfl⟩
  have hs0 : Since w y := by rw [hy]; exact (Since.refl w).alloc _
  have hz : y.heap.size = w.heap.size + 1 := by rw [hy]; simp
  have B0 : Hid (Blk y w.heap.size 104 #[.int .i64 s, .int .i64 t, .func (.func 148) #[] #[.pointer (some ⟨BQ, 0, none⟩), .pointer (some ⟨BA, 0, none⟩), .pointer (some ⟨BB, 0, none⟩)], .func (.func 149) #[] #[.pointer (some ⟨BA, 0, none⟩), .pointer (some ⟨BB, 0, none⟩)]]) := by rw [hy]; exact Blk.new rfl _ _
  have hmm := @run_makeMap Try.prog
  have hal : Since y (y.alloc (.map #[] 0)) := (Since.refl y).alloc _
  have hmap0 : (y.alloc (.map #[] 0)).ownsMap Try.prog 100 HV y.heap.size 0 (.map []) := World.ownsMap_made _ _ _ _
  rw [hz] at hmap0
  have HM0 := Lib.hid hmap0
  have B1 := Lib.hid (B0.out.since hal)
  have HS1 := Lib.hid (hs0.trans hal)
  obtain ⟨p0, p1, p2, p3, _⟩ := B1.out.four
  rw [hy] at p0 p1 p2 p3 HM0 B1 HS1
  have e1 : (w.alloc (.cells #[.int .i64 s, .int .i64 t, .func (.func 148) #[] #[.pointer (some ⟨BQ, 0, none⟩), .pointer (some ⟨BA, 0, none⟩), .pointer (some ⟨BB, 0, none⟩)], .func (.func 149) #[] #[.pointer (some ⟨BA, 0, none⟩), .pointer (some ⟨BB, 0, none⟩)]] 104)).heap.size = w.heap.size + 1 := by simp
  clear hmap0 hal hy B0
  go_enter Try.func97, Try.ntmps97
  go_upto_region 2 with (refine wpList_insert_own (o := ⟨none, _, _, _, _, _⟩) _ rfl (.tmp 13) (.tmp 15) (.const (.slice none 0 0)) 146 rfl 100 24 arrP.law Try.underlying146 HV (w.heap.size + 1) 0 (.map []) rfl HM0.out (by unfold maxLen; omega) _ _ (kyG 100 [s, t]) rfl rfl hk0 (.held (.slice none 0 0)) [] rfl ?_; intro w1 hm1 hg1)
  have HS2 := Lib.hid (HS1.out.grown hg1 (fun k hk => by injection hk with hk; omega))
  have B2 : Hid (Blk w1 w.heap.size 104 #[.int .i64 s, .int .i64 t, .func (.func 148) #[] #[.pointer (some ⟨BQ, 0, none⟩), .pointer (some ⟨BA, 0, none⟩), .pointer (some ⟨BB, 0, none⟩)], .func (.func 149) #[] #[.pointer (some ⟨BA, 0, none⟩), .pointer (some ⟨BB, 0, none⟩)]]) := (hg1.block _ B1.out.lt (by intro e; injection e with e; omega)).trans B1.out
  have HM1 := Lib.hid hm1
  have hz1 : w.heap.size + 2 ≤ w1.heap.size := by have := hm1.lt; omega
  clear p0 p1 p2 p3 hm1 hg1
  obtain ⟨p0, p1, p2, p3, _⟩ := B2.out.four
  go_wp2_with fail
  have HW : Hid (LwW w #[.int .i64 s, .int .i64 t, .func (.func 148) #[] #[.pointer (some ⟨BQ, 0, none⟩), .pointer (some ⟨BA, 0, none⟩), .pointer (some ⟨BB, 0, none⟩)], .func (.func 149) #[] #[.pointer (some ⟨BA, 0, none⟩), .pointer (some ⟨BB, 0, none⟩)]] (w1.alloc (.cells #[.int .i64 s, .int .i64 t] 100)) (.slice (some ⟨w1.heap.size, 0, none⟩) 1 1) [([s, t], [])]) := by
    have hal2 : Since w1 (w1.alloc (.cells #[.int .i64 s, .int .i64 t] 100)) := (Since.refl w1).alloc _
    refine ⟨World.ownsRow_lit w1 #[.int .i64 s, .int .i64 t] 1 hz1 (by unfold maxLen; omega) rfl, ⟨1, _, [.slice none 0 0], keptMapV HM1.out hal2, ⟨WdM.nil.snoc HOK0.out (by simp) _, fun i h1 h2 => ?_⟩, Nat.le_refl _⟩, B2.out.since hal2, HS2.out.trans hal2⟩
    have hi0 : i = 0 := by simp at h1; omega
    subst hi0
    exact ⟨fun x hx => by simp at hx, World.ownsRow_nil _ _ _ _⟩
  clear p0 p1 p2 p3 HM0 B1 HS1 B2 HM1 HS2 hk0
  go_loopw [5, 6] (fun v i wr => ∃ (p : Nat) (L : List (List Int × List Int)), p ≤ L.length ∧ 0 < L.length ∧ i = .int .i64 p ∧ Hid (LwI (InP A B) L) ∧ Hid (lwRun (prS A B) acc (N + 1 - p) p L = some R) ∧ Hid (LwW w #[.int .i64 s, .int .i64 t, .func (.func 148) #[] #[.pointer (some ⟨BQ, 0, none⟩), .pointer (some ⟨BA, 0, none⟩), .pointer (some ⟨BB, 0, none⟩)], .func (.func 149) #[] #[.pointer (some ⟨BA, 0, none⟩), .pointer (some ⟨BB, 0, none⟩)]] wr v L)) (fun _ i _ => N + 1 - (intOf i).toNat)
  case atStart => exact ⟨0, _, Nat.zero_le _, by simp, rfl, HI0.out, HRa.out, HW.out⟩
  case round =>
    obtain ⟨p, L, hp, hL0, rfl, HI, HRp, HWk⟩ := hrel
    have HLn : Hid (L.length ≤ N) := HI.out.room HLH.out
    have HL2 : Hid (L.length ≤ 2000000) := by
      have := HLn.out
      have := HPL.out
      unfold Hid; omega
    obtain ⟨g, cap, hv1, hg, hgl⟩ := HWk.out.own.len (by simpa using hL0)
    rw [List.length_map] at hv1
    subst hv1
    by_cases hlt : p < L.length
    · have hpi : (p : Int) < (L.length : Int) := by omega
      have hp0 : (0 : Int) ≤ (p : Int) := by omega
      obtain ⟨ws, hws⟩ : ∃ ws, ws = L[p].2 := ⟨_, rfl⟩
      obtain ⟨a0, b0, hab, hqa, hqb⟩ := HI.out.all L[p].1 (List.mem_map.2 ⟨L[p], List.getElem_mem hlt, rfl⟩)
      have HP : Hid (L[p]? = some ([a0, b0], ws)) := by
        unfold Hid
        rw [List.getElem?_eq_getElem hlt, hws, ← hab]
      have HQ : Hid (InQ A a0 ∧ InQ B b0) := ⟨hqa, hqb⟩
      obtain ⟨c0, c1⟩ := ownFp_cells HWk.out.own (by simp) p a0 b0 (by rw [List.getElem?_map, HP.out]; rfl)
      obtain ⟨n, D, vs, hm, hD, hnl⟩ := HWk.out.map
      have hvl : vs.length = L.length := by simpa using hD.wd.len
      obtain ⟨vp, hvp⟩ : ∃ v, v = vs[p]'(by omega) := ⟨_, rfl⟩
      have HOP : Hid (Own (w.heap.size + 2) wr vp ws) := by
        have h1 := hD.own p (by omega) hlt
        rw [← hvp, ← hws] at h1
        exact h1
      have hkp := HKEY.out a0 b0 hqa hqb
      obtain ⟨v', ps, hrun, hv'⟩ := hm.lookup arrP.law Try.underlying146 (zeroIs wr) (zd := .held (.slice none 0 0)) (zp := []) rfl hkp
      have hat : D.atKey (kyG 100 [a0, b0]) (.held (.slice none 0 0)) = .held vp := by
        have h1 := hD.wd.at' p (by simpa using hlt) (by omega) (.held (.slice none 0 0))
        rw [List.getElem_map, hab, ← hvp] at h1
        exact h1
      have hvv : vp = v' := by
        rw [hat] at hv'
        unfold HV at hv'
        injection hv' with hv'
        have h2 := congrArg Prod.fst hv'
        injection h2 with h2
        exact h2.symm
      subst hvv
      have hwr2 : w.heap.size + 2 ≤ wr.heap.size := by have := hm.lt; omega
      obtain ⟨X, hX⟩ : ∃ X, X = acc [a0, b0] := ⟨_, rfl⟩
      have HXX : Hid (acc [a0, b0] = X) := hX.symm
      have HACp : Hid (∀ W, Since w W → Calls Try.prog 148 #[.agg #[.int .i64 a0, .int .i64 b0], .pointer (some ⟨BQ, 0, none⟩), .pointer (some ⟨BA, 0, none⟩), .pointer (some ⟨BB, 0, none⟩)] W fun e w' => e = .returned (.bool X) ∧ Since W w') := fun W h => by rw [hX]; exact HAC.out a0 b0 W HQ.out.1 HQ.out.2 h
      have HK6 : Hid (∀ w', Since wr w' → w'.cell? ⟨w.heap.size, 0, none⟩ = some (.int .i64 s) ∧ w'.cell? ⟨w.heap.size, 1, none⟩ = some (.int .i64 t) ∧ w'.cell? ⟨w.heap.size, 2, none⟩ = some (.func (.func 148) #[] #[.pointer (some ⟨BQ, 0, none⟩), .pointer (some ⟨BA, 0, none⟩), .pointer (some ⟨BB, 0, none⟩)]) ∧ w'.cell? ⟨w.heap.size, 3, none⟩ = some (.func (.func 149) #[] #[.pointer (some ⟨BA, 0, none⟩), .pointer (some ⟨BB, 0, none⟩)]) ∧ w'.cell? ⟨g, p * 2, none⟩ = some (.int .i64 a0) ∧ w'.cell? ⟨g, p * 2 + 1, none⟩ = some (.int .i64 b0)) := by
        intro w' hs
        obtain ⟨r0, r1, r2, r3, _⟩ := (HWk.out.box.since hs).four
        exact ⟨r0, r1, r2, r3, (Below.cell hs (p := ⟨g, p * 2, none⟩) hgl).trans c0, (Below.cell hs (p := ⟨g, p * 2 + 1, none⟩) hgl).trans c1⟩
      clear hX hws hab hqa hqb hD hat hv' hvp hm
      go_wp2_with fail
      refine wp_region_held_drew (S := (fun w' => w'.cell? ⟨w.heap.size, 0, none⟩ = some (.int .i64 s) ∧ w'.cell? ⟨w.heap.size, 1, none⟩ = some (.int .i64 t) ∧ w'.cell? ⟨w.heap.size, 2, none⟩ = some (.func (.func 148) #[] #[.pointer (some ⟨BQ, 0, none⟩), .pointer (some ⟨BA, 0, none⟩), .pointer (some ⟨BB, 0, none⟩)]) ∧ w'.cell? ⟨w.heap.size, 3, none⟩ = some (.func (.func 149) #[] #[.pointer (some ⟨BA, 0, none⟩), .pointer (some ⟨BB, 0, none⟩)]) ∧ w'.cell? ⟨g, p * 2, none⟩ = some (.int .i64 a0) ∧ w'.cell? ⟨g, p * 2 + 1, none⟩ = some (.int .i64 b0))) (by kernel_rfl) (HK6.out _ (Since.refl _).drew) (fun hHeld => ?_)
      refine take_yes 0 (some 32) (v := ?_) rfl (by kernel_rfl) (by kernel_rfl) (by kernel_rfl) (by kernel_rfl) (fun _ _ _ h => h) (by rfl) (by assumption) ?_ ?_
      rotate_left
      · (intro w' hSw; (try dsimp only at hSw); go_simp; try with_reducible rfl)
      try simp only [Act.put, List.setIfInBounds_toArray, List.set_cons_zero, List.set_cons_succ]
      refine take_yes 1 (some 33) (v := ?_) rfl (by kernel_rfl) (by kernel_rfl) (by kernel_rfl) (by kernel_rfl) (fun _ _ _ h => h) (by rfl) (by assumption) ?_ ?_
      rotate_left
      · (intro w' hSw; (try dsimp only at hSw); go_simp; try with_reducible rfl)
      try simp only [Act.put, List.setIfInBounds_toArray, List.set_cons_zero, List.set_cons_succ]
      refine take_yes 2 (some 34) (v := ?_) rfl (by kernel_rfl) (by kernel_rfl) (by kernel_rfl) (by kernel_rfl) (fun _ _ _ h => h) (by rfl) (by assumption) ?_ ?_
      rotate_left
      · (intro w' hSw; (try dsimp only at hSw); go_simp; try with_reducible rfl)
      try simp only [Act.put, List.setIfInBounds_toArray, List.set_cons_zero, List.set_cons_succ]
      refine take_yes 3 (some 35) (v := ?_) rfl (by kernel_rfl) (by kernel_rfl) (by kernel_rfl) (by kernel_rfl) (fun _ _ _ h => h) (by rfl) (by assumption) ?_ ?_
      rotate_left
      · (intro w' hSw; (try dsimp only at hSw); go_simp; try with_reducible rfl)
      try simp only [Act.put, List.setIfInBounds_toArray, List.set_cons_zero, List.set_cons_succ]
      refine take_yes 4 (some 36) (v := ?_) rfl (by kernel_rfl) (by kernel_rfl) (by kernel_rfl) (by kernel_rfl) (fun _ _ _ h => h) (by rfl) (by assumption) ?_ ?_
      rotate_left
      · (intro w' hSw; (try dsimp only at hSw); go_simp; try with_reducible rfl)
      try simp only [Act.put, List.setIfInBounds_toArray, List.set_cons_zero, List.set_cons_succ]
      refine take_yes 5 (some 37) (v := ?_) rfl (by kernel_rfl) (by kernel_rfl) (by kernel_rfl) (by kernel_rfl) (fun _ _ _ h => h) (by rfl) (by assumption) ?_ ?_
      rotate_left
      · (intro w' hSw; (try dsimp only at hSw); go_simp; try with_reducible rfl)
      try simp only [Act.put, List.setIfInBounds_toArray, List.set_cons_zero, List.set_cons_succ]
      refine take_run 6 rfl (by kernel_rfl) (by rfl) (fun K hK => ?_)
      go_simp
      refine (HACp.out _ (HWk.out.since.trans ((Since.refl wr).drew))).mono ?_
      rintro en wq2 ⟨rfl, hq⟩
      have hc3 := ((Since.refl wr).drew).trans hq
      refine hK.out _ _ (HK6.out _ hc3) (fun hHeld1 => ?_)
      clear hK K hHeld hq
      try simp only [Act.put, List.setIfInBounds_toArray, List.set_cons_zero, List.set_cons_succ]
      refine wpAnyH_done (by kernel_rfl) ?_ _
      clear hHeld1
      have hcA := hc3
      have HWA := Lib.hid (HWk.out.since' hcA)
      have HOA := Lib.hid (HOP.out.since hcA)
      clear HK6 hcA c0 c1 hrun hkp HACp
      cases X with
      | true =>
        have HF : Hid (R = some ws) := by
          have h1 := HRp.out
          rw [show N + 1 - p = (N - p) + 1 from by have := HLn.out; omega, lwRun_acc HP.out HXX.out] at h1
          injection h1 with h1; exact h1.symm
        go_wp2_with fail
        go_ret2
        rw [HF.out]
        exact ⟨_, rfl, HOA.out.mono (by omega), HWA.out.since⟩
      | false =>
        have HR1 : Hid (lwRun (prS A B) acc (N - p) (p + 1) (lwRow (prS A B) [a0, b0] ws (9 - 0) L) = some R) := by
          have h1 := HRp.out
          rw [show N + 1 - p = (N - p) + 1 from by have := HLn.out; omega, lwRun_go HP.out HXX.out] at h1
          exact h1
        clear HRp HXX HLn HWk HOP
        go_wp2_with fail
        go_loopw [5, 40] (fun v i wr => ∃ (k : Nat) (L : List (List Int × List Int)), k ≤ 9 ∧ p < L.length ∧ i = .int .i64 k ∧ Hid (LwI (InP A B) L) ∧ Hid (L[p]? = some ([a0, b0], ws)) ∧ Hid (lwRun (prS A B) acc (N - p) (p + 1) (lwRow (prS A B) [a0, b0] ws (9 - k) L) = some R) ∧ Hid (LwW w #[.int .i64 s, .int .i64 t, .func (.func 148) #[] #[.pointer (some ⟨BQ, 0, none⟩), .pointer (some ⟨BA, 0, none⟩), .pointer (some ⟨BB, 0, none⟩)], .func (.func 149) #[] #[.pointer (some ⟨BA, 0, none⟩), .pointer (some ⟨BB, 0, none⟩)]] wr v L) ∧ Hid (Own (w.heap.size + 2) wr vp ws)) (fun _ i _ => 9 - (intOf i).toNat)
        case atStart => exact ⟨0, L, Nat.zero_le _, hlt, rfl, HI.out, HP.out, HR1.out, HWA.out, HOA.out⟩
        case round =>
          clear HI HP HR1 HWA HOA HL2 hg hgl hwr2 hlt hpi hL0 hp hnl hvl
          obtain ⟨k, L, hk, hpL, rfl, HIk, HP, HRk, HWk, HOP⟩ := hrel
          have HLn : Hid (L.length ≤ N) := HIk.out.room HLH.out
          have HL2 : Hid (L.length ≤ 2000000) := by
            have := HLn.out
            have := HPL.out
            unfold Hid; omega
          obtain ⟨g, cap, hv1, hg, hgl⟩ := HWk.out.own.len (by simp; omega)
          rw [List.length_map] at hv1
          subst hv1
          by_cases hkt : k < 9
          · have hki : (k : Int) < 9 := by omega
            have hk0 : (0 : Int) ≤ (k : Int) := by omega
            have hp0 : (0 : Int) ≤ (p : Int) := by omega
            have hpi2 : (p : Int) < (L.length : Int) := by omega
            obtain ⟨c0, c1⟩ := ownFp_cells HWk.out.own (by simp) p a0 b0 (by rw [List.getElem?_map, HP.out]; rfl)
            have hwr2 : w.heap.size + 2 ≤ wr.heap.size := by
              obtain ⟨_, _, _, hm0, _, _⟩ := HWk.out.map
              have := hm0.lt
              omega
            obtain ⟨za, hza⟩ : ∃ z, z = stpQ A a0 k := ⟨_, rfl⟩
            obtain ⟨zb, hzb⟩ : ∃ z, z = stpQ B b0 k := ⟨_, rfl⟩
            obtain ⟨ok, hok⟩ : ∃ b : Bool, b = true := ⟨_, rfl⟩
            have HNXp : Hid (∀ W, Since w W → Calls Try.prog 149 #[.agg #[.int .i64 a0, .int .i64 b0], .int .i64 (k : Nat), .pointer (some ⟨BA, 0, none⟩), .pointer (some ⟨BB, 0, none⟩)] W fun e w' => e = .returned (.tuple #[.agg #[.int .i64 za, .int .i64 zb], .bool ok]) ∧ Since W w') := fun W h => by rw [hok, hza, hzb]; exact HNC.out a0 b0 k W hkt HQ.out.1 HQ.out.2 h
            have HZ1 : Hid (ok = true → prS A B [a0, b0] k = some [za, zb]) := fun _ => by
              unfold prS
              rw [hza, hzb]; rfl
            have HZ0 : Hid (ok = false → prS A B [a0, b0] k = none) := fun h => by rw [hok] at h; cases h
            have hqa : InQ A za := by rw [hza]; exact HST.out a0 k hkt HQ.out.1
            have hqb : InQ B zb := by rw [hzb]; exact HSTB.out b0 k hkt HQ.out.2
            have hokz : OkS 2 [za, zb] := hokS.out za zb hqa hqb
            have hkz := HKEY.out za zb hqa hqb
            obtain ⟨zd, HZD⟩ : ∃ d : Bool, Hid (d = decide ([za, zb] ∈ L.map (·.1))) := ⟨_, rfl⟩
            clear hok hza hzb hqa hqb
            have HK6 : Hid (∀ w', Since wr w' → w'.cell? ⟨w.heap.size, 0, none⟩ = some (.int .i64 s) ∧ w'.cell? ⟨w.heap.size, 1, none⟩ = some (.int .i64 t) ∧ w'.cell? ⟨w.heap.size, 2, none⟩ = some (.func (.func 148) #[] #[.pointer (some ⟨BQ, 0, none⟩), .pointer (some ⟨BA, 0, none⟩), .pointer (some ⟨BB, 0, none⟩)]) ∧ w'.cell? ⟨w.heap.size, 3, none⟩ = some (.func (.func 149) #[] #[.pointer (some ⟨BA, 0, none⟩), .pointer (some ⟨BB, 0, none⟩)]) ∧ w'.cell? ⟨g, p * 2, none⟩ = some (.int .i64 a0) ∧ w'.cell? ⟨g, p * 2 + 1, none⟩ = some (.int .i64 b0)) := by
              intro w' hs
              obtain ⟨r0, r1, r2, r3, _⟩ := (HWk.out.box.since hs).four
              exact ⟨r0, r1, r2, r3, (Below.cell hs (p := ⟨g, p * 2, none⟩) hgl).trans c0, (Below.cell hs (p := ⟨g, p * 2 + 1, none⟩) hgl).trans c1⟩
            clear c0 c1
            go_wp2_with fail
            refine wp_region_held_drew (S := (fun w' => w'.cell? ⟨w.heap.size, 0, none⟩ = some (.int .i64 s) ∧ w'.cell? ⟨w.heap.size, 1, none⟩ = some (.int .i64 t) ∧ w'.cell? ⟨w.heap.size, 2, none⟩ = some (.func (.func 148) #[] #[.pointer (some ⟨BQ, 0, none⟩), .pointer (some ⟨BA, 0, none⟩), .pointer (some ⟨BB, 0, none⟩)]) ∧ w'.cell? ⟨w.heap.size, 3, none⟩ = some (.func (.func 149) #[] #[.pointer (some ⟨BA, 0, none⟩), .pointer (some ⟨BB, 0, none⟩)]) ∧ w'.cell? ⟨g, p * 2, none⟩ = some (.int .i64 a0) ∧ w'.cell? ⟨g, p * 2 + 1, none⟩ = some (.int .i64 b0))) (by kernel_rfl) (HK6.out _ (Since.refl _).drew) (fun hHeld => ?_)
            refine take_yes 0 (some 44) (v := ?_) rfl (by kernel_rfl) (by kernel_rfl) (by kernel_rfl) (by kernel_rfl) (fun _ _ _ h => h) (by rfl) (by assumption) ?_ ?_
            rotate_left
            · (intro w' hSw; (try dsimp only at hSw); go_simp; try with_reducible rfl)
            try simp only [Act.put, List.setIfInBounds_toArray, List.set_cons_zero, List.set_cons_succ]
            refine take_yes 1 (some 45) (v := ?_) rfl (by kernel_rfl) (by kernel_rfl) (by kernel_rfl) (by kernel_rfl) (fun _ _ _ h => h) (by rfl) (by assumption) ?_ ?_
            rotate_left
            · (intro w' hSw; (try dsimp only at hSw); go_simp; try with_reducible rfl)
            try simp only [Act.put, List.setIfInBounds_toArray, List.set_cons_zero, List.set_cons_succ]
            refine take_yes 2 (some 46) (v := ?_) rfl (by kernel_rfl) (by kernel_rfl) (by kernel_rfl) (by kernel_rfl) (fun _ _ _ h => h) (by rfl) (by assumption) ?_ ?_
            rotate_left
            · (intro w' hSw; (try dsimp only at hSw); go_simp; try with_reducible rfl)
            try simp only [Act.put, List.setIfInBounds_toArray, List.set_cons_zero, List.set_cons_succ]
            refine take_yes 3 (some 47) (v := ?_) rfl (by kernel_rfl) (by kernel_rfl) (by kernel_rfl) (by kernel_rfl) (fun _ _ _ h => h) (by rfl) (by assumption) ?_ ?_
            rotate_left
            · (intro w' hSw; (try dsimp only at hSw); go_simp; try with_reducible rfl)
            try simp only [Act.put, List.setIfInBounds_toArray, List.set_cons_zero, List.set_cons_succ]
            refine take_yes 4 (some 48) (v := ?_) rfl (by kernel_rfl) (by kernel_rfl) (by kernel_rfl) (by kernel_rfl) (fun _ _ _ h => h) (by rfl) (by assumption) ?_ ?_
            rotate_left
            · (intro w' hSw; (try dsimp only at hSw); go_simp; try with_reducible rfl)
            try simp only [Act.put, List.setIfInBounds_toArray, List.set_cons_zero, List.set_cons_succ]
            refine take_yes 5 (some 49) (v := ?_) rfl (by kernel_rfl) (by kernel_rfl) (by kernel_rfl) (by kernel_rfl) (fun _ _ _ h => h) (by rfl) (by assumption) ?_ ?_
            rotate_left
            · (intro w' hSw; (try dsimp only at hSw); go_simp; try with_reducible rfl)
            try simp only [Act.put, List.setIfInBounds_toArray, List.set_cons_zero, List.set_cons_succ]
            refine take_yes 6 (some 50) (v := ?_) rfl (by kernel_rfl) (by kernel_rfl) (by kernel_rfl) (by kernel_rfl) (fun _ _ _ h => h) (by rfl) (by assumption) ?_ ?_
            rotate_left
            · (intro w' hSw; (try dsimp only at hSw); go_simp; try with_reducible rfl)
            try simp only [Act.put, List.setIfInBounds_toArray, List.set_cons_zero, List.set_cons_succ]
            refine take_two 7 11 rfl rfl (by kernel_rfl) (by rfl) (by rfl) (fun K hK => ?_) (fun K hK => ?_)
            · skip
              go_simp
              refine (HNXp.out _ (HWk.out.since.trans ((Since.refl wr).drew))).mono ?_
              rintro en wq27 ⟨rfl, hq⟩
              have hc28 := ((Since.refl wr).drew).trans hq
              refine hK.out _ _ (HK6.out _ hc28) (fun hHeld26 => ?_)
              clear hK K hHeld hq
              try simp only [Act.put, List.setIfInBounds_toArray, List.set_cons_zero, List.set_cons_succ]
              refine take_yes 8 (some 43) (v := ?_) rfl (by kernel_rfl) (by kernel_rfl) (by kernel_rfl) (by kernel_rfl) (fun _ _ _ h => h) (by rfl) (by assumption) ?_ ?_
              rotate_left
              · (intro w' hSw; (try dsimp only at hSw); go_simp; try with_reducible rfl)
              try simp only [Act.put, List.setIfInBounds_toArray, List.set_cons_zero, List.set_cons_succ]
              refine take_yes 9 (some 52) (v := ?_) rfl (by kernel_rfl) (by kernel_rfl) (by kernel_rfl) (by kernel_rfl) (fun _ _ _ h => h) (by rfl) (by assumption) ?_ ?_
              rotate_left
              · (intro w' hSw; (try dsimp only at hSw); go_simp; try with_reducible rfl)
              try simp only [Act.put, List.setIfInBounds_toArray, List.set_cons_zero, List.set_cons_succ]
              refine take_yes 10 (some 53) (v := ?_) rfl (by kernel_rfl) (by kernel_rfl) (by kernel_rfl) (by kernel_rfl) (fun _ _ _ h => h) (by rfl) (by assumption) ?_ ?_
              rotate_left
              · (intro w' hSw; (try dsimp only at hSw); go_simp; try with_reducible rfl)
              try simp only [Act.put, List.setIfInBounds_toArray, List.set_cons_zero, List.set_cons_succ]
              refine take_run 11 rfl (by kernel_rfl) (by rfl) (fun K hK => ?_)
              go_simp
              have hc30 := Since.alloc (hc28) (.cells #[.int .i64 0, .int .i64 0] 100)
              have BA31 : Hid (Blk (wq27.alloc (.cells #[.int .i64 0, .int .i64 0] 100)) (wq27.heap.size) 100 #[.int .i64 0, .int .i64 0]) := Blk.new (by first | rfl | simp) _ _
              have hA32 : wr.heap.size ≤ wq27.heap.size := by have := Since.lt (hc28); first | exact this | (simp at this; exact this)
              refine hK.out _ _ (HK6.out _ hc30) (fun hHeld29 => ?_)
              clear hK K hHeld26
              try simp only [Act.put, List.setIfInBounds_toArray, List.set_cons_zero, List.set_cons_succ]
              refine take_run 12 rfl (by kernel_rfl) (by rfl) (fun K hK => ?_)
              obtain ⟨s0, s1, s2, s3⟩ := (BA31.out).two
              go_simp
              clear s0 s1 s2 s3
              have hcF := Since.alloc (hc28) (.cells #[.int .i64 za, .int .i64 zb] 100)
              have BF : Hid (Blk (wq27.alloc (.cells #[.int .i64 za, .int .i64 zb] 100)) (wq27.heap.size) 100 #[.int .i64 za, .int .i64 zb]) := Blk.new (by first | rfl | simp) _ _
              have hGF : wr.heap.size ≤ wq27.heap.size := by have := Since.lt (hc28); first | exact this | (simp at this; exact this)
              refine hK.out _ _ (HK6.out _ hcF) (fun hHeld33 => ?_)
              clear hK K hHeld29
              try simp only [Act.put, List.setIfInBounds_toArray, List.set_cons_zero, List.set_cons_succ]
              refine take_yes 13 (some 10) (v := ?_) rfl (by kernel_rfl) (by kernel_rfl) (by kernel_rfl) (by kernel_rfl) (fun _ _ _ h => h) (by rfl) (by assumption) ?_ ?_
              rotate_left
              · (intro w' hSw; (try dsimp only at hSw); go_simp; try with_reducible rfl)
              try simp only [Act.put, List.setIfInBounds_toArray, List.set_cons_zero, List.set_cons_succ]
              refine wpAnyH_done (by kernel_rfl) ?_ _
              clear hHeld33
              have HWF0 := Lib.hid (HWk.out.since' hcF)
              have HOPF0 := Lib.hid (HOP.out.since hcF)
              have hsz2 : w.heap.size + 2 ≤ wr.heap.size := hwr2
              obtain ⟨wF, hwF⟩ : ∃ wF, wF = (wq27.alloc (.cells #[.int .i64 za, .int .i64 zb] 100)) := ⟨_, rfl⟩
              obtain ⟨G, hG⟩ : ∃ G, G = wq27.heap.size := ⟨_, rfl⟩
              have hGm : w.heap.size + 1 ≠ wq27.heap.size := by have := hGF; omega
              rw [← hG] at hGm
              rw [← hwF] at hcF BF HWF0 HOPF0
              rw [← hG] at BF
              try rw [← hwF]
              try rw [← hG]
              clear hwF hG hGF HOP
              have HOP := HOPF0
              obtain ⟨n, D, vs, hm, hD, hnl⟩ := HWF0.out.map
              have HWF := HWF0
              have HMF := Lib.hid hm
              have HDF := Lib.hid hD
              have HHS : Hid (Maps.has D (kyG 100 [za, zb]) = zd) := by
                unfold Hid
                rw [hD.wd.has _ hokz]; exact HZD.out.symm
              clear hm hD HWF0 HOPF0
              obtain ⟨s0, s1, _, _⟩ := BF.out.two
              have hL2x := HL2.out
              cases ok with
              | false =>
                have HRn : Hid (lwRun (prS A B) acc (N - p) (p + 1) (lwRow (prS A B) [a0, b0] ws (9 - (k + 1)) L) = some R) := by
                  have h1 := HRk.out
                  rw [lwRow_none _ _ _ k hkt L (HZ0.out rfl)] at h1
                  exact h1
                go_wp2_with (at_lookup; refine wpList_lookup_own_ok _ rfl (.tmp 55) (.tmp 56) 146 rfl 100 24 arrP.law Try.underlying146 HV (zeroIs _) (.held (.slice none 0 0)) [] rfl (w.heap.size + 1) n D rfl HMF.out (.agg #[.int .i64 za, .int .i64 zb]) (kyG 100 [za, zb]) rfl hkz ?_; intro c ps hcv; clear hcv; rw [HHS.out])
                go_roundw
                case rel => exact ⟨k + 1, L, by omega, hpL, by go_num, HIk.out, HP.out, HRn.out, HWF.out, HOP.out⟩
                case measure => simp [intOf]; omega
              | true =>
                cases zd with
                | true =>
                  have HRn : Hid (lwRun (prS A B) acc (N - p) (p + 1) (lwRow (prS A B) [a0, b0] ws (9 - (k + 1)) L) = some R) := by
                    have h1 := HRk.out
                    rw [lwRow_old _ _ _ k hkt L [za, zb] (HZ1.out rfl) (of_decide_eq_true HZD.out.symm)] at h1
                    exact h1
                  go_wp2_with (at_lookup; refine wpList_lookup_own_ok _ rfl (.tmp 55) (.tmp 56) 146 rfl 100 24 arrP.law Try.underlying146 HV (zeroIs _) (.held (.slice none 0 0)) [] rfl (w.heap.size + 1) n D rfl HMF.out (.agg #[.int .i64 za, .int .i64 zb]) (kyG 100 [za, zb]) rfl hkz ?_; intro c ps hcv; clear hcv; rw [HHS.out])
                  go_roundw
                  case rel => exact ⟨k + 1, L, by omega, hpL, by go_num, HIk.out, HP.out, HRn.out, HWF.out, HOP.out⟩
                  case measure => simp [intOf]; omega
                | false =>
                  have hnew : [za, zb] ∉ L.map (·.1) := of_decide_eq_false HZD.out.symm
                  have HR2 : Hid (lwRun (prS A B) acc (N - p) (p + 1) (lwRow (prS A B) [a0, b0] ws (9 - (k + 1)) (L ++ [([za, zb], ws ++ [(k : Int)])])) = some R) := by
                    have h1 := HRk.out
                    rw [lwRow_new _ _ _ k hkt L [za, zb] (HZ1.out rfl) hnew] at h1
                    exact h1
                  have HI2 : Hid (LwI (InP A B) (L ++ [([za, zb], ws ++ [(k : Int)])])) := HIk.out.snoc HP.out hnew (HLH.out.step [a0, b0] k [za, zb] hkt ⟨a0, b0, rfl, HQ.out.1, HQ.out.2⟩ (HZ1.out rfl)) hkt
                  have hnm : n < maxLen := by unfold maxLen; omega
                  have hwl : ws.length ≤ 1048577 := by have h1 := HIk.out.short p _ HP.out; simp at h1; have h2 := HLn.out; have h3 := HPL.out; omega
                  have hkin : InI (k : Int) := by unfold InI; omega
                  have HBF6 : Hid (∀ w5 w6, Since wF w5 → w5.grownBy w6 (some (w.heap.size + 1)) → Blk w6 G 100 #[.int .i64 za, .int .i64 zb]) := by
                    intro w5 w6 h5 h6
                    have b5 := BF.out.since h5
                    exact (h6.block _ b5.lt (by intro e; injection e with e; omega)).trans b5
                  have HK15 : Hid (∀ w', Since wF w' → w'.cell? ⟨G, 0, none⟩ = some (.int .i64 za) ∧ w'.cell? ⟨G, 1, none⟩ = some (.int .i64 zb)) := by
                    intro w' h
                    obtain ⟨r0, r1, _, _⟩ := (BF.out.since h).two
                    exact ⟨r0, r1⟩
                  have HK15u : Hid (∀ w5 w', Since wF w5 → w5.grownBy w' (some (w.heap.size + 1)) → w'.cell? ⟨G, 0, none⟩ = some (.int .i64 za) ∧ w'.cell? ⟨G, 1, none⟩ = some (.int .i64 zb)) := by
                    intro w5 w' h5 h6
                    obtain ⟨r0, r1, _, _⟩ := (HBF6.out w5 w' h5 h6).two
                    exact ⟨r0, r1⟩
                  clear HZD
                  go_upto_region 15 with (at_lookup; refine wpList_lookup_own_ok _ rfl (.tmp 55) (.tmp 56) 146 rfl 100 24 arrP.law Try.underlying146 HV (zeroIs _) (.held (.slice none 0 0)) [] rfl (w.heap.size + 1) n D rfl HMF.out (.agg #[.int .i64 za, .int .i64 zb]) (kyG 100 [za, zb]) rfl hkz ?_; intro c ps hcv; clear hcv; rw [HHS.out])
                  refine wp_region_held_drew (S := (fun w' => w'.cell? ⟨G, 0, none⟩ = some (.int .i64 za) ∧ w'.cell? ⟨G, 1, none⟩ = some (.int .i64 zb))) (by kernel_rfl) (HK15.out _ (Since.refl _).drew) (fun hHeld => ?_)
                  refine take_yes 0 (some 65) (v := ?_) rfl (by kernel_rfl) (by kernel_rfl) (by kernel_rfl) (by kernel_rfl) (fun _ _ _ h => h) (by rfl) (by assumption) ?_ ?_
                  rotate_left
                  · (intro w' hSw; (try dsimp only at hSw); go_simp; try with_reducible rfl)
                  try simp only [Act.put, List.setIfInBounds_toArray, List.set_cons_zero, List.set_cons_succ]
                  refine take_yes 1 (some 66) (v := ?_) rfl (by kernel_rfl) (by kernel_rfl) (by kernel_rfl) (by kernel_rfl) (fun _ _ _ h => h) (by rfl) (by assumption) ?_ ?_
                  rotate_left
                  · (intro w' hSw; (try dsimp only at hSw); go_simp; try with_reducible rfl)
                  try simp only [Act.put, List.setIfInBounds_toArray, List.set_cons_zero, List.set_cons_succ]
                  refine take_yes 2 (some 67) (v := ?_) rfl (by kernel_rfl) (by kernel_rfl) (by kernel_rfl) (by kernel_rfl) (fun _ _ _ h => h) (by rfl) (by assumption) ?_ ?_
                  rotate_left
                  · (intro w' hSw; (try dsimp only at hSw); go_simp; try with_reducible rfl)
                  try simp only [Act.put, List.setIfInBounds_toArray, List.set_cons_zero, List.set_cons_succ]
                  refine take_yes 4 (some 69) (v := ?_) rfl (by kernel_rfl) (by kernel_rfl) (by kernel_rfl) (by kernel_rfl) (fun _ _ _ h => h) (by rfl) (by assumption) ?_ ?_
                  rotate_left
                  · (intro w' hSw; (try dsimp only at hSw); go_simp; try with_reducible rfl)
                  try simp only [Act.put, List.setIfInBounds_toArray, List.set_cons_zero, List.set_cons_succ]
                  refine take_two 3 5 rfl rfl (by kernel_rfl) (by rfl) (by rfl) (fun K hK => ?_) (fun K hK => ?_)
                  · skip
                    go_simp
                    refine (copiedI_any vp ws _ (HOP.out.at.since ((Since.refl wF).drew)) hwl).mono ?_
                    rintro en wq5 ⟨vc8, rfl, hoc, hq⟩
                    have hc6 := ((Since.refl wF).drew).trans hq
                    have HVC7 := Lib.hid (Own.mono (base' := wF.heap.size) hoc (by have := Since.lt ((Since.refl wF).drew); first | exact this | (simp at this; exact this)))
                    refine hK.out _ _ (HK15.out _ hc6) (fun hHeld4 => ?_)
                    clear hK K hHeld hq hoc
                    try simp only [Act.put, List.setIfInBounds_toArray, List.set_cons_zero, List.set_cons_succ]
                    refine take_run 5 rfl (by kernel_rfl) (by rfl) (fun K hK => ?_)
                    go_simp
                    have hc10 := Since.alloc (hc6) (.cells #[.int .i64 (k : Int)] 3)
                    have HLB11 : Hid (Own wF.heap.size (wq5.alloc (.cells #[.int .i64 (k : Int)] 3)) (.slice (some ⟨wq5.heap.size, 0, none⟩) 1 1) [(k : Int)]) := ownT_lit 3 _ wq5 (by have := Since.lt (hc6); first | exact this | (simp at this; exact this)) (k : Int) hkin
                    have HVC12 := Lib.hid ((HVC7.out).since ((Since.refl wq5).alloc (.cells #[.int .i64 (k : Int)] 3)))
                    refine hK.out _ _ (HK15.out _ hc10) (fun hHeld9 => ?_)
                    clear hK K hHeld4
                    try simp only [Act.put, List.setIfInBounds_toArray, List.set_cons_zero, List.set_cons_succ]
                    refine take_run 6 rfl (by kernel_rfl) (by rfl) (fun K hK => ?_)
                    refine wp_append_ints (.tmp 68) (.tmp 70) rfl wF.heap.size vc8 ws (by first | rfl | simp [Act.eval]) (HVC12.out) (some ⟨wq5.heap.size, 0, none⟩) 1 1 (by first | rfl | simp [Act.eval]) [(k : Int)] (HLB11.out).at (by simp; omega) (by have := Since.lt (hc10); first | exact this | (simp at this; exact this)) ?_
                    intro v5 w5 ho5 hg5 hb5
                    have hc5 := Since.grown (hc10) hg5 (fun j hj => ((HVC12.out).2.lt j hj).1)
                    have HO5 := Lib.hid ho5
                    refine hK.out _ _ (HK15.out _ hc5) (fun hHeld13 => ?_)
                    clear hK K hHeld9 ho5 hg5 hb5
                    try simp only [Act.put, List.setIfInBounds_toArray, List.set_cons_zero, List.set_cons_succ]
                    refine take_run 7 rfl (by kernel_rfl) (by rfl) (fun K hK => ?_)
                    refine wp_mapUpdate_own (.tmp 65) (.tmp 66) (.tmp 71) 146 rfl 100 24 arrP.law Try.underlying146 HV (w.heap.size + 1) n D (by first | rfl | simp [Act.eval]) (keptMapV HMF.out hc5) hnm (.agg #[.int .i64 za, .int .i64 zb]) v5 (kyG 100 [za, zb]) (by first | rfl | simp [Act.eval]) (by first | rfl | simp [Act.eval]) hkz (.held v5) [] rfl ?_
                    intro w6 hm6 hg6
                    have HM6 := Lib.hid hm6
                    have HG6 := Lib.hid hg6
                    refine hK.out _ _ (HK15u.out _ _ hc5 hg6) (fun hHeld14 => ?_)
                    clear hK K hHeld13 hm6
                    try simp only [Act.put, List.setIfInBounds_toArray, List.set_cons_zero, List.set_cons_succ]
                    refine wpAnyH_done (by kernel_rfl) ?_ _
                    clear hHeld14
                    have BF6 := Lib.hid (HBF6.out _ _ hc5 hg6)
                    have HO6 : Hid (OwnFp (w.heap.size + 2) w6 (.slice (some ⟨g, 0, none⟩) L.length cap) (L.map (·.1))) := (HWF.out.own.since hc5).kept hg6 (.inr (by intro e; have hj2 : some g = some (w.heap.size + 1) := e; injection hj2 with e; omega))
                    have hz6 : w.heap.size + 2 ≤ w6.heap.size := by have := HM6.out.lt; omega
                    obtain ⟨s0, s1, _, _⟩ := BF6.out.two
                    clear hg6
                    have hlen : (L.map (·.1)).length ≤ 2000000 := by have := HL2.out; simpa using this
                    go_wp2_with (at_builtin; go_must (refine wpList_append_fp rfl (.tmp 72) (.tmp 74) rfl (.slice (some ⟨g, 0, none⟩) L.length cap) (L.map (·.1)) (by first | rfl | simp [Act.eval]) HO6.out za zb (by first | rfl | simp [Act.eval]) hlen hz6 ?_); intro v7 w7 ho7 hg7)
                    have HW7 : Hid (LwW w #[.int .i64 s, .int .i64 t, .func (.func 148) #[] #[.pointer (some ⟨BQ, 0, none⟩), .pointer (some ⟨BA, 0, none⟩), .pointer (some ⟨BB, 0, none⟩)], .func (.func 149) #[] #[.pointer (some ⟨BA, 0, none⟩), .pointer (some ⟨BB, 0, none⟩)]] w7 v7 (L ++ [([za, zb], ws ++ [(k : Int)])])) := HWF.out.snoc HMF.out HDF.out hnl hokz hnew hc5 HO5.out HM6.out HG6.out ho7 hg7
                    have HOP7 : Hid (Own (w.heap.size + 2) w7 vp ws) := HWF.out.keepOwn hc5 HG6.out hg7 HOP.out
                    clear ho7 hg7
                    go_roundw
                    case rel => exact ⟨k + 1, L ++ [([za, zb], ws ++ [(k : Int)])], by omega, by simp; omega, by go_num, HI2.out, by (unfold Hid; rw [List.getElem?_append_left hpL]; exact HP.out), HR2.out, HW7.out, HOP7.out⟩
                    case measure => simp [intOf]; omega
                  · skip
                    go_simp
                    have hc16 := Since.alloc ((Since.refl wF).drew) (.cells #[.int .i64 (k : Int)] 3)
                    have HLB17 : Hid (Own wF.heap.size (wF.drew.alloc (.cells #[.int .i64 (k : Int)] 3)) (.slice (some ⟨wF.heap.size, 0, none⟩) 1 1) [(k : Int)]) := ownT_lit 3 _ wF.drew (by have := Since.lt ((Since.refl wF).drew); first | exact this | (simp at this; exact this)) (k : Int) hkin
                    refine hK.out _ _ (HK15.out _ hc16) (fun hHeld15 => ?_)
                    clear hK K hHeld
                    try simp only [Act.put, List.setIfInBounds_toArray, List.set_cons_zero, List.set_cons_succ]
                    refine take_run 3 rfl (by kernel_rfl) (by rfl) (fun K hK => ?_)
                    go_simp
                    refine (copiedI_any vp ws _ (HOP.out.at.since (hc16)) hwl).mono ?_
                    rintro en wq19 ⟨vc22, rfl, hoc, hq⟩
                    have hc20 := (hc16).trans hq
                    have HVC21 := Lib.hid (Own.mono (base' := wF.heap.size) hoc (by have := Since.lt (hc16); first | exact this | (simp at this; exact this)))
                    have HLB23 := Lib.hid ((HLB17.out).since hq)
                    refine hK.out _ _ (HK15.out _ hc20) (fun hHeld18 => ?_)
                    clear hK K hHeld15 hq hoc
                    try simp only [Act.put, List.setIfInBounds_toArray, List.set_cons_zero, List.set_cons_succ]
                    refine take_run 6 rfl (by kernel_rfl) (by rfl) (fun K hK => ?_)
                    refine wp_append_ints (.tmp 68) (.tmp 70) rfl wF.heap.size vc22 ws (by first | rfl | simp [Act.eval]) (HVC21.out) (some ⟨wF.heap.size, 0, none⟩) 1 1 (by first | rfl | simp [Act.eval]) [(k : Int)] (HLB23.out).at (by simp; omega) (by have := Since.lt (hc20); first | exact this | (simp at this; exact this)) ?_
                    intro v5 w5 ho5 hg5 hb5
                    have hc5 := Since.grown (hc20) hg5 (fun j hj => ((HVC21.out).2.lt j hj).1)
                    have HO5 := Lib.hid ho5
                    refine hK.out _ _ (HK15.out _ hc5) (fun hHeld24 => ?_)
                    clear hK K hHeld18 ho5 hg5 hb5
                    try simp only [Act.put, List.setIfInBounds_toArray, List.set_cons_zero, List.set_cons_succ]
                    refine take_run 7 rfl (by kernel_rfl) (by rfl) (fun K hK => ?_)
                    refine wp_mapUpdate_own (.tmp 65) (.tmp 66) (.tmp 71) 146 rfl 100 24 arrP.law Try.underlying146 HV (w.heap.size + 1) n D (by first | rfl | simp [Act.eval]) (keptMapV HMF.out hc5) hnm (.agg #[.int .i64 za, .int .i64 zb]) v5 (kyG 100 [za, zb]) (by first | rfl | simp [Act.eval]) (by first | rfl | simp [Act.eval]) hkz (.held v5) [] rfl ?_
                    intro w6 hm6 hg6
                    have HM6 := Lib.hid hm6
                    have HG6 := Lib.hid hg6
                    refine hK.out _ _ (HK15u.out _ _ hc5 hg6) (fun hHeld25 => ?_)
                    clear hK K hHeld24 hm6
                    try simp only [Act.put, List.setIfInBounds_toArray, List.set_cons_zero, List.set_cons_succ]
                    refine wpAnyH_done (by kernel_rfl) ?_ _
                    clear hHeld25
                    have BF6 := Lib.hid (HBF6.out _ _ hc5 hg6)
                    have HO6 : Hid (OwnFp (w.heap.size + 2) w6 (.slice (some ⟨g, 0, none⟩) L.length cap) (L.map (·.1))) := (HWF.out.own.since hc5).kept hg6 (.inr (by intro e; have hj2 : some g = some (w.heap.size + 1) := e; injection hj2 with e; omega))
                    have hz6 : w.heap.size + 2 ≤ w6.heap.size := by have := HM6.out.lt; omega
                    obtain ⟨s0, s1, _, _⟩ := BF6.out.two
                    clear hg6
                    have hlen : (L.map (·.1)).length ≤ 2000000 := by have := HL2.out; simpa using this
                    go_wp2_with (at_builtin; go_must (refine wpList_append_fp rfl (.tmp 72) (.tmp 74) rfl (.slice (some ⟨g, 0, none⟩) L.length cap) (L.map (·.1)) (by first | rfl | simp [Act.eval]) HO6.out za zb (by first | rfl | simp [Act.eval]) hlen hz6 ?_); intro v7 w7 ho7 hg7)
                    have HW7 : Hid (LwW w #[.int .i64 s, .int .i64 t, .func (.func 148) #[] #[.pointer (some ⟨BQ, 0, none⟩), .pointer (some ⟨BA, 0, none⟩), .pointer (some ⟨BB, 0, none⟩)], .func (.func 149) #[] #[.pointer (some ⟨BA, 0, none⟩), .pointer (some ⟨BB, 0, none⟩)]] w7 v7 (L ++ [([za, zb], ws ++ [(k : Int)])])) := HWF.out.snoc HMF.out HDF.out hnl hokz hnew hc5 HO5.out HM6.out HG6.out ho7 hg7
                    have HOP7 : Hid (Own (w.heap.size + 2) w7 vp ws) := HWF.out.keepOwn hc5 HG6.out hg7 HOP.out
                    clear ho7 hg7
                    go_roundw
                    case rel => exact ⟨k + 1, L ++ [([za, zb], ws ++ [(k : Int)])], by omega, by simp; omega, by go_num, HI2.out, by (unfold Hid; rw [List.getElem?_append_left hpL]; exact HP.out), HR2.out, HW7.out, HOP7.out⟩
                    case measure => simp [intOf]; omega
            · skip
              go_simp
              have hc35 := Since.alloc ((Since.refl wr).drew) (.cells #[.int .i64 0, .int .i64 0] 100)
              have BA36 : Hid (Blk (wr.drew.alloc (.cells #[.int .i64 0, .int .i64 0] 100)) (wr.heap.size) 100 #[.int .i64 0, .int .i64 0]) := Blk.new (by first | rfl | simp) _ _
              have hA37 : wr.heap.size ≤ wr.heap.size := by have := Since.lt ((Since.refl wr).drew); first | exact this | (simp at this; exact this)
              refine hK.out _ _ (HK6.out _ hc35) (fun hHeld34 => ?_)
              clear hK K hHeld
              try simp only [Act.put, List.setIfInBounds_toArray, List.set_cons_zero, List.set_cons_succ]
              refine take_run 7 rfl (by kernel_rfl) (by rfl) (fun K hK => ?_)
              go_simp
              refine (HNXp.out _ (HWk.out.since.trans (hc35))).mono ?_
              rintro en wq39 ⟨rfl, hq⟩
              have hc40 := (hc35).trans hq
              have BA41 := Lib.hid ((BA36.out).since hq)
              refine hK.out _ _ (HK6.out _ hc40) (fun hHeld38 => ?_)
              clear hK K hHeld34 hq
              try simp only [Act.put, List.setIfInBounds_toArray, List.set_cons_zero, List.set_cons_succ]
              refine take_yes 8 (some 43) (v := ?_) rfl (by kernel_rfl) (by kernel_rfl) (by kernel_rfl) (by kernel_rfl) (fun _ _ _ h => h) (by rfl) (by assumption) ?_ ?_
              rotate_left
              · (intro w' hSw; (try dsimp only at hSw); go_simp; try with_reducible rfl)
              try simp only [Act.put, List.setIfInBounds_toArray, List.set_cons_zero, List.set_cons_succ]
              refine take_yes 9 (some 52) (v := ?_) rfl (by kernel_rfl) (by kernel_rfl) (by kernel_rfl) (by kernel_rfl) (fun _ _ _ h => h) (by rfl) (by assumption) ?_ ?_
              rotate_left
              · (intro w' hSw; (try dsimp only at hSw); go_simp; try with_reducible rfl)
              try simp only [Act.put, List.setIfInBounds_toArray, List.set_cons_zero, List.set_cons_succ]
              refine take_yes 10 (some 53) (v := ?_) rfl (by kernel_rfl) (by kernel_rfl) (by kernel_rfl) (by kernel_rfl) (fun _ _ _ h => h) (by rfl) (by assumption) ?_ ?_
              rotate_left
              · (intro w' hSw; (try dsimp only at hSw); go_simp; try with_reducible rfl)
              try simp only [Act.put, List.setIfInBounds_toArray, List.set_cons_zero, List.set_cons_succ]
              refine take_run 12 rfl (by kernel_rfl) (by rfl) (fun K hK => ?_)
              obtain ⟨s0, s1, s2, s3⟩ := (BA41.out).two
              go_simp
              clear s0 s1 s2 s3
              have hcF := (Since.setCell (Since.setCell hc40 (a := ⟨wr.heap.size, 0, none⟩) hA37 (.int .i64 za)) (a := ⟨wr.heap.size, 1, none⟩) hA37 (.int .i64 zb))
              have BF := Lib.hid (((BA41.out).set 0 (.int .i64 za)).set 1 (.int .i64 zb))
              have hGF := hA37
              refine hK.out _ _ (HK6.out _ hcF) (fun hHeld42 => ?_)
              clear hK K hHeld38
              try simp only [Act.put, List.setIfInBounds_toArray, List.set_cons_zero, List.set_cons_succ]
              refine take_yes 13 (some 10) (v := ?_) rfl (by kernel_rfl) (by kernel_rfl) (by kernel_rfl) (by kernel_rfl) (fun _ _ _ h => h) (by rfl) (by assumption) ?_ ?_
              rotate_left
              · (intro w' hSw; (try dsimp only at hSw); go_simp; try with_reducible rfl)
              try simp only [Act.put, List.setIfInBounds_toArray, List.set_cons_zero, List.set_cons_succ]
              refine wpAnyH_done (by kernel_rfl) ?_ _
              clear hHeld42
              have HWF0 := Lib.hid (HWk.out.since' hcF)
              have HOPF0 := Lib.hid (HOP.out.since hcF)
              have hsz2 : w.heap.size + 2 ≤ wr.heap.size := hwr2
              obtain ⟨wF, hwF⟩ : ∃ wF, wF = ((wq39.setCell ⟨wr.heap.size, 0, none⟩ (.int .i64 za)).setCell ⟨wr.heap.size, 1, none⟩ (.int .i64 zb)) := ⟨_, rfl⟩
              obtain ⟨G, hG⟩ : ∃ G, G = wr.heap.size := ⟨_, rfl⟩
              have hGm : w.heap.size + 1 ≠ wr.heap.size := by have := hGF; omega
              rw [← hG] at hGm
              rw [← hwF] at hcF BF HWF0 HOPF0
              rw [← hG] at BF
              try rw [← hwF]
              try rw [← hG]
              clear hwF hG hGF HOP
              have HOP := HOPF0
              obtain ⟨n, D, vs, hm, hD, hnl⟩ := HWF0.out.map
              have HWF := HWF0
              have HMF := Lib.hid hm
              have HDF := Lib.hid hD
              have HHS : Hid (Maps.has D (kyG 100 [za, zb]) = zd) := by
                unfold Hid
                rw [hD.wd.has _ hokz]; exact HZD.out.symm
              clear hm hD HWF0 HOPF0
              obtain ⟨s0, s1, _, _⟩ := BF.out.two
              have hL2x := HL2.out
              cases ok with
              | false =>
                have HRn : Hid (lwRun (prS A B) acc (N - p) (p + 1) (lwRow (prS A B) [a0, b0] ws (9 - (k + 1)) L) = some R) := by
                  have h1 := HRk.out
                  rw [lwRow_none _ _ _ k hkt L (HZ0.out rfl)] at h1
                  exact h1
                go_wp2_with (at_lookup; refine wpList_lookup_own_ok _ rfl (.tmp 55) (.tmp 56) 146 rfl 100 24 arrP.law Try.underlying146 HV (zeroIs _) (.held (.slice none 0 0)) [] rfl (w.heap.size + 1) n D rfl HMF.out (.agg #[.int .i64 za, .int .i64 zb]) (kyG 100 [za, zb]) rfl hkz ?_; intro c ps hcv; clear hcv; rw [HHS.out])
                go_roundw
                case rel => exact ⟨k + 1, L, by omega, hpL, by go_num, HIk.out, HP.out, HRn.out, HWF.out, HOP.out⟩
                case measure => simp [intOf]; omega
              | true =>
                cases zd with
                | true =>
                  have HRn : Hid (lwRun (prS A B) acc (N - p) (p + 1) (lwRow (prS A B) [a0, b0] ws (9 - (k + 1)) L) = some R) := by
                    have h1 := HRk.out
                    rw [lwRow_old _ _ _ k hkt L [za, zb] (HZ1.out rfl) (of_decide_eq_true HZD.out.symm)] at h1
                    exact h1
                  go_wp2_with (at_lookup; refine wpList_lookup_own_ok _ rfl (.tmp 55) (.tmp 56) 146 rfl 100 24 arrP.law Try.underlying146 HV (zeroIs _) (.held (.slice none 0 0)) [] rfl (w.heap.size + 1) n D rfl HMF.out (.agg #[.int .i64 za, .int .i64 zb]) (kyG 100 [za, zb]) rfl hkz ?_; intro c ps hcv; clear hcv; rw [HHS.out])
                  go_roundw
                  case rel => exact ⟨k + 1, L, by omega, hpL, by go_num, HIk.out, HP.out, HRn.out, HWF.out, HOP.out⟩
                  case measure => simp [intOf]; omega
                | false =>
                  have hnew : [za, zb] ∉ L.map (·.1) := of_decide_eq_false HZD.out.symm
                  have HR2 : Hid (lwRun (prS A B) acc (N - p) (p + 1) (lwRow (prS A B) [a0, b0] ws (9 - (k + 1)) (L ++ [([za, zb], ws ++ [(k : Int)])])) = some R) := by
                    have h1 := HRk.out
                    rw [lwRow_new _ _ _ k hkt L [za, zb] (HZ1.out rfl) hnew] at h1
                    exact h1
                  have HI2 : Hid (LwI (InP A B) (L ++ [([za, zb], ws ++ [(k : Int)])])) := HIk.out.snoc HP.out hnew (HLH.out.step [a0, b0] k [za, zb] hkt ⟨a0, b0, rfl, HQ.out.1, HQ.out.2⟩ (HZ1.out rfl)) hkt
                  have hnm : n < maxLen := by unfold maxLen; omega
                  have hwl : ws.length ≤ 1048577 := by have h1 := HIk.out.short p _ HP.out; simp at h1; have h2 := HLn.out; have h3 := HPL.out; omega
                  have hkin : InI (k : Int) := by unfold InI; omega
                  have HBF6 : Hid (∀ w5 w6, Since wF w5 → w5.grownBy w6 (some (w.heap.size + 1)) → Blk w6 G 100 #[.int .i64 za, .int .i64 zb]) := by
                    intro w5 w6 h5 h6
                    have b5 := BF.out.since h5
                    exact (h6.block _ b5.lt (by intro e; injection e with e; omega)).trans b5
                  have HK15 : Hid (∀ w', Since wF w' → w'.cell? ⟨G, 0, none⟩ = some (.int .i64 za) ∧ w'.cell? ⟨G, 1, none⟩ = some (.int .i64 zb)) := by
                    intro w' h
                    obtain ⟨r0, r1, _, _⟩ := (BF.out.since h).two
                    exact ⟨r0, r1⟩
                  have HK15u : Hid (∀ w5 w', Since wF w5 → w5.grownBy w' (some (w.heap.size + 1)) → w'.cell? ⟨G, 0, none⟩ = some (.int .i64 za) ∧ w'.cell? ⟨G, 1, none⟩ = some (.int .i64 zb)) := by
                    intro w5 w' h5 h6
                    obtain ⟨r0, r1, _, _⟩ := (HBF6.out w5 w' h5 h6).two
                    exact ⟨r0, r1⟩
                  clear HZD
                  go_upto_region 15 with (at_lookup; refine wpList_lookup_own_ok _ rfl (.tmp 55) (.tmp 56) 146 rfl 100 24 arrP.law Try.underlying146 HV (zeroIs _) (.held (.slice none 0 0)) [] rfl (w.heap.size + 1) n D rfl HMF.out (.agg #[.int .i64 za, .int .i64 zb]) (kyG 100 [za, zb]) rfl hkz ?_; intro c ps hcv; clear hcv; rw [HHS.out])
                  refine wp_region_held_drew (S := (fun w' => w'.cell? ⟨G, 0, none⟩ = some (.int .i64 za) ∧ w'.cell? ⟨G, 1, none⟩ = some (.int .i64 zb))) (by kernel_rfl) (HK15.out _ (Since.refl _).drew) (fun hHeld => ?_)
                  refine take_yes 0 (some 65) (v := ?_) rfl (by kernel_rfl) (by kernel_rfl) (by kernel_rfl) (by kernel_rfl) (fun _ _ _ h => h) (by rfl) (by assumption) ?_ ?_
                  rotate_left
                  · (intro w' hSw; (try dsimp only at hSw); go_simp; try with_reducible rfl)
                  try simp only [Act.put, List.setIfInBounds_toArray, List.set_cons_zero, List.set_cons_succ]
                  refine take_yes 1 (some 66) (v := ?_) rfl (by kernel_rfl) (by kernel_rfl) (by kernel_rfl) (by kernel_rfl) (fun _ _ _ h => h) (by rfl) (by assumption) ?_ ?_
                  rotate_left
                  · (intro w' hSw; (try dsimp only at hSw); go_simp; try with_reducible rfl)
                  try simp only [Act.put, List.setIfInBounds_toArray, List.set_cons_zero, List.set_cons_succ]
                  refine take_yes 2 (some 67) (v := ?_) rfl (by kernel_rfl) (by kernel_rfl) (by kernel_rfl) (by kernel_rfl) (fun _ _ _ h => h) (by rfl) (by assumption) ?_ ?_
                  rotate_left
                  · (intro w' hSw; (try dsimp only at hSw); go_simp; try with_reducible rfl)
                  try simp only [Act.put, List.setIfInBounds_toArray, List.set_cons_zero, List.set_cons_succ]
                  refine take_yes 4 (some 69) (v := ?_) rfl (by kernel_rfl) (by kernel_rfl) (by kernel_rfl) (by kernel_rfl) (fun _ _ _ h => h) (by rfl) (by assumption) ?_ ?_
                  rotate_left
                  · (intro w' hSw; (try dsimp only at hSw); go_simp; try with_reducible rfl)
                  try simp only [Act.put, List.setIfInBounds_toArray, List.set_cons_zero, List.set_cons_succ]
                  refine take_two 3 5 rfl rfl (by kernel_rfl) (by rfl) (by rfl) (fun K hK => ?_) (fun K hK => ?_)
                  · skip
                    go_simp
                    refine (copiedI_any vp ws _ (HOP.out.at.since ((Since.refl wF).drew)) hwl).mono ?_
                    rintro en wq5 ⟨vc8, rfl, hoc, hq⟩
                    have hc6 := ((Since.refl wF).drew).trans hq
                    have HVC7 := Lib.hid (Own.mono (base' := wF.heap.size) hoc (by have := Since.lt ((Since.refl wF).drew); first | exact this | (simp at this; exact this)))
                    refine hK.out _ _ (HK15.out _ hc6) (fun hHeld4 => ?_)
                    clear hK K hHeld hq hoc
                    try simp only [Act.put, List.setIfInBounds_toArray, List.set_cons_zero, List.set_cons_succ]
                    refine take_run 5 rfl (by kernel_rfl) (by rfl) (fun K hK => ?_)
                    go_simp
                    have hc10 := Since.alloc (hc6) (.cells #[.int .i64 (k : Int)] 3)
                    have HLB11 : Hid (Own wF.heap.size (wq5.alloc (.cells #[.int .i64 (k : Int)] 3)) (.slice (some ⟨wq5.heap.size, 0, none⟩) 1 1) [(k : Int)]) := ownT_lit 3 _ wq5 (by have := Since.lt (hc6); first | exact this | (simp at this; exact this)) (k : Int) hkin
                    have HVC12 := Lib.hid ((HVC7.out).since ((Since.refl wq5).alloc (.cells #[.int .i64 (k : Int)] 3)))
                    refine hK.out _ _ (HK15.out _ hc10) (fun hHeld9 => ?_)
                    clear hK K hHeld4
                    try simp only [Act.put, List.setIfInBounds_toArray, List.set_cons_zero, List.set_cons_succ]
                    refine take_run 6 rfl (by kernel_rfl) (by rfl) (fun K hK => ?_)
                    refine wp_append_ints (.tmp 68) (.tmp 70) rfl wF.heap.size vc8 ws (by first | rfl | simp [Act.eval]) (HVC12.out) (some ⟨wq5.heap.size, 0, none⟩) 1 1 (by first | rfl | simp [Act.eval]) [(k : Int)] (HLB11.out).at (by simp; omega) (by have := Since.lt (hc10); first | exact this | (simp at this; exact this)) ?_
                    intro v5 w5 ho5 hg5 hb5
                    have hc5 := Since.grown (hc10) hg5 (fun j hj => ((HVC12.out).2.lt j hj).1)
                    have HO5 := Lib.hid ho5
                    refine hK.out _ _ (HK15.out _ hc5) (fun hHeld13 => ?_)
                    clear hK K hHeld9 ho5 hg5 hb5
                    try simp only [Act.put, List.setIfInBounds_toArray, List.set_cons_zero, List.set_cons_succ]
                    refine take_run 7 rfl (by kernel_rfl) (by rfl) (fun K hK => ?_)
                    refine wp_mapUpdate_own (.tmp 65) (.tmp 66) (.tmp 71) 146 rfl 100 24 arrP.law Try.underlying146 HV (w.heap.size + 1) n D (by first | rfl | simp [Act.eval]) (keptMapV HMF.out hc5) hnm (.agg #[.int .i64 za, .int .i64 zb]) v5 (kyG 100 [za, zb]) (by first | rfl | simp [Act.eval]) (by first | rfl | simp [Act.eval]) hkz (.held v5) [] rfl ?_
                    intro w6 hm6 hg6
                    have HM6 := Lib.hid hm6
                    have HG6 := Lib.hid hg6
                    refine hK.out _ _ (HK15u.out _ _ hc5 hg6) (fun hHeld14 => ?_)
                    clear hK K hHeld13 hm6
                    try simp only [Act.put, List.setIfInBounds_toArray, List.set_cons_zero, List.set_cons_succ]
                    refine wpAnyH_done (by kernel_rfl) ?_ _
                    clear hHeld14
                    have BF6 := Lib.hid (HBF6.out _ _ hc5 hg6)
                    have HO6 : Hid (OwnFp (w.heap.size + 2) w6 (.slice (some ⟨g, 0, none⟩) L.length cap) (L.map (·.1))) := (HWF.out.own.since hc5).kept hg6 (.inr (by intro e; have hj2 : some g = some (w.heap.size + 1) := e; injection hj2 with e; omega))
                    have hz6 : w.heap.size + 2 ≤ w6.heap.size := by have := HM6.out.lt; omega
                    obtain ⟨s0, s1, _, _⟩ := BF6.out.two
                    clear hg6
                    have hlen : (L.map (·.1)).length ≤ 2000000 := by have := HL2.out; simpa using this
                    go_wp2_with (at_builtin; go_must (refine wpList_append_fp rfl (.tmp 72) (.tmp 74) rfl (.slice (some ⟨g, 0, none⟩) L.length cap) (L.map (·.1)) (by first | rfl | simp [Act.eval]) HO6.out za zb (by first | rfl | simp [Act.eval]) hlen hz6 ?_); intro v7 w7 ho7 hg7)
                    have HW7 : Hid (LwW w #[.int .i64 s, .int .i64 t, .func (.func 148) #[] #[.pointer (some ⟨BQ, 0, none⟩), .pointer (some ⟨BA, 0, none⟩), .pointer (some ⟨BB, 0, none⟩)], .func (.func 149) #[] #[.pointer (some ⟨BA, 0, none⟩), .pointer (some ⟨BB, 0, none⟩)]] w7 v7 (L ++ [([za, zb], ws ++ [(k : Int)])])) := HWF.out.snoc HMF.out HDF.out hnl hokz hnew hc5 HO5.out HM6.out HG6.out ho7 hg7
                    have HOP7 : Hid (Own (w.heap.size + 2) w7 vp ws) := HWF.out.keepOwn hc5 HG6.out hg7 HOP.out
                    clear ho7 hg7
                    go_roundw
                    case rel => exact ⟨k + 1, L ++ [([za, zb], ws ++ [(k : Int)])], by omega, by simp; omega, by go_num, HI2.out, by (unfold Hid; rw [List.getElem?_append_left hpL]; exact HP.out), HR2.out, HW7.out, HOP7.out⟩
                    case measure => simp [intOf]; omega
                  · skip
                    go_simp
                    have hc16 := Since.alloc ((Since.refl wF).drew) (.cells #[.int .i64 (k : Int)] 3)
                    have HLB17 : Hid (Own wF.heap.size (wF.drew.alloc (.cells #[.int .i64 (k : Int)] 3)) (.slice (some ⟨wF.heap.size, 0, none⟩) 1 1) [(k : Int)]) := ownT_lit 3 _ wF.drew (by have := Since.lt ((Since.refl wF).drew); first | exact this | (simp at this; exact this)) (k : Int) hkin
                    refine hK.out _ _ (HK15.out _ hc16) (fun hHeld15 => ?_)
                    clear hK K hHeld
                    try simp only [Act.put, List.setIfInBounds_toArray, List.set_cons_zero, List.set_cons_succ]
                    refine take_run 3 rfl (by kernel_rfl) (by rfl) (fun K hK => ?_)
                    go_simp
                    refine (copiedI_any vp ws _ (HOP.out.at.since (hc16)) hwl).mono ?_
                    rintro en wq19 ⟨vc22, rfl, hoc, hq⟩
                    have hc20 := (hc16).trans hq
                    have HVC21 := Lib.hid (Own.mono (base' := wF.heap.size) hoc (by have := Since.lt (hc16); first | exact this | (simp at this; exact this)))
                    have HLB23 := Lib.hid ((HLB17.out).since hq)
                    refine hK.out _ _ (HK15.out _ hc20) (fun hHeld18 => ?_)
                    clear hK K hHeld15 hq hoc
                    try simp only [Act.put, List.setIfInBounds_toArray, List.set_cons_zero, List.set_cons_succ]
                    refine take_run 6 rfl (by kernel_rfl) (by rfl) (fun K hK => ?_)
                    refine wp_append_ints (.tmp 68) (.tmp 70) rfl wF.heap.size vc22 ws (by first | rfl | simp [Act.eval]) (HVC21.out) (some ⟨wF.heap.size, 0, none⟩) 1 1 (by first | rfl | simp [Act.eval]) [(k : Int)] (HLB23.out).at (by simp; omega) (by have := Since.lt (hc20); first | exact this | (simp at this; exact this)) ?_
                    intro v5 w5 ho5 hg5 hb5
                    have hc5 := Since.grown (hc20) hg5 (fun j hj => ((HVC21.out).2.lt j hj).1)
                    have HO5 := Lib.hid ho5
                    refine hK.out _ _ (HK15.out _ hc5) (fun hHeld24 => ?_)
                    clear hK K hHeld18 ho5 hg5 hb5
                    try simp only [Act.put, List.setIfInBounds_toArray, List.set_cons_zero, List.set_cons_succ]
                    refine take_run 7 rfl (by kernel_rfl) (by rfl) (fun K hK => ?_)
                    refine wp_mapUpdate_own (.tmp 65) (.tmp 66) (.tmp 71) 146 rfl 100 24 arrP.law Try.underlying146 HV (w.heap.size + 1) n D (by first | rfl | simp [Act.eval]) (keptMapV HMF.out hc5) hnm (.agg #[.int .i64 za, .int .i64 zb]) v5 (kyG 100 [za, zb]) (by first | rfl | simp [Act.eval]) (by first | rfl | simp [Act.eval]) hkz (.held v5) [] rfl ?_
                    intro w6 hm6 hg6
                    have HM6 := Lib.hid hm6
                    have HG6 := Lib.hid hg6
                    refine hK.out _ _ (HK15u.out _ _ hc5 hg6) (fun hHeld25 => ?_)
                    clear hK K hHeld24 hm6
                    try simp only [Act.put, List.setIfInBounds_toArray, List.set_cons_zero, List.set_cons_succ]
                    refine wpAnyH_done (by kernel_rfl) ?_ _
                    clear hHeld25
                    have BF6 := Lib.hid (HBF6.out _ _ hc5 hg6)
                    have HO6 : Hid (OwnFp (w.heap.size + 2) w6 (.slice (some ⟨g, 0, none⟩) L.length cap) (L.map (·.1))) := (HWF.out.own.since hc5).kept hg6 (.inr (by intro e; have hj2 : some g = some (w.heap.size + 1) := e; injection hj2 with e; omega))
                    have hz6 : w.heap.size + 2 ≤ w6.heap.size := by have := HM6.out.lt; omega
                    obtain ⟨s0, s1, _, _⟩ := BF6.out.two
                    clear hg6
                    have hlen : (L.map (·.1)).length ≤ 2000000 := by have := HL2.out; simpa using this
                    go_wp2_with (at_builtin; go_must (refine wpList_append_fp rfl (.tmp 72) (.tmp 74) rfl (.slice (some ⟨g, 0, none⟩) L.length cap) (L.map (·.1)) (by first | rfl | simp [Act.eval]) HO6.out za zb (by first | rfl | simp [Act.eval]) hlen hz6 ?_); intro v7 w7 ho7 hg7)
                    have HW7 : Hid (LwW w #[.int .i64 s, .int .i64 t, .func (.func 148) #[] #[.pointer (some ⟨BQ, 0, none⟩), .pointer (some ⟨BA, 0, none⟩), .pointer (some ⟨BB, 0, none⟩)], .func (.func 149) #[] #[.pointer (some ⟨BA, 0, none⟩), .pointer (some ⟨BB, 0, none⟩)]] w7 v7 (L ++ [([za, zb], ws ++ [(k : Int)])])) := HWF.out.snoc HMF.out HDF.out hnl hokz hnew hc5 HO5.out HM6.out HG6.out ho7 hg7
                    have HOP7 : Hid (Own (w.heap.size + 2) w7 vp ws) := HWF.out.keepOwn hc5 HG6.out hg7 HOP.out
                    clear ho7 hg7
                    go_roundw
                    case rel => exact ⟨k + 1, L ++ [([za, zb], ws ++ [(k : Int)])], by omega, by simp; omega, by go_num, HI2.out, by (unfold Hid; rw [List.getElem?_append_left hpL]; exact HP.out), HR2.out, HW7.out, HOP7.out⟩
                    case measure => simp [intOf]; omega
          · have hk9 : k = 9 := by omega
            subst hk9
            have hNp : L.length ≤ N := HLn.out
            have hNq : L.length ≤ 2000000 := HL2.out
            have HRn : Hid (lwRun (prS A B) acc (N + 1 - (p + 1)) (p + 1) L = some R) := by
              have h1 := HRk.out
              rw [show N + 1 - (p + 1) = N - p from by omega]
              exact h1
            go_wp2
            go_roundw
            case rel => exact ⟨p + 1, L, by omega, by omega, by go_num, HIk.out, HRn.out, HWk.out⟩
            case measure => simp [intOf]; omega
    · have HF : Hid (R = none) := by
        have h1 := HRp.out
        have h3 := HLn.out
        rw [show N + 1 - p = (N - p) + 1 from by omega, lwRun_end (by omega)] at h1
        injection h1 with h1; exact h1.symm
      have hpn : ¬ ((p : Int) < (L.length : Int)) := by omega
      go_wp2
      go_ret2
      rw [HF.out]
      exact ⟨_, rfl, ⟨fun x hx => by simp at hx, World.ownsRow_nil _ _ _ _⟩, HWk.out.since⟩
end Go.Proofs.Ytmaagihfjldgeaa

