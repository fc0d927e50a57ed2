/- The automaton of a machine of pairs, the program's. -/
import Derived.Test.YtmaagihfjldgeaaMdG
import Derived.Test.YtmaagihfjldgeaaA1
import Derived.Test.YtmaagihfjldgeaaNgM
import Derived.Test.YtmaagihfjldgeaaMrP
import Derived.BigQuiet
import Derived.Deep.OwnRows
import Derived.Deep.QuietTactic
import Derived.StillTailTactics
import Derived.Test.YtmaagihfjldgeaaK1
namespace Go.Proofs.Ytmaagihfjldgeaa
set_option maxRecDepth 100000
open Go.ChangeShapes Go.WideShapes Go.ChangeAt Go.RowKit Go.Maps
set_option linter.unusedVariables false
set_option linter.unusedSimpArgs false

theorem wpList_next_pair {w : World} {ops : Array Oper} {rest : List Oper} {o : Oper} {a : Act} {Q : Exit → Act → World → Prop} (hg : o.guard = none) (it : Operand) (hop : o.op = Op.next it false)
    (b r n : Nat) (D : DU) (left : Lit → Bool) (cnt : Nat) (hit : a.eval it = .pointer (some ⟨r, 0, none⟩)) (h : w.ranges Try.prog 100 (plainElem Try.prog 3) b r n D left cnt)
    (hDone : cnt = 0 → (∀ kl, left kl = false) → wpList Try.prog ops Q rest (a.put o.dst (.tuple #[.bool false])) w)
    (hMore : ∀ (x : Value) (c : Int) (kl : Lit) (w' : World) (cnt' : Nat), keyOf Try.prog 100 x = some kl → left kl = true → (∀ zd, D.atKey kl zd = .lit (.int .i64 c)) → w'.ranges Try.prog 100 (plainElem Try.prog 3) b r n D (fun z => left z && !z.sameKey kl) cnt' → cnt' < cnt →
      w.grownBy w' (some r) → w'.heap.size = w.heap.size → (Instr.entry (.pointer (some ⟨r, 0, none⟩))).run Try.prog w' = .ok (.tuple #[x, .int .i64 c]) w' → wpList Try.prog ops Q rest (a.put o.dst (.tuple #[.bool true, x, .int .i64 c])) w') :
    wpList Try.prog ops Q (o :: rest) a w :=
  wpList_next_ranges w hg it hop 100 arrP.law (plainElem Try.prog 3) (fun x : Value => x) (Value.int .i64) (fun key kl _ => ⟨key, rfl⟩) (fun v y hv => by obtain ⟨c, rfl, _⟩ := plainElem_int_inv Try.underlying3 hv; exact ⟨c, rfl⟩)
    b r n D left cnt hit h hDone (fun x c kl y w' cnt' hkey hlk hv hat hrg hlt hgr hsz hen => by
      obtain ⟨c', ec, rfl, hwc⟩ := plainElem_int_inv Try.underlying3 hv
      cases ec
      exact hMore x c kl w' cnt' hkey hlk hat hrg hlt hgr hsz hen)
set_option maxHeartbeats 40000000 in
set_option maxRecDepth 100000 in
theorem autP_any (A B : Aut) (acc : List Int → Bool) (BQ BA BB : Nat) (s t : Int) (lim : Nat) (hva : ValidA A) (hvb : ValidA B) (hs : InQ A s) (ht : InQ B t) (hl : pairN A B ≤ lim) (hl2 : lim ≤ 1000) (w : World) (hN : NxP A B BA BB w)
    (hA : ∀ a b W, InQ A a → InQ B b → Since w W → Calls Try.prog 148 #[.agg #[.int .i64 a, .int .i64 b], .pointer (some ⟨BQ, 0, none⟩), .pointer (some ⟨BA, 0, none⟩), .pointer (some ⟨BB, 0, none⟩)] W fun e w' => e = .returned (.bool (acc [a, b])) ∧ Since W w') :
    Calls Try.prog 182 #[mchP s t BQ BA BB, .int .i64 lim] w (ABOut w (autG (prS A B) acc (pairG A B s t)) true) := by
  have HNX := Lib.hid hN
  have HAC := Lib.hid hA
  obtain ⟨F, hF⟩ : ∃ F, F = pairG A B s t := ⟨_, rfl⟩
  have HNU : Hid (∀ W, Since w W → Calls Try.prog 196 #[mchP s t BQ BA BB, .int .i64 lim] W (NumPOut W F)) := fun W hW => by
    rw [hF]; exact numbersP_any A B BQ BA BB s t lim hva hvb hs ht hl hl2 W (fun a b k W' h0 h1 h2 h3 => hN a b k W' h0 h1 h2 (hW.trans h3))
  obtain ⟨⟨_, hFQ⟩, _, hFC, hFL⟩ := runG_one (prS_H hva hvb) (x0 := [s, t]) ⟨s, t, rfl, hs, ht⟩
  have HROW : Hid (∀ a b bm n D W, InQ A a → InQ B b → Since w W → [a, b] ∈ F → W.ownsMap Try.prog 100 (plainElem Try.prog 3) bm n D → NumO 100 2 F D → Calls Try.prog 197 #[mchP s t BQ BA BB, .agg #[.int .i64 a, .int .i64 b], .map (some bm)] W (OwnOut W ((List.range 9).map (cellG (prS A B) F [a, b])))) := fun a b bm n D W h1 h2 h3 h4 h5 h6 =>
    rowP_any A B BQ BA BB s t a b F bm n D W hva hvb h1 h2 (by rw [hF]; unfold pairG; omega) h5 h6 (fun k hk => by
      rw [hF] at h4 ⊢
      exact hFC _ h4 k _ hk rfl) (fun a b k W' g0 g1 g2 g3 => hN a b k W' g0 g1 g2 (h3.trans g3))
  have HFQ : Hid (∀ x ∈ F, InP A B x) := by rw [hF]; exact hFQ
  have hFL2 : F.length ≤ 1000 := by rw [hF]; unfold pairG; omega
  show Calls Try.prog 182 #[mchP s t BQ BA BB, .int .i64 lim] w (ABOut w ⟨0, (pairG A B s t).map acc, ((pairG A B s t).map fun x => (List.range 9).map (cellG (prS A B) (pairG A B s t) x))⟩ true)
  rw [← hF]
  clear hN hA hF hFQ hFC hFL hva hvb hs ht hl
  obtain ⟨y, hy⟩ : ∃ y, y = (w.alloc (.cells #[.int .i64 s, .int .i64 t, .func (.func 148) #[] #[.pointer (some ⟨BQ, 0, none⟩), .pointer (some ⟨BA, 0, none⟩), .pointer (some ⟨BB, 0, none⟩)], .func (.func 149) #[] #[.pointer (some ⟨BA, 0, none⟩), .pointer (some ⟨BB, 0, none⟩)]] 104)).alloc (.cells #[.int .i64 0, .slice none 0 0, .slice none 0 0] 39) := ⟨_, rfl⟩
  have hs0 : Since w y := by rw [hy]; exact ((Since.refl w).alloc _).alloc _
  have hz : y.heap.size = w.heap.size + 1 + 1 := by rw [hy]; simp
  have B0 : Hid (Blk y w.heap.size 104 #[.int .i64 s, .int .i64 t, .func (.func 148) #[] #[.pointer (some ⟨BQ, 0, none⟩), .pointer (some ⟨BA, 0, none⟩), .pointer (some ⟨BB, 0, none⟩)], .func (.func 149) #[] #[.pointer (some ⟨BA, 0, none⟩), .pointer (some ⟨BB, 0, none⟩)]]) := by rw [hy]; exact (Blk.new rfl _ _).alloc _
  have B1 : Hid (Blk y (w.heap.size + 1) 39 #[.int .i64 0, .slice none 0 0, .slice none 0 0]) := by rw [hy]; exact Blk.new (by simp) _ _
  have HY := Lib.hid hy
  have HZ := Lib.hid hz
  clear hy hz
  go_enter Try.func182, Try.ntmps182
  go_upto_region 1 with fail
  rw [← HY.out]
  obtain ⟨p0, p1, p2, p3, _⟩ := B0.out.four
  go_wp2_with fail
  refine (HNU.out _ hs0).mono ?_
  rintro e w1 ⟨hs1, b, n, D, rfl, hb, hm, hD, hnl⟩
  have HS1 := Lib.hid (hs0.trans hs1)
  have C0 := Lib.hid (B0.out.since hs1)
  have C1 := Lib.hid (B1.out.since hs1)
  have hz1 : w.heap.size + 2 ≤ w1.heap.size := by have := hs1.size; have := HZ.out; omega
  have HD := Lib.hid hD
  have HM := Lib.hid hm
  obtain ⟨N, hN⟩ : ∃ N, N = F.length := ⟨_, rfl⟩
  have HN := Lib.hid hN
  have hN1 : N ≤ 1000 := by omega
  have HLEN : Hid (∀ w', Since w1 w' → ∀ ty, (Builtin.len_ #[192] ty #[.map (some b)]).run Try.prog w' = .ok (.int .i64 (N : Nat)) w') := fun w' hs ty => by
    have := (Since.keptMap hm hs).len Try.underlying192 ty
    rw [hD.num.size, ← hN] at this
    exact this
  clear p0 p1 p2 p3 HNU B0 B1 hs1 hD hm hnl hN hFL2
  go_upto_region 4 with fail
  go_cut [8] (fun p wx => MadeA w1 wx p N)
  case first =>
    have hmkB := fun W => run_make_row' (P := Try.prog) 36 4 (.bool false) 1 Try.underlying36 info_boolB rfl .i64 .i64 N (by omega) (by omega) W
    have hmkI := fun W => run_make_row' (P := Try.prog) 37 24 nilS 24 Try.underlying37 info_ints rfl .i64 .i64 N (by omega) (by omega) W
    have hNm : N ≤ maxLen := by unfold maxLen; omega
    have HKC : Hid (∀ w', Since w1 w' → ∀ ty, (Builtin.len_ #[192] ty #[.map (some b)]).run Try.prog w' = .ok (.int .i64 (N : Nat)) w') := HLEN
    go_wp2_with fail
    refine wp_region_held_drew (S := (fun w' => ∀ ty, (Builtin.len_ #[192] ty #[.map (some b)]).run Try.prog w' = .ok (.int .i64 (N : Nat)) w')) (by kernel_rfl) (HKC.out _ (Since.refl _).drew) (fun hHeld => ?_)
    refine take_yes 0 (some 20) (v := ?_) rfl (by kernel_rfl) (by kernel_rfl) (by kernel_rfl) (by kernel_rfl) (fun _ _ _ h => h) (by rfl) (by assumption) ?_ ?_
    rotate_left
    · (intro w' hSw; (try dsimp only at hSw); go_simp; try with_reducible rfl)
    try simp only [Act.put, List.setIfInBounds_toArray, List.set_cons_zero, List.set_cons_succ]
    refine take_yes 1 (some 21) (v := ?_) rfl (by kernel_rfl) (by kernel_rfl) (by kernel_rfl) (by kernel_rfl) (fun _ _ _ h => h) (by rfl) (by assumption) ?_ ?_
    rotate_left
    · (intro w' hSw; (try dsimp only at hSw); go_simp; try with_reducible rfl)
    try simp only [Act.put, List.setIfInBounds_toArray, List.set_cons_zero, List.set_cons_succ]
    refine take_yes 3 (some 23) (v := ?_) rfl (by kernel_rfl) (by kernel_rfl) (by kernel_rfl) (by kernel_rfl) (fun _ _ _ h => h) (by rfl) (by assumption) ?_ ?_
    rotate_left
    · (intro w' hSw; (try dsimp only at hSw); go_simp; try with_reducible rfl)
    try simp only [Act.put, List.setIfInBounds_toArray, List.set_cons_zero, List.set_cons_succ]
    refine take_yes 4 (some 24) (v := ?_) rfl (by kernel_rfl) (by kernel_rfl) (by kernel_rfl) (by kernel_rfl) (fun _ _ _ h => h) (by rfl) (by assumption) ?_ ?_
    rotate_left
    · (intro w' hSw; (try dsimp only at hSw); go_simp; try with_reducible rfl)
    try simp only [Act.put, List.setIfInBounds_toArray, List.set_cons_zero, List.set_cons_succ]
    refine take_three 2 5 7 rfl rfl rfl (by kernel_rfl) (by rfl) (by rfl) (by rfl) (fun K hK => ?_) (fun K hK => ?_) (fun K hK => ?_)
    · skip
      go_simp
      have hc1 := Since.alloc (Since.refl w1).drew (.cells (madeCells #[.bool false] N) 4)
      refine hK.out _ _ (HKC.out _ hc1) (fun hHeld1 => ?_)
      clear hK K hHeld
      try simp only [Act.put, List.setIfInBounds_toArray, List.set_cons_zero, List.set_cons_succ]
      refine take_two 5 7 rfl rfl (by kernel_rfl) (by rfl) (by rfl) (fun K hK => ?_) (fun K hK => ?_)
      · skip
        go_simp
        have hc2 := Since.alloc hc1 (.cells (madeCells #[nilS] N) 24)
        refine hK.out _ _ (HKC.out _ hc2) (fun hHeld2 => ?_)
        clear hK K hHeld1
        try simp only [Act.put, List.setIfInBounds_toArray, List.set_cons_zero, List.set_cons_succ]
        refine take_yes 6 (some 26) (v := ?_) rfl (by kernel_rfl) (by kernel_rfl) (by kernel_rfl) (by kernel_rfl) (fun _ _ _ h => h) (by rfl) (by assumption) ?_ ?_
        rotate_left
        · (intro w' hSw; (try dsimp only at hSw); go_simp; try with_reducible rfl)
        try simp only [Act.put, List.setIfInBounds_toArray, List.set_cons_zero, List.set_cons_succ]
        refine take_run 7 rfl (by kernel_rfl) (by rfl) (fun K hK => ?_)
        go_simp
        have hc3 := Since.alloc hc2 (.cells #[.int .i64 0, .slice none 0 0, .slice none 0 0] 39)
        refine hK.out _ _ (HKC.out _ hc3) (fun hHeld3 => ?_)
        clear hK K hHeld2
        try simp only [Act.put, List.setIfInBounds_toArray, List.set_cons_zero, List.set_cons_succ]
        refine take_run 8 rfl (by kernel_rfl) (by rfl) (fun K hK => ?_)
        go_simp
        have hcf := (Since.alloc (Since.alloc (Since.alloc (Since.refl w1).drew (.cells (madeCells #[.bool false] N) 4)) (.cells (madeCells #[nilS] N) 24)) (.cells #[.int .i64 0, .slice (some ⟨w1.heap.size, 0, none⟩) N N, .slice (some ⟨w1.heap.size + 1, 0, none⟩) N N] 39))
        refine hK.out _ _ (HKC.out _ hcf) (fun hHeldz => ?_)
        clear hK K hHeld3
        try simp only [Act.put, List.setIfInBounds_toArray, List.set_cons_zero, List.set_cons_succ]
        refine wpAnyH_done (by kernel_rfl) ?_ _
        clear hHeldz
        have FGB : Hid (OwnBo w1.heap.size (((w1.drew.alloc (.cells (madeCells #[.bool false] N) 4)).alloc (.cells (madeCells #[nilS] N) 24)).alloc (.cells #[.int .i64 0, .slice (some ⟨w1.heap.size, 0, none⟩) N N, .slice (some ⟨w1.heap.size + 1, 0, none⟩) N N] 39)) (.slice (some ⟨w1.heap.size, 0, none⟩) N N) (List.replicate N false)) := by
          have hz : w1.drew.heap.size = w1.heap.size := by simp
          have h := mkB_own w1.heap.size w1.drew N (by rw [hz]; omega) hNm
          rw [hz] at h
          exact ((h.since ((Since.refl (w1.drew.alloc (.cells (madeCells #[.bool false] N) 4))).alloc (.cells (madeCells #[nilS] N) 24))).since ((Since.refl ((w1.drew.alloc (.cells (madeCells #[.bool false] N) 4)).alloc (.cells (madeCells #[nilS] N) 24))).alloc (.cells #[.int .i64 0, .slice (some ⟨w1.heap.size, 0, none⟩) N N, .slice (some ⟨w1.heap.size + 1, 0, none⟩) N N] 39)))
        have FGI : Hid (((((w1.drew.alloc (.cells (madeCells #[.bool false] N) 4)).alloc (.cells (madeCells #[nilS] N) 24)).alloc (.cells #[.int .i64 0, .slice (some ⟨w1.heap.size, 0, none⟩) N N, .slice (some ⟨w1.heap.size + 1, 0, none⟩) N N] 39))).ownsRow w1.heap.size 24 1 (.slice (some ⟨w1.heap.size + 1, 0, none⟩) N N) N (List.replicate N nilS)) := by
          have hz : (w1.drew.alloc (.cells (madeCells #[.bool false] N) 4)).heap.size = w1.heap.size + 1 := by simp
          have h := mkI_own w1.heap.size (w1.drew.alloc (.cells (madeCells #[.bool false] N) 4)) N (by rw [hz]; omega) hNm
          rw [hz] at h
          exact (row_since h ((Since.refl ((w1.drew.alloc (.cells (madeCells #[.bool false] N) 4)).alloc (.cells (madeCells #[nilS] N) 24))).alloc (.cells #[.int .i64 0, .slice (some ⟨w1.heap.size, 0, none⟩) N N, .slice (some ⟨w1.heap.size + 1, 0, none⟩) N N] 39)))
        have FBX : Hid (Blk (((w1.drew.alloc (.cells (madeCells #[.bool false] N) 4)).alloc (.cells (madeCells #[nilS] N) 24)).alloc (.cells #[.int .i64 0, .slice (some ⟨w1.heap.size, 0, none⟩) N N, .slice (some ⟨w1.heap.size + 1, 0, none⟩) N N] 39)) (w1.heap.size + 1 + 1) 39 #[.int .i64 0, .slice (some ⟨w1.heap.size, 0, none⟩) N N, .slice (some ⟨w1.heap.size + 1, 0, none⟩) N N]) := by
          have hz : ((w1.drew.alloc (.cells (madeCells #[.bool false] N) 4)).alloc (.cells (madeCells #[nilS] N) 24)).heap.size = w1.heap.size + 1 + 1 := by simp
          have h := Blk.new (w := ((w1.drew.alloc (.cells (madeCells #[.bool false] N) 4)).alloc (.cells (madeCells #[nilS] N) 24))) hz.symm 39 #[.int .i64 0, .slice (some ⟨w1.heap.size, 0, none⟩) N N, .slice (some ⟨w1.heap.size + 1, 0, none⟩) N N]
          exact h
        have FM : Hid (MadeA w1 (((w1.drew.alloc (.cells (madeCells #[.bool false] N) 4)).alloc (.cells (madeCells #[nilS] N) 24)).alloc (.cells #[.int .i64 0, .slice (some ⟨w1.heap.size, 0, none⟩) N N, .slice (some ⟨w1.heap.size + 1, 0, none⟩) N N] 39)) (.pointer (some ⟨w1.heap.size + 1 + 1, 0, none⟩)) N) := ⟨_, _, _, rfl, ⟨by omega, by omega, by omega⟩, ⟨by omega, by omega, by omega⟩, FGB.out, FGI.out, FBX.out, hcf⟩
        clear FGB FGI FBX
        go_wp2_with fail
        go_meet
        exact FM.out
      · skip
        go_simp
        have hc2 := Since.alloc hc1 (.cells #[.int .i64 0, .slice none 0 0, .slice none 0 0] 39)
        refine hK.out _ _ (HKC.out _ hc2) (fun hHeld2 => ?_)
        clear hK K hHeld1
        try simp only [Act.put, List.setIfInBounds_toArray, List.set_cons_zero, List.set_cons_succ]
        refine take_run 5 rfl (by kernel_rfl) (by rfl) (fun K hK => ?_)
        go_simp
        have hc3 := Since.alloc hc2 (.cells (madeCells #[nilS] N) 24)
        refine hK.out _ _ (HKC.out _ hc3) (fun hHeld3 => ?_)
        clear hK K hHeld2
        try simp only [Act.put, List.setIfInBounds_toArray, List.set_cons_zero, List.set_cons_succ]
        refine take_yes 6 (some 26) (v := ?_) rfl (by kernel_rfl) (by kernel_rfl) (by kernel_rfl) (by kernel_rfl) (fun _ _ _ h => h) (by rfl) (by assumption) ?_ ?_
        rotate_left
        · (intro w' hSw; (try dsimp only at hSw); go_simp; try with_reducible rfl)
        try simp only [Act.put, List.setIfInBounds_toArray, List.set_cons_zero, List.set_cons_succ]
        refine take_run 8 rfl (by kernel_rfl) (by rfl) (fun K hK => ?_)
        go_simp
        have hcf := (Since.alloc (Since.alloc (Since.alloc (Since.refl w1).drew (.cells (madeCells #[.bool false] N) 4)) (.cells #[.int .i64 0, .slice (some ⟨w1.heap.size, 0, none⟩) N N, .slice (some ⟨w1.heap.size + 1 + 1, 0, none⟩) N N] 39)) (.cells (madeCells #[nilS] N) 24))
        refine hK.out _ _ (HKC.out _ hcf) (fun hHeldz => ?_)
        clear hK K hHeld3
        try simp only [Act.put, List.setIfInBounds_toArray, List.set_cons_zero, List.set_cons_succ]
        refine wpAnyH_done (by kernel_rfl) ?_ _
        clear hHeldz
        have FGB : Hid (OwnBo w1.heap.size (((w1.drew.alloc (.cells (madeCells #[.bool false] N) 4)).alloc (.cells #[.int .i64 0, .slice (some ⟨w1.heap.size, 0, none⟩) N N, .slice (some ⟨w1.heap.size + 1 + 1, 0, none⟩) N N] 39)).alloc (.cells (madeCells #[nilS] N) 24)) (.slice (some ⟨w1.heap.size, 0, none⟩) N N) (List.replicate N false)) := by
          have hz : w1.drew.heap.size = w1.heap.size := by simp
          have h := mkB_own w1.heap.size w1.drew N (by rw [hz]; omega) hNm
          rw [hz] at h
          exact ((h.since ((Since.refl (w1.drew.alloc (.cells (madeCells #[.bool false] N) 4))).alloc (.cells #[.int .i64 0, .slice (some ⟨w1.heap.size, 0, none⟩) N N, .slice (some ⟨w1.heap.size + 1 + 1, 0, none⟩) N N] 39))).since ((Since.refl ((w1.drew.alloc (.cells (madeCells #[.bool false] N) 4)).alloc (.cells #[.int .i64 0, .slice (some ⟨w1.heap.size, 0, none⟩) N N, .slice (some ⟨w1.heap.size + 1 + 1, 0, none⟩) N N] 39))).alloc (.cells (madeCells #[nilS] N) 24)))
        have FGI : Hid (((((w1.drew.alloc (.cells (madeCells #[.bool false] N) 4)).alloc (.cells #[.int .i64 0, .slice (some ⟨w1.heap.size, 0, none⟩) N N, .slice (some ⟨w1.heap.size + 1 + 1, 0, none⟩) N N] 39)).alloc (.cells (madeCells #[nilS] N) 24))).ownsRow w1.heap.size 24 1 (.slice (some ⟨w1.heap.size + 1 + 1, 0, none⟩) N N) N (List.replicate N nilS)) := by
          have hz : ((w1.drew.alloc (.cells (madeCells #[.bool false] N) 4)).alloc (.cells #[.int .i64 0, .slice (some ⟨w1.heap.size, 0, none⟩) N N, .slice (some ⟨w1.heap.size + 1 + 1, 0, none⟩) N N] 39)).heap.size = w1.heap.size + 1 + 1 := by simp
          have h := mkI_own w1.heap.size ((w1.drew.alloc (.cells (madeCells #[.bool false] N) 4)).alloc (.cells #[.int .i64 0, .slice (some ⟨w1.heap.size, 0, none⟩) N N, .slice (some ⟨w1.heap.size + 1 + 1, 0, none⟩) N N] 39)) N (by rw [hz]; omega) hNm
          rw [hz] at h
          exact h
        have FBX : Hid (Blk (((w1.drew.alloc (.cells (madeCells #[.bool false] N) 4)).alloc (.cells #[.int .i64 0, .slice (some ⟨w1.heap.size, 0, none⟩) N N, .slice (some ⟨w1.heap.size + 1 + 1, 0, none⟩) N N] 39)).alloc (.cells (madeCells #[nilS] N) 24)) (w1.heap.size + 1) 39 #[.int .i64 0, .slice (some ⟨w1.heap.size, 0, none⟩) N N, .slice (some ⟨w1.heap.size + 1 + 1, 0, none⟩) N N]) := by
          have hz : (w1.drew.alloc (.cells (madeCells #[.bool false] N) 4)).heap.size = w1.heap.size + 1 := by simp
          have h := Blk.new (w := (w1.drew.alloc (.cells (madeCells #[.bool false] N) 4))) hz.symm 39 #[.int .i64 0, .slice (some ⟨w1.heap.size, 0, none⟩) N N, .slice (some ⟨w1.heap.size + 1 + 1, 0, none⟩) N N]
          exact (h.since ((Since.refl ((w1.drew.alloc (.cells (madeCells #[.bool false] N) 4)).alloc (.cells #[.int .i64 0, .slice (some ⟨w1.heap.size, 0, none⟩) N N, .slice (some ⟨w1.heap.size + 1 + 1, 0, none⟩) N N] 39))).alloc (.cells (madeCells #[nilS] N) 24)))
        have FM : Hid (MadeA w1 (((w1.drew.alloc (.cells (madeCells #[.bool false] N) 4)).alloc (.cells #[.int .i64 0, .slice (some ⟨w1.heap.size, 0, none⟩) N N, .slice (some ⟨w1.heap.size + 1 + 1, 0, none⟩) N N] 39)).alloc (.cells (madeCells #[nilS] N) 24)) (.pointer (some ⟨w1.heap.size + 1, 0, none⟩)) N) := ⟨_, _, _, rfl, ⟨by omega, by omega, by omega⟩, ⟨by omega, by omega, by omega⟩, FGB.out, FGI.out, FBX.out, hcf⟩
        clear FGB FGI FBX
        go_wp2_with fail
        go_meet
        exact FM.out
    · skip
      go_simp
      have hc1 := Since.alloc (Since.refl w1).drew (.cells (madeCells #[nilS] N) 24)
      refine hK.out _ _ (HKC.out _ hc1) (fun hHeld1 => ?_)
      clear hK K hHeld
      try simp only [Act.put, List.setIfInBounds_toArray, List.set_cons_zero, List.set_cons_succ]
      refine take_two 2 7 rfl rfl (by kernel_rfl) (by rfl) (by rfl) (fun K hK => ?_) (fun K hK => ?_)
      · skip
        go_simp
        have hc2 := Since.alloc hc1 (.cells (madeCells #[.bool false] N) 4)
        refine hK.out _ _ (HKC.out _ hc2) (fun hHeld2 => ?_)
        clear hK K hHeld1
        try simp only [Act.put, List.setIfInBounds_toArray, List.set_cons_zero, List.set_cons_succ]
        refine take_yes 6 (some 26) (v := ?_) rfl (by kernel_rfl) (by kernel_rfl) (by kernel_rfl) (by kernel_rfl) (fun _ _ _ h => h) (by rfl) (by assumption) ?_ ?_
        rotate_left
        · (intro w' hSw; (try dsimp only at hSw); go_simp; try with_reducible rfl)
        try simp only [Act.put, List.setIfInBounds_toArray, List.set_cons_zero, List.set_cons_succ]
        refine take_run 7 rfl (by kernel_rfl) (by rfl) (fun K hK => ?_)
        go_simp
        have hc3 := Since.alloc hc2 (.cells #[.int .i64 0, .slice none 0 0, .slice none 0 0] 39)
        refine hK.out _ _ (HKC.out _ hc3) (fun hHeld3 => ?_)
        clear hK K hHeld2
        try simp only [Act.put, List.setIfInBounds_toArray, List.set_cons_zero, List.set_cons_succ]
        refine take_run 8 rfl (by kernel_rfl) (by rfl) (fun K hK => ?_)
        go_simp
        have hcf := (Since.alloc (Since.alloc (Since.alloc (Since.refl w1).drew (.cells (madeCells #[nilS] N) 24)) (.cells (madeCells #[.bool false] N) 4)) (.cells #[.int .i64 0, .slice (some ⟨w1.heap.size + 1, 0, none⟩) N N, .slice (some ⟨w1.heap.size, 0, none⟩) N N] 39))
        refine hK.out _ _ (HKC.out _ hcf) (fun hHeldz => ?_)
        clear hK K hHeld3
        try simp only [Act.put, List.setIfInBounds_toArray, List.set_cons_zero, List.set_cons_succ]
        refine wpAnyH_done (by kernel_rfl) ?_ _
        clear hHeldz
        have FGB : Hid (OwnBo w1.heap.size (((w1.drew.alloc (.cells (madeCells #[nilS] N) 24)).alloc (.cells (madeCells #[.bool false] N) 4)).alloc (.cells #[.int .i64 0, .slice (some ⟨w1.heap.size + 1, 0, none⟩) N N, .slice (some ⟨w1.heap.size, 0, none⟩) N N] 39)) (.slice (some ⟨w1.heap.size + 1, 0, none⟩) N N) (List.replicate N false)) := by
          have hz : (w1.drew.alloc (.cells (madeCells #[nilS] N) 24)).heap.size = w1.heap.size + 1 := by simp
          have h := mkB_own w1.heap.size (w1.drew.alloc (.cells (madeCells #[nilS] N) 24)) N (by rw [hz]; omega) hNm
          rw [hz] at h
          exact (h.since ((Since.refl ((w1.drew.alloc (.cells (madeCells #[nilS] N) 24)).alloc (.cells (madeCells #[.bool false] N) 4))).alloc (.cells #[.int .i64 0, .slice (some ⟨w1.heap.size + 1, 0, none⟩) N N, .slice (some ⟨w1.heap.size, 0, none⟩) N N] 39)))
        have FGI : Hid (((((w1.drew.alloc (.cells (madeCells #[nilS] N) 24)).alloc (.cells (madeCells #[.bool false] N) 4)).alloc (.cells #[.int .i64 0, .slice (some ⟨w1.heap.size + 1, 0, none⟩) N N, .slice (some ⟨w1.heap.size, 0, none⟩) N N] 39))).ownsRow w1.heap.size 24 1 (.slice (some ⟨w1.heap.size, 0, none⟩) N N) N (List.replicate N nilS)) := by
          have hz : w1.drew.heap.size = w1.heap.size := by simp
          have h := mkI_own w1.heap.size w1.drew N (by rw [hz]; omega) hNm
          rw [hz] at h
          exact (row_since (row_since h ((Since.refl (w1.drew.alloc (.cells (madeCells #[nilS] N) 24))).alloc (.cells (madeCells #[.bool false] N) 4))) ((Since.refl ((w1.drew.alloc (.cells (madeCells #[nilS] N) 24)).alloc (.cells (madeCells #[.bool false] N) 4))).alloc (.cells #[.int .i64 0, .slice (some ⟨w1.heap.size + 1, 0, none⟩) N N, .slice (some ⟨w1.heap.size, 0, none⟩) N N] 39)))
        have FBX : Hid (Blk (((w1.drew.alloc (.cells (madeCells #[nilS] N) 24)).alloc (.cells (madeCells #[.bool false] N) 4)).alloc (.cells #[.int .i64 0, .slice (some ⟨w1.heap.size + 1, 0, none⟩) N N, .slice (some ⟨w1.heap.size, 0, none⟩) N N] 39)) (w1.heap.size + 1 + 1) 39 #[.int .i64 0, .slice (some ⟨w1.heap.size + 1, 0, none⟩) N N, .slice (some ⟨w1.heap.size, 0, none⟩) N N]) := by
          have hz : ((w1.drew.alloc (.cells (madeCells #[nilS] N) 24)).alloc (.cells (madeCells #[.bool false] N) 4)).heap.size = w1.heap.size + 1 + 1 := by simp
          have h := Blk.new (w := ((w1.drew.alloc (.cells (madeCells #[nilS] N) 24)).alloc (.cells (madeCells #[.bool false] N) 4))) hz.symm 39 #[.int .i64 0, .slice (some ⟨w1.heap.size + 1, 0, none⟩) N N, .slice (some ⟨w1.heap.size, 0, none⟩) N N]
          exact h
        have FM : Hid (MadeA w1 (((w1.drew.alloc (.cells (madeCells #[nilS] N) 24)).alloc (.cells (madeCells #[.bool false] N) 4)).alloc (.cells #[.int .i64 0, .slice (some ⟨w1.heap.size + 1, 0, none⟩) N N, .slice (some ⟨w1.heap.size, 0, none⟩) N N] 39)) (.pointer (some ⟨w1.heap.size + 1 + 1, 0, none⟩)) N) := ⟨_, _, _, rfl, ⟨by omega, by omega, by omega⟩, ⟨by omega, by omega, by omega⟩, FGB.out, FGI.out, FBX.out, hcf⟩
        clear FGB FGI FBX
        go_wp2_with fail
        go_meet
        exact FM.out
      · skip
        go_simp
        have hc2 := Since.alloc hc1 (.cells #[.int .i64 0, .slice none 0 0, .slice none 0 0] 39)
        refine hK.out _ _ (HKC.out _ hc2) (fun hHeld2 => ?_)
        clear hK K hHeld1
        try simp only [Act.put, List.setIfInBounds_toArray, List.set_cons_zero, List.set_cons_succ]
        refine take_run 2 rfl (by kernel_rfl) (by rfl) (fun K hK => ?_)
        go_simp
        have hc3 := Since.alloc hc2 (.cells (madeCells #[.bool false] N) 4)
        refine hK.out _ _ (HKC.out _ hc3) (fun hHeld3 => ?_)
        clear hK K hHeld2
        try simp only [Act.put, List.setIfInBounds_toArray, List.set_cons_zero, List.set_cons_succ]
        refine take_yes 6 (some 26) (v := ?_) rfl (by kernel_rfl) (by kernel_rfl) (by kernel_rfl) (by kernel_rfl) (fun _ _ _ h => h) (by rfl) (by assumption) ?_ ?_
        rotate_left
        · (intro w' hSw; (try dsimp only at hSw); go_simp; try with_reducible rfl)
        try simp only [Act.put, List.setIfInBounds_toArray, List.set_cons_zero, List.set_cons_succ]
        refine take_run 8 rfl (by kernel_rfl) (by rfl) (fun K hK => ?_)
        go_simp
        have hcf := (Since.alloc (Since.alloc (Since.alloc (Since.refl w1).drew (.cells (madeCells #[nilS] N) 24)) (.cells #[.int .i64 0, .slice (some ⟨w1.heap.size + 1 + 1, 0, none⟩) N N, .slice (some ⟨w1.heap.size, 0, none⟩) N N] 39)) (.cells (madeCells #[.bool false] N) 4))
        refine hK.out _ _ (HKC.out _ hcf) (fun hHeldz => ?_)
        clear hK K hHeld3
        try simp only [Act.put, List.setIfInBounds_toArray, List.set_cons_zero, List.set_cons_succ]
        refine wpAnyH_done (by kernel_rfl) ?_ _
        clear hHeldz
        have FGB : Hid (OwnBo w1.heap.size (((w1.drew.alloc (.cells (madeCells #[nilS] N) 24)).alloc (.cells #[.int .i64 0, .slice (some ⟨w1.heap.size + 1 + 1, 0, none⟩) N N, .slice (some ⟨w1.heap.size, 0, none⟩) N N] 39)).alloc (.cells (madeCells #[.bool false] N) 4)) (.slice (some ⟨w1.heap.size + 1 + 1, 0, none⟩) N N) (List.replicate N false)) := by
          have hz : ((w1.drew.alloc (.cells (madeCells #[nilS] N) 24)).alloc (.cells #[.int .i64 0, .slice (some ⟨w1.heap.size + 1 + 1, 0, none⟩) N N, .slice (some ⟨w1.heap.size, 0, none⟩) N N] 39)).heap.size = w1.heap.size + 1 + 1 := by simp
          have h := mkB_own w1.heap.size ((w1.drew.alloc (.cells (madeCells #[nilS] N) 24)).alloc (.cells #[.int .i64 0, .slice (some ⟨w1.heap.size + 1 + 1, 0, none⟩) N N, .slice (some ⟨w1.heap.size, 0, none⟩) N N] 39)) N (by rw [hz]; omega) hNm
          rw [hz] at h
          exact h
        have FGI : Hid (((((w1.drew.alloc (.cells (madeCells #[nilS] N) 24)).alloc (.cells #[.int .i64 0, .slice (some ⟨w1.heap.size + 1 + 1, 0, none⟩) N N, .slice (some ⟨w1.heap.size, 0, none⟩) N N] 39)).alloc (.cells (madeCells #[.bool false] N) 4))).ownsRow w1.heap.size 24 1 (.slice (some ⟨w1.heap.size, 0, none⟩) N N) N (List.replicate N nilS)) := by
          have hz : w1.drew.heap.size = w1.heap.size := by simp
          have h := mkI_own w1.heap.size w1.drew N (by rw [hz]; omega) hNm
          rw [hz] at h
          exact (row_since (row_since h ((Since.refl (w1.drew.alloc (.cells (madeCells #[nilS] N) 24))).alloc (.cells #[.int .i64 0, .slice (some ⟨w1.heap.size + 1 + 1, 0, none⟩) N N, .slice (some ⟨w1.heap.size, 0, none⟩) N N] 39))) ((Since.refl ((w1.drew.alloc (.cells (madeCells #[nilS] N) 24)).alloc (.cells #[.int .i64 0, .slice (some ⟨w1.heap.size + 1 + 1, 0, none⟩) N N, .slice (some ⟨w1.heap.size, 0, none⟩) N N] 39))).alloc (.cells (madeCells #[.bool false] N) 4)))
        have FBX : Hid (Blk (((w1.drew.alloc (.cells (madeCells #[nilS] N) 24)).alloc (.cells #[.int .i64 0, .slice (some ⟨w1.heap.size + 1 + 1, 0, none⟩) N N, .slice (some ⟨w1.heap.size, 0, none⟩) N N] 39)).alloc (.cells (madeCells #[.bool false] N) 4)) (w1.heap.size + 1) 39 #[.int .i64 0, .slice (some ⟨w1.heap.size + 1 + 1, 0, none⟩) N N, .slice (some ⟨w1.heap.size, 0, none⟩) N N]) := by
          have hz : (w1.drew.alloc (.cells (madeCells #[nilS] N) 24)).heap.size = w1.heap.size + 1 := by simp
          have h := Blk.new (w := (w1.drew.alloc (.cells (madeCells #[nilS] N) 24))) hz.symm 39 #[.int .i64 0, .slice (some ⟨w1.heap.size + 1 + 1, 0, none⟩) N N, .slice (some ⟨w1.heap.size, 0, none⟩) N N]
          exact (h.since ((Since.refl ((w1.drew.alloc (.cells (madeCells #[nilS] N) 24)).alloc (.cells #[.int .i64 0, .slice (some ⟨w1.heap.size + 1 + 1, 0, none⟩) N N, .slice (some ⟨w1.heap.size, 0, none⟩) N N] 39))).alloc (.cells (madeCells #[.bool false] N) 4)))
        have FM : Hid (MadeA w1 (((w1.drew.alloc (.cells (madeCells #[nilS] N) 24)).alloc (.cells #[.int .i64 0, .slice (some ⟨w1.heap.size + 1 + 1, 0, none⟩) N N, .slice (some ⟨w1.heap.size, 0, none⟩) N N] 39)).alloc (.cells (madeCells #[.bool false] N) 4)) (.pointer (some ⟨w1.heap.size + 1, 0, none⟩)) N) := ⟨_, _, _, rfl, ⟨by omega, by omega, by omega⟩, ⟨by omega, by omega, by omega⟩, FGB.out, FGI.out, FBX.out, hcf⟩
        clear FGB FGI FBX
        go_wp2_with fail
        go_meet
        exact FM.out
    · skip
      go_simp
      have hc1 := Since.alloc (Since.refl w1).drew (.cells #[.int .i64 0, .slice none 0 0, .slice none 0 0] 39)
      refine hK.out _ _ (HKC.out _ hc1) (fun hHeld1 => ?_)
      clear hK K hHeld
      try simp only [Act.put, List.setIfInBounds_toArray, List.set_cons_zero, List.set_cons_succ]
      refine take_two 2 5 rfl rfl (by kernel_rfl) (by rfl) (by rfl) (fun K hK => ?_) (fun K hK => ?_)
      · skip
        go_simp
        have hc2 := Since.alloc hc1 (.cells (madeCells #[.bool false] N) 4)
        refine hK.out _ _ (HKC.out _ hc2) (fun hHeld2 => ?_)
        clear hK K hHeld1
        try simp only [Act.put, List.setIfInBounds_toArray, List.set_cons_zero, List.set_cons_succ]
        refine take_run 5 rfl (by kernel_rfl) (by rfl) (fun K hK => ?_)
        go_simp
        have hc3 := Since.alloc hc2 (.cells (madeCells #[nilS] N) 24)
        refine hK.out _ _ (HKC.out _ hc3) (fun hHeld3 => ?_)
        clear hK K hHeld2
        try simp only [Act.put, List.setIfInBounds_toArray, List.set_cons_zero, List.set_cons_succ]
        refine take_yes 6 (some 26) (v := ?_) rfl (by kernel_rfl) (by kernel_rfl) (by kernel_rfl) (by kernel_rfl) (fun _ _ _ h => h) (by rfl) (by assumption) ?_ ?_
        rotate_left
        · (intro w' hSw; (try dsimp only at hSw); go_simp; try with_reducible rfl)
        try simp only [Act.put, List.setIfInBounds_toArray, List.set_cons_zero, List.set_cons_succ]
        refine take_run 8 rfl (by kernel_rfl) (by rfl) (fun K hK => ?_)
        go_simp
        have hcf := (Since.alloc (Since.alloc (Since.alloc (Since.refl w1).drew (.cells #[.int .i64 0, .slice (some ⟨w1.heap.size + 1, 0, none⟩) N N, .slice (some ⟨w1.heap.size + 1 + 1, 0, none⟩) N N] 39)) (.cells (madeCells #[.bool false] N) 4)) (.cells (madeCells #[nilS] N) 24))
        refine hK.out _ _ (HKC.out _ hcf) (fun hHeldz => ?_)
        clear hK K hHeld3
        try simp only [Act.put, List.setIfInBounds_toArray, List.set_cons_zero, List.set_cons_succ]
        refine wpAnyH_done (by kernel_rfl) ?_ _
        clear hHeldz
        have FGB : Hid (OwnBo w1.heap.size (((w1.drew.alloc (.cells #[.int .i64 0, .slice (some ⟨w1.heap.size + 1, 0, none⟩) N N, .slice (some ⟨w1.heap.size + 1 + 1, 0, none⟩) N N] 39)).alloc (.cells (madeCells #[.bool false] N) 4)).alloc (.cells (madeCells #[nilS] N) 24)) (.slice (some ⟨w1.heap.size + 1, 0, none⟩) N N) (List.replicate N false)) := by
          have hz : (w1.drew.alloc (.cells #[.int .i64 0, .slice (some ⟨w1.heap.size + 1, 0, none⟩) N N, .slice (some ⟨w1.heap.size + 1 + 1, 0, none⟩) N N] 39)).heap.size = w1.heap.size + 1 := by simp
          have h := mkB_own w1.heap.size (w1.drew.alloc (.cells #[.int .i64 0, .slice (some ⟨w1.heap.size + 1, 0, none⟩) N N, .slice (some ⟨w1.heap.size + 1 + 1, 0, none⟩) N N] 39)) N (by rw [hz]; omega) hNm
          rw [hz] at h
          exact (h.since ((Since.refl ((w1.drew.alloc (.cells #[.int .i64 0, .slice (some ⟨w1.heap.size + 1, 0, none⟩) N N, .slice (some ⟨w1.heap.size + 1 + 1, 0, none⟩) N N] 39)).alloc (.cells (madeCells #[.bool false] N) 4))).alloc (.cells (madeCells #[nilS] N) 24)))
        have FGI : Hid (((((w1.drew.alloc (.cells #[.int .i64 0, .slice (some ⟨w1.heap.size + 1, 0, none⟩) N N, .slice (some ⟨w1.heap.size + 1 + 1, 0, none⟩) N N] 39)).alloc (.cells (madeCells #[.bool false] N) 4)).alloc (.cells (madeCells #[nilS] N) 24))).ownsRow w1.heap.size 24 1 (.slice (some ⟨w1.heap.size + 1 + 1, 0, none⟩) N N) N (List.replicate N nilS)) := by
          have hz : ((w1.drew.alloc (.cells #[.int .i64 0, .slice (some ⟨w1.heap.size + 1, 0, none⟩) N N, .slice (some ⟨w1.heap.size + 1 + 1, 0, none⟩) N N] 39)).alloc (.cells (madeCells #[.bool false] N) 4)).heap.size = w1.heap.size + 1 + 1 := by simp
          have h := mkI_own w1.heap.size ((w1.drew.alloc (.cells #[.int .i64 0, .slice (some ⟨w1.heap.size + 1, 0, none⟩) N N, .slice (some ⟨w1.heap.size + 1 + 1, 0, none⟩) N N] 39)).alloc (.cells (madeCells #[.bool false] N) 4)) N (by rw [hz]; omega) hNm
          rw [hz] at h
          exact h
        have FBX : Hid (Blk (((w1.drew.alloc (.cells #[.int .i64 0, .slice (some ⟨w1.heap.size + 1, 0, none⟩) N N, .slice (some ⟨w1.heap.size + 1 + 1, 0, none⟩) N N] 39)).alloc (.cells (madeCells #[.bool false] N) 4)).alloc (.cells (madeCells #[nilS] N) 24)) (w1.heap.size) 39 #[.int .i64 0, .slice (some ⟨w1.heap.size + 1, 0, none⟩) N N, .slice (some ⟨w1.heap.size + 1 + 1, 0, none⟩) N N]) := by
          have hz : w1.drew.heap.size = w1.heap.size := by simp
          have h := Blk.new (w := w1.drew) hz.symm 39 #[.int .i64 0, .slice (some ⟨w1.heap.size + 1, 0, none⟩) N N, .slice (some ⟨w1.heap.size + 1 + 1, 0, none⟩) N N]
          exact ((h.since ((Since.refl (w1.drew.alloc (.cells #[.int .i64 0, .slice (some ⟨w1.heap.size + 1, 0, none⟩) N N, .slice (some ⟨w1.heap.size + 1 + 1, 0, none⟩) N N] 39))).alloc (.cells (madeCells #[.bool false] N) 4))).since ((Since.refl ((w1.drew.alloc (.cells #[.int .i64 0, .slice (some ⟨w1.heap.size + 1, 0, none⟩) N N, .slice (some ⟨w1.heap.size + 1 + 1, 0, none⟩) N N] 39)).alloc (.cells (madeCells #[.bool false] N) 4))).alloc (.cells (madeCells #[nilS] N) 24)))
        have FM : Hid (MadeA w1 (((w1.drew.alloc (.cells #[.int .i64 0, .slice (some ⟨w1.heap.size + 1, 0, none⟩) N N, .slice (some ⟨w1.heap.size + 1 + 1, 0, none⟩) N N] 39)).alloc (.cells (madeCells #[.bool false] N) 4)).alloc (.cells (madeCells #[nilS] N) 24)) (.pointer (some ⟨w1.heap.size, 0, none⟩)) N) := ⟨_, _, _, rfl, ⟨by omega, by omega, by omega⟩, ⟨by omega, by omega, by omega⟩, FGB.out, FGI.out, FBX.out, hcf⟩
        clear FGB FGI FBX
        go_wp2_with fail
        go_meet
        exact FM.out
      · skip
        go_simp
        have hc2 := Since.alloc hc1 (.cells (madeCells #[nilS] N) 24)
        refine hK.out _ _ (HKC.out _ hc2) (fun hHeld2 => ?_)
        clear hK K hHeld1
        try simp only [Act.put, List.setIfInBounds_toArray, List.set_cons_zero, List.set_cons_succ]
        refine take_run 2 rfl (by kernel_rfl) (by rfl) (fun K hK => ?_)
        go_simp
        have hc3 := Since.alloc hc2 (.cells (madeCells #[.bool false] N) 4)
        refine hK.out _ _ (HKC.out _ hc3) (fun hHeld3 => ?_)
        clear hK K hHeld2
        try simp only [Act.put, List.setIfInBounds_toArray, List.set_cons_zero, List.set_cons_succ]
        refine take_yes 6 (some 26) (v := ?_) rfl (by kernel_rfl) (by kernel_rfl) (by kernel_rfl) (by kernel_rfl) (fun _ _ _ h => h) (by rfl) (by assumption) ?_ ?_
        rotate_left
        · (intro w' hSw; (try dsimp only at hSw); go_simp; try with_reducible rfl)
        try simp only [Act.put, List.setIfInBounds_toArray, List.set_cons_zero, List.set_cons_succ]
        refine take_run 8 rfl (by kernel_rfl) (by rfl) (fun K hK => ?_)
        go_simp
        have hcf := (Since.alloc (Since.alloc (Since.alloc (Since.refl w1).drew (.cells #[.int .i64 0, .slice (some ⟨w1.heap.size + 1 + 1, 0, none⟩) N N, .slice (some ⟨w1.heap.size + 1, 0, none⟩) N N] 39)) (.cells (madeCells #[nilS] N) 24)) (.cells (madeCells #[.bool false] N) 4))
        refine hK.out _ _ (HKC.out _ hcf) (fun hHeldz => ?_)
        clear hK K hHeld3
        try simp only [Act.put, List.setIfInBounds_toArray, List.set_cons_zero, List.set_cons_succ]
        refine wpAnyH_done (by kernel_rfl) ?_ _
        clear hHeldz
        have FGB : Hid (OwnBo w1.heap.size (((w1.drew.alloc (.cells #[.int .i64 0, .slice (some ⟨w1.heap.size + 1 + 1, 0, none⟩) N N, .slice (some ⟨w1.heap.size + 1, 0, none⟩) N N] 39)).alloc (.cells (madeCells #[nilS] N) 24)).alloc (.cells (madeCells #[.bool false] N) 4)) (.slice (some ⟨w1.heap.size + 1 + 1, 0, none⟩) N N) (List.replicate N false)) := by
          have hz : ((w1.drew.alloc (.cells #[.int .i64 0, .slice (some ⟨w1.heap.size + 1 + 1, 0, none⟩) N N, .slice (some ⟨w1.heap.size + 1, 0, none⟩) N N] 39)).alloc (.cells (madeCells #[nilS] N) 24)).heap.size = w1.heap.size + 1 + 1 := by simp
          have h := mkB_own w1.heap.size ((w1.drew.alloc (.cells #[.int .i64 0, .slice (some ⟨w1.heap.size + 1 + 1, 0, none⟩) N N, .slice (some ⟨w1.heap.size + 1, 0, none⟩) N N] 39)).alloc (.cells (madeCells #[nilS] N) 24)) N (by rw [hz]; omega) hNm
          rw [hz] at h
          exact h
        have FGI : Hid (((((w1.drew.alloc (.cells #[.int .i64 0, .slice (some ⟨w1.heap.size + 1 + 1, 0, none⟩) N N, .slice (some ⟨w1.heap.size + 1, 0, none⟩) N N] 39)).alloc (.cells (madeCells #[nilS] N) 24)).alloc (.cells (madeCells #[.bool false] N) 4))).ownsRow w1.heap.size 24 1 (.slice (some ⟨w1.heap.size + 1, 0, none⟩) N N) N (List.replicate N nilS)) := by
          have hz : (w1.drew.alloc (.cells #[.int .i64 0, .slice (some ⟨w1.heap.size + 1 + 1, 0, none⟩) N N, .slice (some ⟨w1.heap.size + 1, 0, none⟩) N N] 39)).heap.size = w1.heap.size + 1 := by simp
          have h := mkI_own w1.heap.size (w1.drew.alloc (.cells #[.int .i64 0, .slice (some ⟨w1.heap.size + 1 + 1, 0, none⟩) N N, .slice (some ⟨w1.heap.size + 1, 0, none⟩) N N] 39)) N (by rw [hz]; omega) hNm
          rw [hz] at h
          exact (row_since h ((Since.refl ((w1.drew.alloc (.cells #[.int .i64 0, .slice (some ⟨w1.heap.size + 1 + 1, 0, none⟩) N N, .slice (some ⟨w1.heap.size + 1, 0, none⟩) N N] 39)).alloc (.cells (madeCells #[nilS] N) 24))).alloc (.cells (madeCells #[.bool false] N) 4)))
        have FBX : Hid (Blk (((w1.drew.alloc (.cells #[.int .i64 0, .slice (some ⟨w1.heap.size + 1 + 1, 0, none⟩) N N, .slice (some ⟨w1.heap.size + 1, 0, none⟩) N N] 39)).alloc (.cells (madeCells #[nilS] N) 24)).alloc (.cells (madeCells #[.bool false] N) 4)) (w1.heap.size) 39 #[.int .i64 0, .slice (some ⟨w1.heap.size + 1 + 1, 0, none⟩) N N, .slice (some ⟨w1.heap.size + 1, 0, none⟩) N N]) := by
          have hz : w1.drew.heap.size = w1.heap.size := by simp
          have h := Blk.new (w := w1.drew) hz.symm 39 #[.int .i64 0, .slice (some ⟨w1.heap.size + 1 + 1, 0, none⟩) N N, .slice (some ⟨w1.heap.size + 1, 0, none⟩) N N]
          exact ((h.since ((Since.refl (w1.drew.alloc (.cells #[.int .i64 0, .slice (some ⟨w1.heap.size + 1 + 1, 0, none⟩) N N, .slice (some ⟨w1.heap.size + 1, 0, none⟩) N N] 39))).alloc (.cells (madeCells #[nilS] N) 24))).since ((Since.refl ((w1.drew.alloc (.cells #[.int .i64 0, .slice (some ⟨w1.heap.size + 1 + 1, 0, none⟩) N N, .slice (some ⟨w1.heap.size + 1, 0, none⟩) N N] 39)).alloc (.cells (madeCells #[nilS] N) 24))).alloc (.cells (madeCells #[.bool false] N) 4)))
        have FM : Hid (MadeA w1 (((w1.drew.alloc (.cells #[.int .i64 0, .slice (some ⟨w1.heap.size + 1 + 1, 0, none⟩) N N, .slice (some ⟨w1.heap.size + 1, 0, none⟩) N N] 39)).alloc (.cells (madeCells #[nilS] N) 24)).alloc (.cells (madeCells #[.bool false] N) 4)) (.pointer (some ⟨w1.heap.size, 0, none⟩)) N) := ⟨_, _, _, rfl, ⟨by omega, by omega, by omega⟩, ⟨by omega, by omega, by omega⟩, FGB.out, FGI.out, FBX.out, hcf⟩
        clear FGB FGI FBX
        go_wp2_with fail
        go_meet
        exact FM.out
  case rest =>
    obtain ⟨wx, hwx⟩ : ∃ W, W = wc := ⟨_, rfl⟩
    subst hwx
    obtain ⟨gb, gi, ga, hpp, ⟨k0, k1, k2⟩, hne, hOB, hOR, hBX, hsx⟩ := hcut
    subst hpp
    have HM2 := Since.keptMap HM.out hsx
    go_wp2_with (at_range; refine wpList_range_own _ rfl _ 192 rfl 100 3 arrP.law Try.underlying192 _ b n D rfl HM2 ?_; intro w0 hrg0 hg0 hz0)
    have hsr : Since wx w0 := (Since.refl wx).grown hg0 (fun _ h => by simp at h)
    obtain ⟨r, hr⟩ : ∃ r, r = wx.heap.size := ⟨_, rfl⟩
    rw [← hr] at hrg0 ⊢
    have HRX := Lib.hid hr
    have hkr : w1.heap.size ≤ r := by rw [hr]; exact hsx.size
    have HMK : Hid (MkG w1.heap.size N gb gi ga (F.map acc) (F.map fun x => (List.range 9).map (cellG (prS A B) F x)) (F.map (kyG 100)) (Maps.has D) w0) :=
      (MkG.start (by rw [List.length_map]; exact HN.out) hne hOB hOR hBX (fun k hk => by
        obtain ⟨x, hx, rfl⟩ := List.mem_map.1 hk
        rw [HD.out.num.has x (HD.out.num.ok x hx)]; simp [hx])).since hsr
    have HS0 : Hid (Since w1 w0) := hsx.trans hsr
    clear HM2 hg0 hz0 hsr hr hOB hOR hBX hsx hne
    go_frame
    go_loopw [10] (fun _ wr => ∃ (left : Lit → Bool) (cnt : Nat), Hid (wr.ranges Try.prog 100 (plainElem Try.prog 3) b r n D left cnt) ∧ Hid (MkG w1.heap.size N gb gi ga (F.map acc) (F.map fun x => (List.range 9).map (cellG (prS A B) F x)) (F.map (kyG 100)) left wr) ∧ Hid (Since w1 wr)) (fun _ wr => wr.rangeLeft b r)
    case atStart => exact ⟨_, _, hrg0, HMK.out, HS0.out⟩
    case round =>
      obtain ⟨left, cnt, HRG, HK, HS⟩ := hrel
      have hrg := HRG.out
      go_wp2_with (at_next; refine wpList_next_pair rfl _ rfl b r n _ _ _ rfl hrg ?_ ?_)
      · intro hc0 hl0
        have hdone := HK.out.done (by rw [List.length_map]; exact HN.out) (by rw [List.length_map]; exact HN.out.symm) (by rw [List.length_map]; exact HN.out) k1 hl0
        have HDN := Lib.hid hdone
        obtain ⟨⟨p0, p1, p2⟩, _⟩ := HK.out.bx.threeA
        obtain ⟨⟨r0, r1, r2⟩, r3, r4, r5⟩ := (C1.out.since HS.out).threeA
        clear hdone hrg
        go_wp2
        refine bodyPost_ret (v := .tuple #[.agg #[.int .i64 0, .slice (some ⟨gb, 0, none⟩) N N, .slice (some ⟨gi, 0, none⟩) N N], .bool true]) (by simp [results, Try.results182, go_sem, *]) rfl ?_
        refine ⟨_, rfl, ?_, ?_⟩
        · refine OwnA.wider (lo := w1.heap.size) (hi := wr.heap.size) ?_ (by omega) (by simp)
          iterate 3 (with_reducible refine OwnA.far1 ?_ (.inl (by omega)) _ _)
          exact HDN.out
        · iterate 3 (with_reducible refine Since.setCell ?_ (by simp <;> omega) _)
          exact HS1.out.trans HS.out
      · intro x c kl wn cnt1 hkx hlx hat hrg1 hlt hg1 hsz1 hen
        obtain ⟨i, hi, hkl, rfl⟩ := HD.out.entry arrP hat
        obtain ⟨a0, b0, hab, hqa, hqb⟩ := HFQ.out F[i] (List.getElem_mem hi)
        have hxe : x = .agg #[.int .i64 a0, .int .i64 b0] := by
          have h1 := arrP.keyOf (HD.out.num.ok _ (List.getElem_mem hi))
          rw [hkl] at hkx
          have h2 := arrP.law.inj hkx h1
          rw [h2, hab]; rfl
        subst hxe
        have HKI : Hid ((F.map (kyG 100))[i]? = some kl) := by unfold Hid; rw [List.getElem?_map, List.getElem?_eq_getElem hi, hkl]; rfl
        have HAI : Hid ((F.map acc)[i]? = some (acc [a0, b0])) := by unfold Hid; rw [List.getElem?_map, List.getElem?_eq_getElem hi, hab]; rfl
        have HMEM : Hid ([a0, b0] ∈ F) := by unfold Hid; rw [← hab]; exact List.getElem_mem hi
        have HXI : Hid (∃ h : i < (F.map fun x => (List.range 9).map (cellG (prS A B) F x)).length, (F.map fun x => (List.range 9).map (cellG (prS A B) F x))[i] = (List.range 9).map (cellG (prS A B) F [a0, b0])) := ⟨by rw [List.length_map]; exact hi, by rw [List.getElem_map, hab]⟩
        have HQ : Hid (InQ A a0 ∧ InQ B b0) := ⟨hqa, hqb⟩
        have hMK1 := HK.out.iter hg1 (ranges_nocells hrg)
        have HSn1 : Hid (Since w1 wn) := HS.out.grown hg1 (fun j hj => by injection hj with hj; omega)
        have HR1a := Lib.hid hrg1
        have HM1a := Lib.hid hMK1
        have hMs : Hid (cnt1 < cnt) := hlt
        have HLE : Hid (wr.rangeLeft b r = cnt) := hrg.left_eq
        have hi2 : i < N := by rw [HN.out]; exact hi
        have hii : (i : Int) < (N : Int) := by omega
        have hi0 : (0 : Int) ≤ (i : Int) := by omega
        clear hat hrg hlt hg1 hsz1 hMK1 hrg1 hlx HRG HK hkx hkl hab hqa hqb hi
        go_upto_region 8 with fail
        obtain ⟨wm, hwm⟩ : ∃ q, q = wn.alloc (.cells #[.int .i64 a0, .int .i64 b0] 100) := ⟨_, rfl⟩
        obtain ⟨G, hG⟩ : ∃ G, G = wn.heap.size := ⟨_, rfl⟩
        have hal : Since wn wm := by rw [hwm]; exact (Since.refl _).alloc _
        have BG : Hid (Blk wm G 100 #[.int .i64 a0, .int .i64 b0]) := by rw [hwm]; exact Blk.new hG _ _
        have HSn : Hid (Since w1 wm) := HSn1.out.trans hal
        have HR1 : Hid (wm.ranges Try.prog 100 (plainElem Try.prog 3) b r n D (fun z => left z && !z.sameKey kl) cnt1) := ranges_since HR1a.out hal
        have HM1 : Hid (MkG w1.heap.size N gb gi ga (F.map acc) (F.map fun x => (List.range 9).map (cellG (prS A B) F x)) (F.map (kyG 100)) left wm) := HM1a.out.since hal
        try rw [← hwm]
        try rw [← hG]
        clear hwm hal HSn1 HR1a HM1a hen
        have hG2 := Lib.hid hG
        clear hG
        obtain ⟨⟨u1, c1⟩, f1, hgbl, hbt⟩ := HM1.out.cellB hi2
        have HKC : Hid (∀ w', Since wm w' → (w'.cell? ⟨ga, 1, none⟩ = some (.slice (some ⟨gb, 0, none⟩) N N) ∧ w'.cell? ⟨w.heap.size, 2, none⟩ = some (.func (.func 148) #[] #[.pointer (some ⟨BQ, 0, none⟩), .pointer (some ⟨BA, 0, none⟩), .pointer (some ⟨BB, 0, none⟩)]) ∧ w'.cell? ⟨G, 0, none⟩ = some (.int .i64 a0) ∧ w'.cell? ⟨G, 1, none⟩ = some (.int .i64 b0)) ∧ w'.cell? ⟨gb, i, none⟩ = some u1 ∧ w'.frozen? ⟨gb, i, none⟩ = false) := by
          intro w' hs
          obtain ⟨⟨r0, r1, r2⟩, _⟩ := (HM1.out.bx.since hs).threeA
          obtain ⟨q0, q1, q2, q3, _⟩ := (C0.out.since (HSn.out.trans hs)).four
          obtain ⟨g0, g1, _, _⟩ := (BG.out.since hs).two
          exact ⟨⟨r1, q2, g0, g1⟩, (Below.cell hs (p := ⟨gb, i, none⟩) hgbl).trans c1, (Below.frozen hs (p := ⟨gb, i, none⟩) hgbl).trans f1⟩
        clear c1 f1
        go_wp2_with fail
        refine wp_region_held_drew (S := (fun w' => w'.cell? ⟨ga, 1, none⟩ = some (.slice (some ⟨gb, 0, none⟩) N N) ∧ w'.cell? ⟨w.heap.size, 2, none⟩ = some (.func (.func 148) #[] #[.pointer (some ⟨BQ, 0, none⟩), .pointer (some ⟨BA, 0, none⟩), .pointer (some ⟨BB, 0, none⟩)]) ∧ w'.cell? ⟨G, 0, none⟩ = some (.int .i64 a0) ∧ w'.cell? ⟨G, 1, none⟩ = some (.int .i64 b0))) (by kernel_rfl) (HKC.out _ (Since.refl _).drew).1 (fun hHeld => ?_)
        refine take_yes 0 (some 34) (v := ?_) rfl (by kernel_rfl) (by kernel_rfl) (by kernel_rfl) (by kernel_rfl) (fun _ _ _ h => h) (by rfl) (by assumption) ?_ ?_
        rotate_left
        · (intro w' hSw; (try dsimp only at hSw); go_simp; try with_reducible rfl)
        try simp only [Act.put, List.setIfInBounds_toArray, List.set_cons_zero, List.set_cons_succ]
        refine take_yes 1 (some 35) (v := ?_) rfl (by kernel_rfl) (by kernel_rfl) (by kernel_rfl) (by kernel_rfl) (fun _ _ _ h => h) (by rfl) (by assumption) ?_ ?_
        rotate_left
        · (intro w' hSw; (try dsimp only at hSw); go_simp; try with_reducible rfl)
        try simp only [Act.put, List.setIfInBounds_toArray, List.set_cons_zero, List.set_cons_succ]
        refine take_yes 2 (some 36) (v := ?_) rfl (by kernel_rfl) (by kernel_rfl) (by kernel_rfl) (by kernel_rfl) (fun _ _ _ h => h) (by rfl) (by assumption) ?_ ?_
        rotate_left
        · (intro w' hSw; (try dsimp only at hSw); go_simp; try with_reducible rfl)
        try simp only [Act.put, List.setIfInBounds_toArray, List.set_cons_zero, List.set_cons_succ]
        refine take_yes 3 (some 37) (v := ?_) rfl (by kernel_rfl) (by kernel_rfl) (by kernel_rfl) (by kernel_rfl) (fun _ _ _ h => h) (by rfl) (by assumption) ?_ ?_
        rotate_left
        · (intro w' hSw; (try dsimp only at hSw); go_simp; try with_reducible rfl)
        try simp only [Act.put, List.setIfInBounds_toArray, List.set_cons_zero, List.set_cons_succ]
        refine take_yes 4 (some 38) (v := ?_) rfl (by kernel_rfl) (by kernel_rfl) (by kernel_rfl) (by kernel_rfl) (fun _ _ _ h => h) (by rfl) (by assumption) ?_ ?_
        rotate_left
        · (intro w' hSw; (try dsimp only at hSw); go_simp; try with_reducible rfl)
        try simp only [Act.put, List.setIfInBounds_toArray, List.set_cons_zero, List.set_cons_succ]
        refine take_yes 5 (some 39) (v := ?_) rfl (by kernel_rfl) (by kernel_rfl) (by kernel_rfl) (by kernel_rfl) (fun _ _ _ h => h) (by rfl) (by assumption) ?_ ?_
        rotate_left
        · (intro w' hSw; (try dsimp only at hSw); go_simp; try with_reducible rfl)
        try simp only [Act.put, List.setIfInBounds_toArray, List.set_cons_zero, List.set_cons_succ]
        refine take_run 6 rfl (by kernel_rfl) (by rfl) (fun K hK => ?_)
        go_simp
        refine (HAC.out a0 b0 _ HQ.out.1 HQ.out.2 (HS1.out.trans (HSn.out.trans (Since.refl _).drew))).mono ?_
        rintro e w2 ⟨rfl, hs2⟩
        have hc2 := Since.of_drew hs2
        refine hK.out _ _ (HKC.out _ hc2).1 (fun hHeld2 => ?_)
        clear hK K hHeld
        try simp only [Act.put, List.setIfInBounds_toArray, List.set_cons_zero, List.set_cons_succ]
        refine take_yes 7 (some 41) (v := ?_) rfl (by kernel_rfl) (by kernel_rfl) (by kernel_rfl) (by kernel_rfl) (fun _ _ _ h => h) (by rfl) (by assumption) ?_ ?_
        rotate_left
        · (intro w' hSw; (try dsimp only at hSw); go_simp; try with_reducible rfl)
        try simp only [Act.put, List.setIfInBounds_toArray, List.set_cons_zero, List.set_cons_succ]
        refine take_run 8 rfl (by kernel_rfl) (by rfl) (fun K hK => ?_)
        obtain ⟨_, c2, f2⟩ := HKC.out _ hc2
        go_simp
        have hmb := HM1.out.bool (HD.out.keys arrP) HKI.out hi2 HAI.out hc2
        obtain ⟨hmb1, hmb2, hmb3⟩ := hmb
        obtain ⟨w3, hw3⟩ : ∃ w3, w3 = w2.setCell ⟨gb, i, none⟩ (.bool (acc [a0, b0])) := ⟨_, rfl⟩
        have hs3 : Since w1 w3 := by rw [hw3]; exact (HSn.out.trans hc2).setCell k0 _
        have hbg3 : Blk w3 G 100 #[.int .i64 a0, .int .i64 b0] := by rw [hw3]; exact (BG.out.since hc2).far (by have := hG2.out; have := hgbl; simp; intro e; subst e; obtain ⟨_, _, hqx⟩ := hbt; have hb9 := BG.out; rw [Blk, hqx] at hb9; injection hb9 with hb9; injection hb9 with _ hb9 _; exact absurd hb9 (by decide)) _
        have hr3 : w3.ranges Try.prog 100 (plainElem Try.prog 3) b r n D (fun z => left z && !z.sameKey kl) cnt1 := by
          rw [hw3]
          obtain ⟨csb, fzb, hqb⟩ := (HM1.out.since hc2).cellB hi2 |>.2.2.2
          exact ranges_set (ranges_since HR1.out hc2) hqb i _
        rw [← hw3] at hmb1 hmb2 hmb3 ⊢
        have HB1 := Lib.hid hmb1
        have HB2 := Lib.hid hmb2
        have HB3 := Lib.hid hmb3
        have HR3 := Lib.hid hr3
        have HS3 := Lib.hid hs3
        have BG3 := Lib.hid hbg3
        have HNE := Lib.hid HM1.out.ne
        have hSt : (fun w' => w'.cell? ⟨ga, 1, none⟩ = some (.slice (some ⟨gb, 0, none⟩) N N) ∧ w'.cell? ⟨w.heap.size, 2, none⟩ = some (.func (.func 148) #[] #[.pointer (some ⟨BQ, 0, none⟩), .pointer (some ⟨BA, 0, none⟩), .pointer (some ⟨BB, 0, none⟩)]) ∧ w'.cell? ⟨G, 0, none⟩ = some (.int .i64 a0) ∧ w'.cell? ⟨G, 1, none⟩ = some (.int .i64 b0)) w3 := by
          obtain ⟨⟨r0, r1, r2⟩, _⟩ := hmb3.threeA
          obtain ⟨q0, q1, q2, q3, _⟩ := (C0.out.since hs3).four
          obtain ⟨g0, g1, _, _⟩ := hbg3.two
          exact ⟨r1, q2, g0, g1⟩
        refine hK.out _ _ hSt (fun hHeldz => ?_)
        clear hK K hHeld2 hSt c2 f2 hmb1 hmb2 hmb3 hr3 hs3 hw3 HKC hc2 hs2 hbg3
        try simp only [Act.put, List.setIfInBounds_toArray, List.set_cons_zero, List.set_cons_succ]
        refine wpAnyH_done (by kernel_rfl) ?_ _
        clear hHeldz
        go_upto_region 9 with fail
        have hcR : (∃ u, w3.cell? ⟨gi, i, none⟩ = some u) ∧ w3.frozen? ⟨gi, i, none⟩ = false ∧ gi < w3.heap.size ∧ ∃ cs fz, w3.heap[gi]? = some (.cells cs 24 fz) := by
          obtain ⟨a, b⟩ := HB2.out.cells hi2
          obtain ⟨ps, _, h2, _, _⟩ := HB2.out
          obtain ⟨cs, fz, hq⟩ := own_block_of h2 gi rfl
          exact ⟨a, b, heap_lt hq, cs, fz, hq⟩
        obtain ⟨⟨u2, c3⟩, f3, hgil, hgt⟩ := hcR
        have HKD : Hid (∀ w', Since w3 w' → (w'.cell? ⟨ga, 2, none⟩ = some (.slice (some ⟨gi, 0, none⟩) N N) ∧ w'.cell? ⟨w.heap.size, 0, none⟩ = some (.int .i64 s) ∧ w'.cell? ⟨w.heap.size, 1, none⟩ = some (.int .i64 t) ∧ w'.cell? ⟨w.heap.size, 2, none⟩ = some (.func (.func 148) #[] #[.pointer (some ⟨BQ, 0, none⟩), .pointer (some ⟨BA, 0, none⟩), .pointer (some ⟨BB, 0, none⟩)]) ∧ w'.cell? ⟨w.heap.size, 3, none⟩ = some (.func (.func 149) #[] #[.pointer (some ⟨BA, 0, none⟩), .pointer (some ⟨BB, 0, none⟩)]) ∧ w'.cell? ⟨G, 0, none⟩ = some (.int .i64 a0) ∧ w'.cell? ⟨G, 1, none⟩ = some (.int .i64 b0)) ∧ w'.cell? ⟨gi, i, none⟩ = some u2 ∧ w'.frozen? ⟨gi, i, none⟩ = false) := by
          intro w' hs
          obtain ⟨⟨r0, r1, r2⟩, _⟩ := (HB3.out.since hs).threeA
          obtain ⟨q0, q1, q2, q3, _⟩ := (C0.out.since (HS3.out.trans hs)).four
          obtain ⟨g0, g1, _, _⟩ := (BG3.out.since hs).two
          exact ⟨⟨r2, q0, q1, q2, q3, g0, g1⟩, (Below.cell hs (p := ⟨gi, i, none⟩) hgil).trans c3, (Below.frozen hs (p := ⟨gi, i, none⟩) hgil).trans f3⟩
        clear c3 f3
        go_wp2_with fail
        refine wp_region_held_drew (S := (fun w' => w'.cell? ⟨ga, 2, none⟩ = some (.slice (some ⟨gi, 0, none⟩) N N) ∧ w'.cell? ⟨w.heap.size, 0, none⟩ = some (.int .i64 s) ∧ w'.cell? ⟨w.heap.size, 1, none⟩ = some (.int .i64 t) ∧ w'.cell? ⟨w.heap.size, 2, none⟩ = some (.func (.func 148) #[] #[.pointer (some ⟨BQ, 0, none⟩), .pointer (some ⟨BA, 0, none⟩), .pointer (some ⟨BB, 0, none⟩)]) ∧ w'.cell? ⟨w.heap.size, 3, none⟩ = some (.func (.func 149) #[] #[.pointer (some ⟨BA, 0, none⟩), .pointer (some ⟨BB, 0, none⟩)]) ∧ w'.cell? ⟨G, 0, none⟩ = some (.int .i64 a0) ∧ w'.cell? ⟨G, 1, none⟩ = some (.int .i64 b0))) (by kernel_rfl) (HKD.out _ (Since.refl _).drew).1 (fun hHeld => ?_)
        refine take_yes 0 (some 42) (v := ?_) rfl (by kernel_rfl) (by kernel_rfl) (by kernel_rfl) (by kernel_rfl) (fun _ _ _ h => h) (by rfl) (by assumption) ?_ ?_
        rotate_left
        · (intro w' hSw; (try dsimp only at hSw); go_simp; try with_reducible rfl)
        try simp only [Act.put, List.setIfInBounds_toArray, List.set_cons_zero, List.set_cons_succ]
        refine take_yes 1 (some 43) (v := ?_) rfl (by kernel_rfl) (by kernel_rfl) (by kernel_rfl) (by kernel_rfl) (fun _ _ _ h => h) (by rfl) (by assumption) ?_ ?_
        rotate_left
        · (intro w' hSw; (try dsimp only at hSw); go_simp; try with_reducible rfl)
        try simp only [Act.put, List.setIfInBounds_toArray, List.set_cons_zero, List.set_cons_succ]
        refine take_yes 2 (some 44) (v := ?_) rfl (by kernel_rfl) (by kernel_rfl) (by kernel_rfl) (by kernel_rfl) (fun _ _ _ h => h) (by rfl) (by assumption) ?_ ?_
        rotate_left
        · (intro w' hSw; (try dsimp only at hSw); go_simp; try with_reducible rfl)
        try simp only [Act.put, List.setIfInBounds_toArray, List.set_cons_zero, List.set_cons_succ]
        refine take_yes 3 (some 45) (v := ?_) rfl (by kernel_rfl) (by kernel_rfl) (by kernel_rfl) (by kernel_rfl) (fun _ _ _ h => h) (by rfl) (by assumption) ?_ ?_
        rotate_left
        · (intro w' hSw; (try dsimp only at hSw); go_simp; try with_reducible rfl)
        try simp only [Act.put, List.setIfInBounds_toArray, List.set_cons_zero, List.set_cons_succ]
        refine take_yes 4 (some 46) (v := ?_) rfl (by kernel_rfl) (by kernel_rfl) (by kernel_rfl) (by kernel_rfl) (fun _ _ _ h => h) (by rfl) (by assumption) ?_ ?_
        rotate_left
        · (intro w' hSw; (try dsimp only at hSw); go_simp; try with_reducible rfl)
        try simp only [Act.put, List.setIfInBounds_toArray, List.set_cons_zero, List.set_cons_succ]
        refine take_yes 5 (some 47) (v := ?_) rfl (by kernel_rfl) (by kernel_rfl) (by kernel_rfl) (by kernel_rfl) (fun _ _ _ h => h) (by rfl) (by assumption) ?_ ?_
        rotate_left
        · (intro w' hSw; (try dsimp only at hSw); go_simp; try with_reducible rfl)
        try simp only [Act.put, List.setIfInBounds_toArray, List.set_cons_zero, List.set_cons_succ]
        refine take_run 6 rfl (by kernel_rfl) (by rfl) (fun K hK => ?_)
        go_simp
        refine (HROW.out a0 b0 b n D _ HQ.out.1 HQ.out.2 (HS1.out.trans (HS3.out.trans (Since.refl _).drew)) HMEM.out (Since.keptMap HR3.out.owns (Since.refl _).drew) HD.out).mono ?_
        rintro e w4 ⟨v4, rfl, ho4, hs4⟩
        have hc4 := Since.of_drew hs4
        obtain ⟨vo, vc, rfl⟩ := ho4.len
        rw [List.length_map, List.length_range] at ho4 ⊢
        have HO4 := Lib.hid ho4
        clear ho4
        refine hK.out _ _ (HKD.out _ hc4).1 (fun hHeld2 => ?_)
        clear hK K hHeld
        try simp only [Act.put, List.setIfInBounds_toArray, List.set_cons_zero, List.set_cons_succ]
        refine take_yes 7 (some 49) (v := ?_) rfl (by kernel_rfl) (by kernel_rfl) (by kernel_rfl) (by kernel_rfl) (fun _ _ _ h => h) (by rfl) (by assumption) ?_ ?_
        rotate_left
        · (intro w' hSw; (try dsimp only at hSw); go_simp; try with_reducible rfl)
        try simp only [Act.put, List.setIfInBounds_toArray, List.set_cons_zero, List.set_cons_succ]
        refine take_run 8 rfl (by kernel_rfl) (by rfl) (fun K hK => ?_)
        obtain ⟨_, c4, f4⟩ := HKD.out _ hc4
        go_simp
        obtain ⟨hxl, hxe⟩ := HXI.out
        have hmk := MkG.row HNE.out (HD.out.keys arrP) HKI.out hi2 (by rw [List.length_map]; exact HN.out) HB1.out HB2.out HB3.out hc4 hgil (p := .slice vo 9 vc) (by rw [hxe]; exact HO4.out)
        obtain ⟨w5, hw5⟩ : ∃ w5, w5 = w4.setCell ⟨gi, i, none⟩ (.slice vo 9 vc) := ⟨_, rfl⟩
        have hs5 : Since w1 w5 := by rw [hw5]; exact (HS3.out.trans hc4).setCell k1 _
        have hbg5 : Blk w5 G 100 #[.int .i64 a0, .int .i64 b0] := by rw [hw5]; exact (BG3.out.since hc4).far (by have := hgil; simp; intro e; subst e; obtain ⟨_, _, hqx⟩ := hgt; have hb9 := BG3.out; rw [Blk, hqx] at hb9; injection hb9 with hb9; injection hb9 with _ hb9 _; exact absurd hb9 (by decide)) _
        have hr5 : w5.ranges Try.prog 100 (plainElem Try.prog 3) b r n D (fun z => left z && !z.sameKey kl) cnt1 := by
          rw [hw5]
          obtain ⟨ps, _, h2, _, _⟩ := HB2.out.since hc4
          obtain ⟨cs, fz, hq⟩ := own_block_of h2 gi rfl
          exact ranges_set (ranges_since HR3.out hc4) hq i _
        rw [← hw5] at hmk ⊢
        have HK5 := Lib.hid hmk
        have HR5 := Lib.hid hr5
        have HS5 := Lib.hid hs5
        have hSt : (fun w' => w'.cell? ⟨ga, 2, none⟩ = some (.slice (some ⟨gi, 0, none⟩) N N) ∧ w'.cell? ⟨w.heap.size, 0, none⟩ = some (.int .i64 s) ∧ w'.cell? ⟨w.heap.size, 1, none⟩ = some (.int .i64 t) ∧ w'.cell? ⟨w.heap.size, 2, none⟩ = some (.func (.func 148) #[] #[.pointer (some ⟨BQ, 0, none⟩), .pointer (some ⟨BA, 0, none⟩), .pointer (some ⟨BB, 0, none⟩)]) ∧ w'.cell? ⟨w.heap.size, 3, none⟩ = some (.func (.func 149) #[] #[.pointer (some ⟨BA, 0, none⟩), .pointer (some ⟨BB, 0, none⟩)]) ∧ w'.cell? ⟨G, 0, none⟩ = some (.int .i64 a0) ∧ w'.cell? ⟨G, 1, none⟩ = some (.int .i64 b0)) w5 := by
          obtain ⟨⟨r0, r1, r2⟩, _⟩ := hmk.bx.threeA
          obtain ⟨q0, q1, q2, q3, _⟩ := (C0.out.since hs5).four
          obtain ⟨g0, g1, _, _⟩ := hbg5.two
          exact ⟨r2, q0, q1, q2, q3, g0, g1⟩
        refine hK.out _ _ hSt (fun hHeldz => ?_)
        clear hK K hHeld2 hSt c4 f4 hmk hr5 hs5 hw5 HKD hc4 hs4 hbg5
        try simp only [Act.put, List.setIfInBounds_toArray, List.set_cons_zero, List.set_cons_succ]
        refine wpAnyH_done (by kernel_rfl) ?_ _
        clear hHeldz
        go_wp2
        go_roundw
        case rel => exact ⟨_, cnt1, HR5.out, HK5.out, HS5.out⟩
        case measure => rw [HR5.out.left_eq, HLE.out]; exact hMs.out
end Go.Proofs.Ytmaagihfjldgeaa
