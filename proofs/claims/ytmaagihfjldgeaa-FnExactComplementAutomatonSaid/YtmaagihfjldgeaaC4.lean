/- PrX, Co4Walk: small words and contracts that the other texts use. -/
import Derived.Test.YtmaagihfjldgeaaA7
import Derived.Test.YtmaagihfjldgeaaK1
import Derived.Test.YtmaagihfjldgeaaA1
import Derived.Test.YtmaagihfjldgeaaOpenI
/- ComplementAutomaton, the program's and the model's. -/
namespace Go.Proofs.Ytmaagihfjldgeaa
set_option maxRecDepth 100000
open Go.ChangeShapes Go.WideShapes Go.ChangeAt Go.RowKit Go.Maps
set_option linter.unusedVariables false
set_option linter.unusedSimpArgs false

set_option maxHeartbeats 4000000 in
set_option maxRecDepth 100000 in
theorem allW_any (w : World) : Calls Try.prog 125 #[] w (AOut w allA) := by
  obtain ⟨i0, hi, hz0, hz1, hz2⟩ := info_parts info_int
  have HZ2 := Lib.hid hz2
  clear hz2
  obtain ⟨y, hy⟩ : ∃ y, y = w.alloc (.cells #[.int .i64 0, .slice none 0 0, .slice none 0 0] 39) := ⟨_, rfl⟩
  have hs0 : Since w y := by rw [hy]; exact (Since.refl w).alloc _
  have hz : y.heap.size = w.heap.size + 1 := by rw [hy]; simp
  have B0 : Hid (Blk y w.heap.size 39 #[.int .i64 0, .slice none 0 0, .slice none 0 0]) := by rw [hy]; exact Blk.new rfl _ _
  have HY := Lib.hid hy
  have HZ := Lib.hid hz
  clear hy hz
  have hb0 : w.heap.size + 1 ≤ (y.alloc (.cells #[.bool true] 4)).heap.size := by have := HZ.out; simp; omega
  go_enter Try.func125, Try.ntmps125
  go_upto_region 1 with fail
  rw [← HY.out]
  go_wp2_with (at_make; go_must (refine wpList_make_full _ rfl _ _ 24 rfl (w.heap.size + 1) 3 i0 (.int .i64 0) 1 Try.underlying24 hi hz0 hz1 .i64 .i64 _ _ 9 rfl rfl rfl rfl (by rw [HZ2.out]; omega) (by unfold maxLen; omega) hb0 ?_); intro w1 hown hgrow; obtain ⟨⟨r0, r1, r2⟩, r3, r4, r5⟩ := (B0.out.since (((Since.refl y).alloc (.cells #[.bool true] 4)).grown hgrow (fun _ h => by simp at h))).threeA; have hlt9 := (B0.out.since (((Since.refl y).alloc (.cells #[.bool true] 4)).grown hgrow (fun _ h => by simp at h))).lt)
  have hs1 : Since y w1 := ((Since.refl y).alloc (.cells #[.bool true] 4)).grown hgrow (fun _ h => by simp at h)
  have hsb : Since (y.alloc (.cells #[.bool true] 4)) w1 := (Since.refl _).grown hgrow (fun _ h => by simp at h)
  have hz1' : (y.alloc (.cells #[.bool true] 4)).heap.size = w.heap.size + 2 := by have := HZ.out; simp; omega
  rw [made_ints] at hown
  have hlt1 := (World.ownsRow.lt hown _ rfl).2
  have hw1 : w.heap.size + 2 < w1.heap.size := by rw [← hz1']; exact hlt1
  obtain ⟨wz, hwz⟩ : ∃ wz, wz = (((w1.setCell ⟨w.heap.size, 0, none⟩ (.int .i64 0)).setCell ⟨w.heap.size, 1, none⟩ (.slice (some ⟨y.heap.size, 0, none⟩) 1 1)).setCell ⟨w.heap.size, 2, none⟩ (.slice (some ⟨w1.heap.size, 0, none⟩) 1 1)) := ⟨_, rfl⟩
  have hzz : wz.heap.size = w1.heap.size := by rw [hwz]; simp
  have HO0 : Hid (Own (w.heap.size + 1) w1 (.slice (some ⟨w.heap.size + 2, 0, none⟩) 9 9) (List.replicate 9 0)) := by
    rw [hz1'] at hown
    exact ⟨fun x hx => by have := List.eq_of_mem_replicate hx; subst this; unfold InI; omega, hown⟩
  have HB0 : Hid (OwnBo (w.heap.size + 1) w1 (.slice (some ⟨w.heap.size + 1, 0, none⟩) 1 1) [true]) := by
    have h : OwnBo (w.heap.size + 1) (y.alloc (.cells #[.bool true] 4)) (.slice (some ⟨y.heap.size, 0, none⟩) 1 1) [true] := World.ownsRow_lit y #[.bool true] 1 (by have := HZ.out; omega) (by unfold maxLen; omega) rfl
    rw [HZ.out] at h
    exact h.since hsb
  have HOz : Hid (Own (w.heap.size + 1) wz (.slice (some ⟨w.heap.size + 2, 0, none⟩) 9 9) (List.replicate 9 0)) := by
    have := HO0.out
    rw [hwz]
    exact ((this.far (p := ⟨w.heap.size, 0, none⟩) (Nat.lt_succ_self _) _).far (p := ⟨w.heap.size, 1, none⟩) (Nat.lt_succ_self _) _).far (p := ⟨w.heap.size, 2, none⟩) (Nat.lt_succ_self _) _
  have HBz : Hid (OwnBo (w.heap.size + 1) wz (.slice (some ⟨w.heap.size + 1, 0, none⟩) 1 1) [true]) := by
    have := HB0.out
    rw [hwz]
    exact ((this.far (p := ⟨w.heap.size, 0, none⟩) (Nat.lt_succ_self _) _).far (p := ⟨w.heap.size, 1, none⟩) (Nat.lt_succ_self _) _).far (p := ⟨w.heap.size, 2, none⟩) (Nat.lt_succ_self _) _
  have HSz : Hid (Since w wz) := by
    rw [hwz]
    exact (((hs0.trans hs1).setCell (Nat.le_refl _) _).setCell (Nat.le_refl _) _).setCell (Nat.le_refl _) _
  have HA : Hid (OwnA (w.heap.size + 1) (w1.heap.size + 1) (wz.alloc (.cells #[.slice (some ⟨w.heap.size + 2, 0, none⟩) 9 9] 24)) (.agg #[.int .i64 0, .slice (some ⟨w.heap.size + 1, 0, none⟩) 1 1, .slice (some ⟨w1.heap.size, 0, none⟩) 1 1]) allA) := by
    have k2 : Since wz (wz.alloc (.cells #[.slice (some ⟨w.heap.size + 2, 0, none⟩) 9 9] 24)) := (Since.refl _).alloc _
    have o2 := World.ownsRow_lit (e := 24) (size := 1) (base := w.heap.size + 1) wz #[.slice (some ⟨w.heap.size + 2, 0, none⟩) 9 9] 1 (by omega) (by unfold maxLen; omega) rfl
    rw [hzz] at o2
    have o3 := HOz.out.since k2
    have l3 := o3.2.lt
    refine ⟨_, _, rfl, by unfold InI; simp [allA], HBz.out.since k2, fun q hq => ?_, [_], o2, rfl, fun q hq => ?_, fun i hi hx => ?_, fun i j hi hj hne => ?_⟩
    · simp [Value.ownBlock] at hq; omega
    · simp [Value.ownBlock] at hq; omega
    · obtain rfl : i = 0 := by simpa using hi
      refine ⟨o3, fun q hq => ?_⟩
      have := l3 q hq
      simp at this; omega
    · simp at hi hj; omega
  refine bodyPost_ret (v := .agg #[.int .i64 0, .slice (some ⟨y.heap.size, 0, none⟩) 1 1, .slice (some ⟨w1.heap.size, 0, none⟩) 1 1]) (by simp [results, Try.results125, go_sem, *]) rfl ?_
  rw [← hwz, HZ.out]
  refine ⟨_, rfl, ?_, HSz.out.alloc _⟩
  exact OwnA.wider (lo := w.heap.size + 1) (hi := w1.heap.size + 1) HA.out (by omega) (by simp [hzz])
set_option maxHeartbeats 4000000 in
set_option maxRecDepth 100000 in
theorem implComplement_any (v : Value) (A : Aut) (f : Nat → Bool) (w : World) (h : AutAt w v A) (hm : MxA A) (hf : ∀ s, f s = true ↔ LiveP (pairA opMinus allA A) s) :
    Calls Try.prog 59 #[v] w (ABOut w (cmbA opMinus allA A f) (cmbOk opMinus allA A f)) := by
  have HCB : Hid (∀ u W, Since w W → AutAt W u allA → Calls Try.prog 124 #[u, v, (.func (.func 105) #[] #[])] W (ABOut W (cmbA opMinus allA A f) (cmbOk opMinus allA A f))) := fun u W hW hu =>
    combA_any opMinus (.func 105) u v allA A f W hu (h.since hW) all_mx hm hf (fun BQ BA BB a b W' h1 h3 h4 => accMinus_any allA A BQ BA BB a b h1 h3 W' h4)
  obtain ⟨R, hR⟩ : ∃ q, q = cmbA opMinus allA A f := ⟨_, rfl⟩
  obtain ⟨C, hC⟩ : ∃ q, q = cmbOk opMinus allA A f := ⟨_, rfl⟩
  rw [← hR, ← hC] at HCB ⊢
  clear hR hC hf
  obtain ⟨a, b, rfl, _, ha, hb⟩ := h
  obtain ⟨ao, ca, rfl⟩ := ha.len
  obtain ⟨bo, cb, rfl⟩ := hb.len
  clear ha hb hm
  obtain ⟨n, hn⟩ : ∃ n, n = A.ac.length := ⟨_, rfl⟩
  obtain ⟨m, hmm⟩ : ∃ n, n = A.nx.length := ⟨_, rfl⟩
  rw [← hn, ← hmm] at HCB ⊢
  clear hn hmm
  obtain ⟨y, hy⟩ : ∃ y, y = (w.alloc (.cells #[.int .i64 A.st, .slice ao n ca, .slice bo m cb] 39)).alloc (.cells #[.int .i64 0, .slice none 0 0, .slice none 0 0] 39) := ⟨_, rfl⟩
  have hs0 : Since w y := by rw [hy]; exact ((Since.refl w).alloc _).alloc _
  have hz : y.heap.size = w.heap.size + 2 := by rw [hy]; simp
  have BA0 : Hid (Blk y w.heap.size 39 #[.int .i64 A.st, .slice ao n ca, .slice bo m cb]) := by rw [hy]; exact (Blk.new rfl _ _).alloc _
  have BR0 : Hid (Blk y (w.heap.size + 1) 39 #[.int .i64 0, .slice none 0 0, .slice none 0 0]) := by rw [hy]; exact Blk.new (by simp) _ _
  have HKC : Hid (∀ w', Since y w' → w'.cell? ⟨w.heap.size, 0, none⟩ = some (.int .i64 A.st) ∧ w'.cell? ⟨w.heap.size, 1, none⟩ = some (.slice ao n ca) ∧ w'.cell? ⟨w.heap.size, 2, none⟩ = some (.slice bo m cb)) := fun w' hs => (BA0.out.since hs).threeA.1
  have HKF : Hid (∀ w' x1 x2 x3, Since y w' → (fun w' => w'.cell? ⟨w.heap.size, 0, none⟩ = some (.int .i64 A.st) ∧ w'.cell? ⟨w.heap.size, 1, none⟩ = some (.slice ao n ca) ∧ w'.cell? ⟨w.heap.size, 2, none⟩ = some (.slice bo m cb)) (((w'.setCell ⟨w.heap.size + 1, 0, none⟩ x1).setCell ⟨w.heap.size + 1, 1, none⟩ x2).setCell ⟨w.heap.size + 1, 2, none⟩ x3)) := fun w' x1 x2 x3 hs =>
    ((((BA0.out.since hs).far (p := ⟨w.heap.size + 1, 0, none⟩) (by simp) x1).far (p := ⟨w.heap.size + 1, 1, none⟩) (by simp) x2).far (p := ⟨w.heap.size + 1, 2, none⟩) (by simp) x3).threeA.1
  have HY := Lib.hid hy
  clear hy
  go_enter Try.func59, Try.ntmps59
  go_upto_region 1 with fail
  rw [← HY.out]
  refine wp_region_held_drew (S := (fun w' => w'.cell? ⟨w.heap.size, 0, none⟩ = some (.int .i64 A.st) ∧ w'.cell? ⟨w.heap.size, 1, none⟩ = some (.slice ao n ca) ∧ w'.cell? ⟨w.heap.size, 2, none⟩ = some (.slice bo m cb))) (by kernel_rfl) (HKC.out _ (Since.refl _).drew) (fun hHeld => ?_)
  refine take_yes 1 (some 5) (v := ?_) rfl (by kernel_rfl) (by kernel_rfl) (by kernel_rfl) (by kernel_rfl) (fun _ _ _ h => h) (by rfl) (by assumption) ?_ ?_
  rotate_left
  · (intro w' hSw; (try dsimp only at hSw); go_simp; try with_reducible rfl)
  try simp only [Act.put, List.setIfInBounds_toArray, List.set_cons_zero, List.set_cons_succ]
  refine take_run 0 rfl (by kernel_rfl) (by rfl) (fun K hK => ?_)
  go_simp
  refine (allW_any _).mono ?_
  rintro en w5 ⟨v5, rfl, ho5, hq⟩
  have hc5 := ((Since.refl y).drew).trans hq
  have HA5 := Lib.hid ho5.at
  obtain ⟨r5a, r5b, rfl, i5, o5, n5, q5⟩ := ho5
  obtain ⟨so5, sc5, rfl⟩ := o5.len
  obtain ⟨uo5, uc5, rfl⟩ := q5.len
  have HO5 : Hid (OwnA _ _ _ _ _) := ⟨_, _, rfl, i5, o5, n5, q5⟩
  clear i5 o5 n5 q5
  refine hK.out _ _ (HKC.out _ hc5) (fun hHeld1 => ?_)
  clear hK K hHeld hq
  try simp only [Act.put, List.setIfInBounds_toArray, List.set_cons_zero, List.set_cons_succ]
  refine take_run 2 rfl (by kernel_rfl) (by rfl) (fun K hK => ?_)
  go_simp
  refine (HCB.out _ _ (hs0.trans hc5) HA5.out).mono ?_
  rintro en w4 ⟨v4, rfl, ho4, hs4⟩
  have hc4 := hc5.trans hs4
  obtain ⟨r4a, r4b, rfl, i4, o4, n4, q4⟩ := ho4
  obtain ⟨so4, sc4, rfl⟩ := o4.len
  obtain ⟨uo4, uc4, rfl⟩ := q4.len
  have HO4 : Hid (OwnA _ _ _ _ _) := ⟨_, _, rfl, i4, o4, n4, q4⟩
  clear i4 o4 n4 q4
  refine hK.out _ _ (HKC.out _ hc4) (fun hHeld2 => ?_)
  clear hK K hHeld1
  try simp only [Act.put, List.setIfInBounds_toArray, List.set_cons_zero, List.set_cons_succ]
  refine take_yes 3 (some 7) (v := ?_) rfl (by kernel_rfl) (by kernel_rfl) (by kernel_rfl) (by kernel_rfl) (fun _ _ _ h => h) (by rfl) (by assumption) ?_ ?_
  rotate_left
  · (intro w' hSw; (try dsimp only at hSw); go_simp; try with_reducible rfl)
  try simp only [Act.put, List.setIfInBounds_toArray, List.set_cons_zero, List.set_cons_succ]
  refine take_yes 4 (some 8) (v := ?_) rfl (by kernel_rfl) (by kernel_rfl) (by kernel_rfl) (by kernel_rfl) (fun _ _ _ h => h) (by rfl) (by assumption) ?_ ?_
  rotate_left
  · (intro w' hSw; (try dsimp only at hSw); go_simp; try with_reducible rfl)
  try simp only [Act.put, List.setIfInBounds_toArray, List.set_cons_zero, List.set_cons_succ]
  refine take_run 5 rfl (by kernel_rfl) (by rfl) (fun K hK => ?_)
  obtain ⟨⟨s0, s1, s2⟩, s3, s4, s5⟩ := (BR0.out.since hc4).threeA
  go_simp
  clear s0 s1 s2 s3 s4 s5
  refine hK.out _ _ (HKF.out _ _ _ _ hc4) (fun hHeld3 => ?_)
  clear hK K hHeld2
  try simp only [Act.put, List.setIfInBounds_toArray, List.set_cons_zero, List.set_cons_succ]
  refine take_yes 6 (some 3) (v := ?_) rfl (by kernel_rfl) (by kernel_rfl) (by kernel_rfl) (by kernel_rfl) (fun _ _ _ h => h) (by rfl) (by assumption) ?_ ?_
  rotate_left
  · (intro w' hSw; (try dsimp only at hSw); go_simp; try with_reducible rfl)
  try simp only [Act.put, List.setIfInBounds_toArray, List.set_cons_zero, List.set_cons_succ]
  refine wpAnyH_done (by kernel_rfl) ?_ _
  clear hHeld3 HKC HKF
  have hsz4 := hs4.size
  have hsz5 := hc5.size
  have BR5 := Lib.hid ((((BR0.out.since hc4).set 0 (.int .i64 R.st)).set 1 (.slice so4 R.ac.length sc4)).set 2 (.slice uo4 R.nx.length uc4))
  obtain ⟨⟨r0, r1, r2⟩, r3, r4, r5⟩ := BR5.out.threeA
  go_wp2_with fail
  refine bodyPost_ret (v := .tuple #[.agg #[.int .i64 R.st, .slice so4 R.ac.length sc4, .slice uo4 R.nx.length uc4], .bool C]) (by simp [results, Try.results59, go_sem, *]) rfl ?_
  refine ⟨_, rfl, ?_, ?_⟩
  · refine OwnA.wider (lo := w5.heap.size) (hi := w4.heap.size) ?_ (by omega) (by first | (simp; done) | exact Nat.le_refl _)
    iterate 3 (with_reducible refine OwnA.far1 ?_ (.inl (by omega)) _ _)
    exact HO4.out
  · iterate 3 (with_reducible refine Since.setCell ?_ (by simp <;> omega) _)
    exact hs0.trans hc4
set_option maxHeartbeats 2000000 in
set_option maxRecDepth 100000 in
theorem all13_any (w : World) : Calls Try.prog 123 #[] w (AOut w allA) := by
  obtain ⟨y, hy⟩ : ∃ y, y = (w.alloc (.cells #[.int .i64 0, .slice none 0 0, .slice none 0 0] 39)).alloc (.cells #[] 3) := ⟨_, rfl⟩
  have hs0 : Since w y := by rw [hy]; exact ((Since.refl w).alloc _).alloc _
  have hz : y.heap.size = w.heap.size + 1 + 1 := by rw [hy]; simp
  have B0 : Hid (Blk y w.heap.size 39 #[.int .i64 0, .slice none 0 0, .slice none 0 0]) := by rw [hy]; exact (Blk.new rfl _ _).alloc _
  have HL0 : Hid (Own (w.heap.size + 1) y (.slice (some ⟨w.heap.size + 1, 0, none⟩) 0 0) (List.replicate 0 0)) := by
    unfold Hid
    rw [hy]
    have := own_lit (w.alloc (.cells #[.int .i64 0, .slice none 0 0, .slice none 0 0] 39)) (w.alloc (.cells #[.int .i64 0, .slice none 0 0, .slice none 0 0] 39)) (Since.refl _)
    simpa using this
  have HY := Lib.hid hy
  clear hy
  go_enter Try.func123, Try.ntmps123
  go_upto_region 3 with fail
  rw [← HY.out]
  go_loopw [1, 2] (fun q i wr => ∃ (k : Nat) (v1 : Value), k ≤ 9 ∧ i = .int .i64 k ∧ v1 = q ∧ Hid (Own (w.heap.size + 1) wr v1 (List.replicate k 0)) ∧ Hid (Since w wr) ∧ Hid (Blk wr w.heap.size 39 #[.int .i64 0, .slice none 0 0, .slice none 0 0])) (fun _ i _ => 9 - (intOf i).toNat)
  case atStart => exact ⟨0, _, Nat.zero_le _, rfl, rfl, HL0.out, hs0, B0.out⟩
  case round =>
    obtain ⟨k, v1, hk, rfl, rfl, HO, HS, HB⟩ := hrel
    have hbl := HB.out.lt
    by_cases hlt : k < 9
    · have hki : (k : Int) < 9 := by omega
      have hOT : OwnNt 3 (w.heap.size + 1) wr v1 (List.replicate k 0) := HO.out
      have hb1 : w.heap.size + 1 ≤ wr.heap.size := by omega
      have hi1 : InI 0 := by unfold InI; omega
      have hlen : (List.replicate k (0 : Int)).length ≤ 4194304 := by simp; omega
      go_wp2_with (at_builtin; go_must (refine wpList_append_T rfl (.tmp 8) (.tmp 9) 24 3 rfl Try.underlying24 info_int (w.heap.size + 1) v1 (List.replicate k 0) (by first | rfl | simp [Act.eval]) hOT 0 (by first | rfl | simp [Act.eval]) hi1 hlen hb1 ?_); intro v5 w5 ho5 hg5)
      have HO5 : Hid (Own (w.heap.size + 1) w5 v5 (List.replicate (k + 1) 0)) := by
        unfold Hid; rw [List.replicate_succ']; exact ho5
      have HS5 : Hid (Since w w5) := HS.out.grown hg5 (fun j hj => by have := (HO.out.2.lt j hj).1; omega)
      have HB5 : Hid (Blk w5 w.heap.size 39 #[.int .i64 0, .slice none 0 0, .slice none 0 0]) := (hg5.block _ hbl (by intro e; have := (HO.out.2.lt _ e.symm).1; omega)).trans HB.out
      clear ho5 hg5 hOT
      go_roundw
      case rel => exact ⟨k + 1, v5, by omega, by go_num, rfl, HO5.out, HS5.out, HB5.out⟩
      case measure => simp [intOf]; omega
    · obtain rfl : k = 9 := by omega
      obtain ⟨g, cap, rfl, hg⟩ := own_block HO.out.2 (by simp)
      obtain ⟨wz, hwz⟩ : ∃ wz, wz = (((wr.setCell ⟨w.heap.size, 0, none⟩ (.int .i64 0)).setCell ⟨w.heap.size, 1, none⟩ (.slice (some ⟨wr.heap.size, 0, none⟩) 1 1)).setCell ⟨w.heap.size, 2, none⟩ (.slice (some ⟨wr.heap.size + 1, 0, none⟩) 1 1)) := ⟨_, rfl⟩
      have hzz : wz.heap.size = wr.heap.size := by rw [hwz]; simp
      have HOz : Hid (Own (w.heap.size + 1) wz (.slice (some ⟨g, 0, none⟩) 9 cap) (List.replicate 9 0)) := by
        have := HO.out
        rw [hwz]
        exact ((this.far (p := ⟨w.heap.size, 0, none⟩) (Nat.lt_succ_self _) _).far (p := ⟨w.heap.size, 1, none⟩) (Nat.lt_succ_self _) _).far (p := ⟨w.heap.size, 2, none⟩) (Nat.lt_succ_self _) _
      have HSz : Hid (Since w wz) := by
        rw [hwz]
        exact ((HS.out.setCell (Nat.le_refl _) _).setCell (Nat.le_refl _) _).setCell (Nat.le_refl _) _
      have HA : Hid (OwnA (w.heap.size + 1) (wr.heap.size + 2) ((wz.alloc (.cells #[.bool true] 4)).alloc (.cells #[.slice (some ⟨g, 0, none⟩) 9 cap] 24)) (.agg #[.int .i64 0, .slice (some ⟨wr.heap.size, 0, none⟩) 1 1, .slice (some ⟨wr.heap.size + 1, 0, none⟩) 1 1]) allA) := by
        have k1 : Since wz (wz.alloc (.cells #[.bool true] 4)) := (Since.refl _).alloc _
        have k2 : Since (wz.alloc (.cells #[.bool true] 4)) ((wz.alloc (.cells #[.bool true] 4)).alloc (.cells #[.slice (some ⟨g, 0, none⟩) 9 cap] 24)) := (Since.refl _).alloc _
        have o1 : OwnBo (w.heap.size + 1) (wz.alloc (.cells #[.bool true] 4)) (.slice (some ⟨wr.heap.size, 0, none⟩) 1 1) [true] := by
          rw [← hzz]
          exact World.ownsRow_lit wz #[.bool true] 1 (by omega) (by unfold maxLen; omega) rfl
        have o2 := World.ownsRow_lit (e := 24) (size := 1) (base := w.heap.size + 1) (wz.alloc (.cells #[.bool true] 4)) #[.slice (some ⟨g, 0, none⟩) 9 cap] 1 (by simp; omega) (by unfold maxLen; omega) rfl
        have hz1 : (wz.alloc (.cells #[.bool true] 4)).heap.size = wr.heap.size + 1 := by simp [hzz]
        rw [hz1] at o2
        have o3 := (HOz.out.since k1).since k2
        have l3 := o3.2.lt
        refine ⟨_, _, rfl, by unfold InI; simp [allA], o1.since k2, fun q hq => ?_, [_], o2, rfl, fun q hq => ?_, fun i hi hx => ?_, fun i j hi hj hne => ?_⟩
        · simp [Value.ownBlock] at hq; omega
        · simp [Value.ownBlock] at hq; omega
        · obtain rfl : i = 0 := by simpa using hi
          refine ⟨o3, fun q hq => ?_⟩
          have := l3 q hq
          simp at this; omega
        · simp at hi hj; omega
      obtain ⟨⟨r0, r1, r2⟩, r3, r4, r5⟩ := HB.out.threeA
      go_wp2
      refine bodyPost_ret (v := .agg #[.int .i64 0, .slice (some ⟨wr.heap.size, 0, none⟩) 1 1, .slice (some ⟨wr.heap.size + 1, 0, none⟩) 1 1]) (by simp [results, Try.results123, go_sem, *]) rfl ?_
      rw [← hwz]
      refine ⟨_, rfl, ?_, (HSz.out.alloc _).alloc _⟩
      refine OwnA.wider (lo := w.heap.size + 1) (hi := wr.heap.size + 2) HA.out (by omega) (by simp [hzz])
set_option maxHeartbeats 8000000 in
set_option maxRecDepth 100000 in
theorem specComplement_any (v : Value) (A : Aut) (f : Nat → Bool) (w : World) (h : AutAt w v A) (hm : MxA A) (hf : ∀ s, f s = true ↔ LiveP (pairA opMinus allA A) s) :
    Calls Try.prog 58 #[v] w (ABOut w (cmbA opMinus allA A f) (cmbOk opMinus allA A f)) := by
  have HCB : Hid (∀ u W, Since w W → AutAt W u allA → Calls Try.prog 122 #[u, v, .int .i64 3] W (ABOut W (cmbA opMinus allA A f) (cmbOk opMinus allA A f))) := fun u W hW hu =>
    make13_any 3 u v allA A f W hu (h.since hW) all_mx hm hf
  obtain ⟨R, hR⟩ : ∃ q, q = cmbA opMinus allA A f := ⟨_, rfl⟩
  obtain ⟨C, hC⟩ : ∃ q, q = cmbOk opMinus allA A f := ⟨_, rfl⟩
  rw [← hR, ← hC] at HCB ⊢
  clear hR hC hf
  obtain ⟨a, b, rfl, _, ha, hb⟩ := h
  obtain ⟨ao, ca, rfl⟩ := ha.len
  obtain ⟨bo, cb, rfl⟩ := hb.len
  clear ha hb hm
  obtain ⟨n, hn⟩ : ∃ n, n = A.ac.length := ⟨_, rfl⟩
  obtain ⟨m, hmm⟩ : ∃ n, n = A.nx.length := ⟨_, rfl⟩
  rw [← hn, ← hmm] at HCB ⊢
  clear hn hmm
  obtain ⟨y, hy⟩ : ∃ y, y = (w.alloc (.cells #[.int .i64 A.st, .slice ao n ca, .slice bo m cb] 39)).alloc (.cells #[.int .i64 0, .slice none 0 0, .slice none 0 0] 39) := ⟨_, rfl⟩
  have hs0 : Since w y := by rw [hy]; exact ((Since.refl w).alloc _).alloc _
  have hz : y.heap.size = w.heap.size + 2 := by rw [hy]; simp
  have BA0 : Hid (Blk y w.heap.size 39 #[.int .i64 A.st, .slice ao n ca, .slice bo m cb]) := by rw [hy]; exact (Blk.new rfl _ _).alloc _
  have BR0 : Hid (Blk y (w.heap.size + 1) 39 #[.int .i64 0, .slice none 0 0, .slice none 0 0]) := by rw [hy]; exact Blk.new (by simp) _ _
  have HKC : Hid (∀ w', Since y w' → w'.cell? ⟨w.heap.size, 0, none⟩ = some (.int .i64 A.st) ∧ w'.cell? ⟨w.heap.size, 1, none⟩ = some (.slice ao n ca) ∧ w'.cell? ⟨w.heap.size, 2, none⟩ = some (.slice bo m cb)) := fun w' hs => (BA0.out.since hs).threeA.1
  have HKF : Hid (∀ w' g x1 x2 x3, Since y w' → y.heap.size ≤ g → (fun w' => w'.cell? ⟨w.heap.size, 0, none⟩ = some (.int .i64 A.st) ∧ w'.cell? ⟨w.heap.size, 1, none⟩ = some (.slice ao n ca) ∧ w'.cell? ⟨w.heap.size, 2, none⟩ = some (.slice bo m cb)) (((w'.setCell ⟨g, 0, none⟩ x1).setCell ⟨g, 1, none⟩ x2).setCell ⟨g, 2, none⟩ x3)) := fun w' g x1 x2 x3 hs hg =>
    ((((BA0.out.since hs).far (p := ⟨g, 0, none⟩) (by simp; omega) x1).far (p := ⟨g, 1, none⟩) (by simp; omega) x2).far (p := ⟨g, 2, none⟩) (by simp; omega) x3).threeA.1
  have HY := Lib.hid hy
  clear hy
  go_enter Try.func58, Try.ntmps58
  go_upto_region 1 with fail
  rw [← HY.out]
  refine wp_region_held_drew (S := (fun w' => w'.cell? ⟨w.heap.size, 0, none⟩ = some (.int .i64 A.st) ∧ w'.cell? ⟨w.heap.size, 1, none⟩ = some (.slice ao n ca) ∧ w'.cell? ⟨w.heap.size, 2, none⟩ = some (.slice bo m cb))) (by kernel_rfl) (HKC.out _ (Since.refl _).drew) (fun hHeld => ?_)
  refine take_yes 1 (some 8) (v := ?_) rfl (by kernel_rfl) (by kernel_rfl) (by kernel_rfl) (by kernel_rfl) (fun _ _ _ h => h) (by rfl) (by assumption) ?_ ?_
  rotate_left
  · (intro w' hSw; (try dsimp only at hSw); go_simp; try with_reducible rfl)
  try simp only [Act.put, List.setIfInBounds_toArray, List.set_cons_zero, List.set_cons_succ]
  refine take_two 0 6 rfl rfl (by kernel_rfl) (by rfl) (by rfl) (fun K hK => ?_) (fun K hK => ?_)
  · skip
    go_simp
    refine (all13_any _).mono ?_
    rintro en w5 ⟨v5, rfl, ho5, hq⟩
    have hc2 := ((Since.refl y).drew).trans hq
    have HA5 := Lib.hid ho5.at
    obtain ⟨r5a, r5b, rfl, i5, o5, n5, q5⟩ := ho5
    obtain ⟨so5, sc5, rfl⟩ := o5.len
    obtain ⟨uo5, uc5, rfl⟩ := q5.len
    have HO5 : Hid (OwnA _ _ _ _ _) := ⟨_, _, rfl, i5, o5, n5, q5⟩
    clear i5 o5 n5 q5
    have hsz5 := ((Since.refl y).drew).trans hq |>.size
    refine hK.out _ _ (HKC.out _ hc2) (fun hHeld1 => ?_)
    clear hK K hHeld hq
    try simp only [Act.put, List.setIfInBounds_toArray, List.set_cons_zero, List.set_cons_succ]
    refine take_two 2 6 rfl rfl (by kernel_rfl) (by rfl) (by rfl) (fun K hK => ?_) (fun K hK => ?_)
    · skip
      go_simp
      obtain ⟨wb4, hwb4⟩ : ∃ q, q = w5 := ⟨_, rfl⟩
      refine (HCB.out _ _ (hs0.trans (hc2)) HA5.out).mono ?_
      rintro en w4 ⟨v4, rfl, ho4, hq⟩
      have hc4 := (hc2).trans hq
      have hsb4 : wb4.heap.size ≤ w4.heap.size := by rw [hwb4]; exact hq.size
      have hyb4 : y.heap.size ≤ wb4.heap.size := by rw [hwb4]; exact (hc2).size
      rw [← hwb4] at ho4
      obtain ⟨r4a, r4b, rfl, i4, o4, n4, q4⟩ := ho4
      obtain ⟨so4, sc4, rfl⟩ := o4.len
      obtain ⟨uo4, uc4, rfl⟩ := q4.len
      have HO4 : Hid (OwnA _ _ _ _ _) := ⟨_, _, rfl, i4, o4, n4, q4⟩
      clear i4 o4 n4 q4
      refine hK.out _ _ (HKC.out _ hc4) (fun hHeld3 => ?_)
      clear hK K hHeld1 hq
      try simp only [Act.put, List.setIfInBounds_toArray, List.set_cons_zero, List.set_cons_succ]
      refine take_yes 3 (some 6) (v := ?_) rfl (by kernel_rfl) (by kernel_rfl) (by kernel_rfl) (by kernel_rfl) (fun _ _ _ h => h) (by rfl) (by assumption) ?_ ?_
      rotate_left
      · (intro w' hSw; (try dsimp only at hSw); go_simp; try with_reducible rfl)
      try simp only [Act.put, List.setIfInBounds_toArray, List.set_cons_zero, List.set_cons_succ]
      refine take_yes 4 (some 10) (v := ?_) rfl (by kernel_rfl) (by kernel_rfl) (by kernel_rfl) (by kernel_rfl) (fun _ _ _ h => h) (by rfl) (by assumption) ?_ ?_
      rotate_left
      · (intro w' hSw; (try dsimp only at hSw); go_simp; try with_reducible rfl)
      try simp only [Act.put, List.setIfInBounds_toArray, List.set_cons_zero, List.set_cons_succ]
      refine take_yes 5 (some 11) (v := ?_) rfl (by kernel_rfl) (by kernel_rfl) (by kernel_rfl) (by kernel_rfl) (fun _ _ _ h => h) (by rfl) (by assumption) ?_ ?_
      rotate_left
      · (intro w' hSw; (try dsimp only at hSw); go_simp; try with_reducible rfl)
      try simp only [Act.put, List.setIfInBounds_toArray, List.set_cons_zero, List.set_cons_succ]
      refine take_run 6 rfl (by kernel_rfl) (by rfl) (fun K hK => ?_)
      go_simp
      obtain ⟨wn8, hwn8⟩ : ∃ q, q = w4.alloc (.cells #[.int .i64 0, .slice none 0 0, .slice none 0 0] 39) := ⟨_, rfl⟩
      obtain ⟨gwn8, hgwn8⟩ : ∃ q, q = w4.heap.size := ⟨_, rfl⟩
      have hc6 : Since y wn8 := by rw [hwn8]; exact Since.alloc (hc4) _
      have kkwn8 : Since w4 wn8 := by rw [hwn8]; exact (Since.refl _).alloc _
      have BB7 : Hid (Blk wn8 gwn8 39 #[.int .i64 0, .slice none 0 0, .slice none 0 0]) := by rw [hwn8]; exact Blk.new (by first | exact hgwn8 | (rw [hgwn8]; simp)) _ _
      have hHwn8 : w4.heap.size ≤ gwn8 := Nat.le_of_eq hgwn8.symm
      have hGwn8 : y.heap.size ≤ gwn8 := Nat.le_trans (hc4).size hHwn8
      try rw [← hwn8]
      try rw [← hgwn8]
      clear hwn8 hgwn8
      have OO9 := Lib.hid (HO4.out.since kkwn8)
      refine hK.out _ _ (HKC.out _ hc6) (fun hHeld5 => ?_)
      clear hK K hHeld3
      try simp only [Act.put, List.setIfInBounds_toArray, List.set_cons_zero, List.set_cons_succ]
      refine take_run 7 rfl (by kernel_rfl) (by rfl) (fun K hK => ?_)
      obtain ⟨⟨s0, s1, s2⟩, s3, s4, s5⟩ := (BB7.out).threeA
      go_simp
      clear s0 s1 s2 s3 s4 s5
      refine hK.out _ _ (HKF.out _ gwn8 _ _ _ (hc6) hGwn8) (fun hHeld10 => ?_)
      clear hK K hHeld5
      try simp only [Act.put, List.setIfInBounds_toArray, List.set_cons_zero, List.set_cons_succ]
      refine take_yes 8 (some 5) (v := ?_) rfl (by kernel_rfl) (by kernel_rfl) (by kernel_rfl) (by kernel_rfl) (fun _ _ _ h => h) (by rfl) (by assumption) ?_ ?_
      rotate_left
      · (intro w' hSw; (try dsimp only at hSw); go_simp; try with_reducible rfl)
      try simp only [Act.put, List.setIfInBounds_toArray, List.set_cons_zero, List.set_cons_succ]
      refine wpAnyH_done (by kernel_rfl) ?_ _
      clear hHeld10 HKC HKF
      have hG9 := hGwn8
      have hw9 := (hc6).size
      have hbl9 := (BB7.out).lt
      obtain ⟨wz, hwz⟩ : ∃ q, q = (((wn8.setCell ⟨gwn8, 0, none⟩ (.int .i64 R.st)).setCell ⟨gwn8, 1, none⟩ (.slice so4 R.ac.length sc4)).setCell ⟨gwn8, 2, none⟩ (.slice uo4 R.nx.length uc4)) := ⟨_, rfl⟩
      have BX5 : Hid (Blk wz gwn8 39 #[.int .i64 R.st, .slice so4 R.ac.length sc4, .slice uo4 R.nx.length uc4]) := by rw [hwz]; exact (((BB7.out).set 0 (.int .i64 R.st)).set 1 (.slice so4 R.ac.length sc4)).set 2 (.slice uo4 R.nx.length uc4)
      have BR5 : Hid (Blk wz (w.heap.size + 1) 39 #[.int .i64 0, .slice none 0 0, .slice none 0 0]) := by rw [hwz]; exact (((BR0.out.since (hc6)).far (p := ⟨gwn8, 0, none⟩) (by simp; omega) (.int .i64 R.st)).far (p := ⟨gwn8, 1, none⟩) (by simp; omega) (.slice so4 R.ac.length sc4)).far (p := ⟨gwn8, 2, none⟩) (by simp; omega) (.slice uo4 R.nx.length uc4)
      have HOZ : Hid (OwnA wb4.heap.size w4.heap.size wz (.agg #[.int .i64 R.st, .slice so4 R.ac.length sc4, .slice uo4 R.nx.length uc4]) R) := by
        unfold Hid
        rw [hwz]
        iterate 3 (with_reducible refine OwnA.far1 ?_ (by first | exact .inl (by omega) | exact .inr (by omega)) _ _)
        exact OO9.out
      have HSZ : Hid (Since w wz) := by
        unfold Hid
        rw [hwz]
        iterate 3 (with_reducible refine Since.setCell ?_ (by simp <;> omega) _)
        exact hs0.trans (hc6)
      have hzz : wz.heap.size = wn8.heap.size := by rw [hwz]; simp
      have hzw4 : w4.heap.size ≤ wz.heap.size := by rw [hzz]; exact kkwn8.size
      rw [← hwz]
      clear hwz
      obtain ⟨⟨p0, p1, p2⟩, _⟩ := BX5.out.threeA
      obtain ⟨⟨r0, r1, r2⟩, r3, r4, r5⟩ := BR5.out.threeA
      go_wp2_with fail
      refine bodyPost_ret (v := .tuple #[.agg #[.int .i64 R.st, .slice so4 R.ac.length sc4, .slice uo4 R.nx.length uc4], .bool C]) (by simp [results, Try.results58, go_sem, *]) rfl ?_
      refine ⟨_, rfl, ?_, ?_⟩
      · refine OwnA.wider (lo := wb4.heap.size) (hi := w4.heap.size) ?_ (by omega) (by first | (simp; done) | (simp; omega) | exact hzw4)
        iterate 3 (with_reducible refine OwnA.far1 ?_ (.inl (by omega)) _ _)
        exact HOZ.out
      · iterate 3 (with_reducible refine Since.setCell ?_ (by simp <;> omega) _)
        exact HSZ.out
    · skip
      go_simp
      obtain ⟨wn14, hwn14⟩ : ∃ q, q = w5.alloc (.cells #[.int .i64 0, .slice none 0 0, .slice none 0 0] 39) := ⟨_, rfl⟩
      obtain ⟨gwn14, hgwn14⟩ : ∃ q, q = w5.heap.size := ⟨_, rfl⟩
      have hc12 : Since y wn14 := by rw [hwn14]; exact Since.alloc (hc2) _
      have kkwn14 : Since w5 wn14 := by rw [hwn14]; exact (Since.refl _).alloc _
      have BB13 : Hid (Blk wn14 gwn14 39 #[.int .i64 0, .slice none 0 0, .slice none 0 0]) := by rw [hwn14]; exact Blk.new (by first | exact hgwn14 | (rw [hgwn14]; simp)) _ _
      have hHwn14 : w5.heap.size ≤ gwn14 := Nat.le_of_eq hgwn14.symm
      have hGwn14 : y.heap.size ≤ gwn14 := Nat.le_trans (hc2).size hHwn14
      try rw [← hwn14]
      try rw [← hgwn14]
      clear hwn14 hgwn14
      refine hK.out _ _ (HKC.out _ hc12) (fun hHeld11 => ?_)
      clear hK K hHeld1
      try simp only [Act.put, List.setIfInBounds_toArray, List.set_cons_zero, List.set_cons_succ]
      refine take_run 2 rfl (by kernel_rfl) (by rfl) (fun K hK => ?_)
      go_simp
      obtain ⟨wb4, hwb4⟩ : ∃ q, q = wn14 := ⟨_, rfl⟩
      refine (HCB.out _ _ (hs0.trans (hc12)) (HA5.out.since (kkwn14))).mono ?_
      rintro en w4 ⟨v4, rfl, ho4, hq⟩
      have hc16 := (hc12).trans hq
      have hsb4 : wb4.heap.size ≤ w4.heap.size := by rw [hwb4]; exact hq.size
      have hyb4 : y.heap.size ≤ wb4.heap.size := by rw [hwb4]; exact (hc12).size
      rw [← hwb4] at ho4
      obtain ⟨r4a, r4b, rfl, i4, o4, n4, q4⟩ := ho4
      obtain ⟨so4, sc4, rfl⟩ := o4.len
      obtain ⟨uo4, uc4, rfl⟩ := q4.len
      have HO4 : Hid (OwnA _ _ _ _ _) := ⟨_, _, rfl, i4, o4, n4, q4⟩
      clear i4 o4 n4 q4
      have BB17 := Lib.hid ((BB13.out).since hq)
      have hbb4 : gwn14 < wb4.heap.size := by rw [hwb4]; exact (BB13.out).lt
      refine hK.out _ _ (HKC.out _ hc16) (fun hHeld15 => ?_)
      clear hK K hHeld11 hq
      try simp only [Act.put, List.setIfInBounds_toArray, List.set_cons_zero, List.set_cons_succ]
      refine take_yes 3 (some 6) (v := ?_) rfl (by kernel_rfl) (by kernel_rfl) (by kernel_rfl) (by kernel_rfl) (fun _ _ _ h => h) (by rfl) (by assumption) ?_ ?_
      rotate_left
      · (intro w' hSw; (try dsimp only at hSw); go_simp; try with_reducible rfl)
      try simp only [Act.put, List.setIfInBounds_toArray, List.set_cons_zero, List.set_cons_succ]
      refine take_yes 4 (some 10) (v := ?_) rfl (by kernel_rfl) (by kernel_rfl) (by kernel_rfl) (by kernel_rfl) (fun _ _ _ h => h) (by rfl) (by assumption) ?_ ?_
      rotate_left
      · (intro w' hSw; (try dsimp only at hSw); go_simp; try with_reducible rfl)
      try simp only [Act.put, List.setIfInBounds_toArray, List.set_cons_zero, List.set_cons_succ]
      refine take_yes 5 (some 11) (v := ?_) rfl (by kernel_rfl) (by kernel_rfl) (by kernel_rfl) (by kernel_rfl) (fun _ _ _ h => h) (by rfl) (by assumption) ?_ ?_
      rotate_left
      · (intro w' hSw; (try dsimp only at hSw); go_simp; try with_reducible rfl)
      try simp only [Act.put, List.setIfInBounds_toArray, List.set_cons_zero, List.set_cons_succ]
      refine take_run 7 rfl (by kernel_rfl) (by rfl) (fun K hK => ?_)
      obtain ⟨⟨s0, s1, s2⟩, s3, s4, s5⟩ := (BB17.out).threeA
      go_simp
      clear s0 s1 s2 s3 s4 s5
      refine hK.out _ _ (HKF.out _ gwn14 _ _ _ (hc16) hGwn14) (fun hHeld18 => ?_)
      clear hK K hHeld15
      try simp only [Act.put, List.setIfInBounds_toArray, List.set_cons_zero, List.set_cons_succ]
      refine take_yes 8 (some 5) (v := ?_) rfl (by kernel_rfl) (by kernel_rfl) (by kernel_rfl) (by kernel_rfl) (fun _ _ _ h => h) (by rfl) (by assumption) ?_ ?_
      rotate_left
      · (intro w' hSw; (try dsimp only at hSw); go_simp; try with_reducible rfl)
      try simp only [Act.put, List.setIfInBounds_toArray, List.set_cons_zero, List.set_cons_succ]
      refine wpAnyH_done (by kernel_rfl) ?_ _
      clear hHeld18 HKC HKF
      have hG9 := hGwn14
      have hw9 := (hc16).size
      have hbl9 := (BB17.out).lt
      obtain ⟨wz, hwz⟩ : ∃ q, q = (((w4.setCell ⟨gwn14, 0, none⟩ (.int .i64 R.st)).setCell ⟨gwn14, 1, none⟩ (.slice so4 R.ac.length sc4)).setCell ⟨gwn14, 2, none⟩ (.slice uo4 R.nx.length uc4)) := ⟨_, rfl⟩
      have BX5 : Hid (Blk wz gwn14 39 #[.int .i64 R.st, .slice so4 R.ac.length sc4, .slice uo4 R.nx.length uc4]) := by rw [hwz]; exact (((BB17.out).set 0 (.int .i64 R.st)).set 1 (.slice so4 R.ac.length sc4)).set 2 (.slice uo4 R.nx.length uc4)
      have BR5 : Hid (Blk wz (w.heap.size + 1) 39 #[.int .i64 0, .slice none 0 0, .slice none 0 0]) := by rw [hwz]; exact (((BR0.out.since (hc16)).far (p := ⟨gwn14, 0, none⟩) (by simp; omega) (.int .i64 R.st)).far (p := ⟨gwn14, 1, none⟩) (by simp; omega) (.slice so4 R.ac.length sc4)).far (p := ⟨gwn14, 2, none⟩) (by simp; omega) (.slice uo4 R.nx.length uc4)
      have HOZ : Hid (OwnA wb4.heap.size w4.heap.size wz (.agg #[.int .i64 R.st, .slice so4 R.ac.length sc4, .slice uo4 R.nx.length uc4]) R) := by
        unfold Hid
        rw [hwz]
        iterate 3 (with_reducible refine OwnA.far1 ?_ (by first | exact .inl (by omega) | exact .inr (by omega)) _ _)
        exact HO4.out
      have HSZ : Hid (Since w wz) := by
        unfold Hid
        rw [hwz]
        iterate 3 (with_reducible refine Since.setCell ?_ (by simp <;> omega) _)
        exact hs0.trans (hc16)
      have hzz : wz.heap.size = w4.heap.size := by rw [hwz]; simp
      have hzw4 : w4.heap.size ≤ wz.heap.size := by rw [hzz]; exact Nat.le_refl _
      rw [← hwz]
      clear hwz
      obtain ⟨⟨p0, p1, p2⟩, _⟩ := BX5.out.threeA
      obtain ⟨⟨r0, r1, r2⟩, r3, r4, r5⟩ := BR5.out.threeA
      go_wp2_with fail
      refine bodyPost_ret (v := .tuple #[.agg #[.int .i64 R.st, .slice so4 R.ac.length sc4, .slice uo4 R.nx.length uc4], .bool C]) (by simp [results, Try.results58, go_sem, *]) rfl ?_
      refine ⟨_, rfl, ?_, ?_⟩
      · refine OwnA.wider (lo := wb4.heap.size) (hi := w4.heap.size) ?_ (by omega) (by first | (simp; done) | (simp; omega) | exact hzw4)
        iterate 3 (with_reducible refine OwnA.far1 ?_ (.inl (by omega)) _ _)
        exact HOZ.out
      · iterate 3 (with_reducible refine Since.setCell ?_ (by simp <;> omega) _)
        exact HSZ.out
  · skip
    go_simp
    obtain ⟨wn22, hwn22⟩ : ∃ q, q = (y.alloc (.cells #[.int .i64 0, .slice none 0 0, .slice none 0 0] 39)).drew := ⟨_, rfl⟩
    obtain ⟨gwn22, hgwn22⟩ : ∃ q, q = w.heap.size + 2 := ⟨_, rfl⟩
    have hc20 : Since y wn22 := by rw [hwn22]; exact (Since.alloc (Since.refl y) _).drew
    have BB21 : Hid (Blk wn22 gwn22 39 #[.int .i64 0, .slice none 0 0, .slice none 0 0]) := by rw [hwn22]; exact (Blk.new (by rw [hgwn22]; exact hz.symm) _ _).since (Since.refl _).drew
    have hHwn22 : y.heap.size ≤ gwn22 := Nat.le_of_eq (by rw [hgwn22]; exact hz)
    have hGwn22 : y.heap.size ≤ gwn22 := hHwn22
    try rw [← hwn22]
    try rw [← hgwn22]
    clear hwn22 hgwn22
    refine hK.out _ _ (HKC.out _ hc20) (fun hHeld19 => ?_)
    clear hK K hHeld
    try simp only [Act.put, List.setIfInBounds_toArray, List.set_cons_zero, List.set_cons_succ]
    refine take_run 0 rfl (by kernel_rfl) (by rfl) (fun K hK => ?_)
    go_simp
    refine (all13_any _).mono ?_
    rintro en w5 ⟨v5, rfl, ho5, hq⟩
    have hc24 := (hc20).trans hq
    have HA5 := Lib.hid ho5.at
    obtain ⟨r5a, r5b, rfl, i5, o5, n5, q5⟩ := ho5
    obtain ⟨so5, sc5, rfl⟩ := o5.len
    obtain ⟨uo5, uc5, rfl⟩ := q5.len
    have HO5 : Hid (OwnA _ _ _ _ _) := ⟨_, _, rfl, i5, o5, n5, q5⟩
    clear i5 o5 n5 q5
    have BB25 := Lib.hid ((BB21.out).since hq)
    have hsz5 := (hc20).trans hq |>.size
    refine hK.out _ _ (HKC.out _ hc24) (fun hHeld23 => ?_)
    clear hK K hHeld19 hq
    try simp only [Act.put, List.setIfInBounds_toArray, List.set_cons_zero, List.set_cons_succ]
    refine take_run 2 rfl (by kernel_rfl) (by rfl) (fun K hK => ?_)
    go_simp
    obtain ⟨wb4, hwb4⟩ : ∃ q, q = w5 := ⟨_, rfl⟩
    refine (HCB.out _ _ (hs0.trans (hc24)) HA5.out).mono ?_
    rintro en w4 ⟨v4, rfl, ho4, hq⟩
    have hc27 := (hc24).trans hq
    have hsb4 : wb4.heap.size ≤ w4.heap.size := by rw [hwb4]; exact hq.size
    have hyb4 : y.heap.size ≤ wb4.heap.size := by rw [hwb4]; exact (hc24).size
    rw [← hwb4] at ho4
    obtain ⟨r4a, r4b, rfl, i4, o4, n4, q4⟩ := ho4
    obtain ⟨so4, sc4, rfl⟩ := o4.len
    obtain ⟨uo4, uc4, rfl⟩ := q4.len
    have HO4 : Hid (OwnA _ _ _ _ _) := ⟨_, _, rfl, i4, o4, n4, q4⟩
    clear i4 o4 n4 q4
    have BB28 := Lib.hid ((BB25.out).since hq)
    have hbb4 : gwn22 < wb4.heap.size := by rw [hwb4]; exact (BB25.out).lt
    refine hK.out _ _ (HKC.out _ hc27) (fun hHeld26 => ?_)
    clear hK K hHeld23 hq
    try simp only [Act.put, List.setIfInBounds_toArray, List.set_cons_zero, List.set_cons_succ]
    refine take_yes 3 (some 6) (v := ?_) rfl (by kernel_rfl) (by kernel_rfl) (by kernel_rfl) (by kernel_rfl) (fun _ _ _ h => h) (by rfl) (by assumption) ?_ ?_
    rotate_left
    · (intro w' hSw; (try dsimp only at hSw); go_simp; try with_reducible rfl)
    try simp only [Act.put, List.setIfInBounds_toArray, List.set_cons_zero, List.set_cons_succ]
    refine take_yes 4 (some 10) (v := ?_) rfl (by kernel_rfl) (by kernel_rfl) (by kernel_rfl) (by kernel_rfl) (fun _ _ _ h => h) (by rfl) (by assumption) ?_ ?_
    rotate_left
    · (intro w' hSw; (try dsimp only at hSw); go_simp; try with_reducible rfl)
    try simp only [Act.put, List.setIfInBounds_toArray, List.set_cons_zero, List.set_cons_succ]
    refine take_yes 5 (some 11) (v := ?_) rfl (by kernel_rfl) (by kernel_rfl) (by kernel_rfl) (by kernel_rfl) (fun _ _ _ h => h) (by rfl) (by assumption) ?_ ?_
    rotate_left
    · (intro w' hSw; (try dsimp only at hSw); go_simp; try with_reducible rfl)
    try simp only [Act.put, List.setIfInBounds_toArray, List.set_cons_zero, List.set_cons_succ]
    refine take_run 7 rfl (by kernel_rfl) (by rfl) (fun K hK => ?_)
    obtain ⟨⟨s0, s1, s2⟩, s3, s4, s5⟩ := (BB28.out).threeA
    go_simp
    clear s0 s1 s2 s3 s4 s5
    refine hK.out _ _ (HKF.out _ gwn22 _ _ _ (hc27) hGwn22) (fun hHeld29 => ?_)
    clear hK K hHeld26
    try simp only [Act.put, List.setIfInBounds_toArray, List.set_cons_zero, List.set_cons_succ]
    refine take_yes 8 (some 5) (v := ?_) rfl (by kernel_rfl) (by kernel_rfl) (by kernel_rfl) (by kernel_rfl) (fun _ _ _ h => h) (by rfl) (by assumption) ?_ ?_
    rotate_left
    · (intro w' hSw; (try dsimp only at hSw); go_simp; try with_reducible rfl)
    try simp only [Act.put, List.setIfInBounds_toArray, List.set_cons_zero, List.set_cons_succ]
    refine wpAnyH_done (by kernel_rfl) ?_ _
    clear hHeld29 HKC HKF
    have hG9 := hGwn22
    have hw9 := (hc27).size
    have hbl9 := (BB28.out).lt
    obtain ⟨wz, hwz⟩ : ∃ q, q = (((w4.setCell ⟨gwn22, 0, none⟩ (.int .i64 R.st)).setCell ⟨gwn22, 1, none⟩ (.slice so4 R.ac.length sc4)).setCell ⟨gwn22, 2, none⟩ (.slice uo4 R.nx.length uc4)) := ⟨_, rfl⟩
    have BX5 : Hid (Blk wz gwn22 39 #[.int .i64 R.st, .slice so4 R.ac.length sc4, .slice uo4 R.nx.length uc4]) := by rw [hwz]; exact (((BB28.out).set 0 (.int .i64 R.st)).set 1 (.slice so4 R.ac.length sc4)).set 2 (.slice uo4 R.nx.length uc4)
    have BR5 : Hid (Blk wz (w.heap.size + 1) 39 #[.int .i64 0, .slice none 0 0, .slice none 0 0]) := by rw [hwz]; exact (((BR0.out.since (hc27)).far (p := ⟨gwn22, 0, none⟩) (by simp; omega) (.int .i64 R.st)).far (p := ⟨gwn22, 1, none⟩) (by simp; omega) (.slice so4 R.ac.length sc4)).far (p := ⟨gwn22, 2, none⟩) (by simp; omega) (.slice uo4 R.nx.length uc4)
    have HOZ : Hid (OwnA wb4.heap.size w4.heap.size wz (.agg #[.int .i64 R.st, .slice so4 R.ac.length sc4, .slice uo4 R.nx.length uc4]) R) := by
      unfold Hid
      rw [hwz]
      iterate 3 (with_reducible refine OwnA.far1 ?_ (by first | exact .inl (by omega) | exact .inr (by omega)) _ _)
      exact HO4.out
    have HSZ : Hid (Since w wz) := by
      unfold Hid
      rw [hwz]
      iterate 3 (with_reducible refine Since.setCell ?_ (by simp <;> omega) _)
      exact hs0.trans (hc27)
    have hzz : wz.heap.size = w4.heap.size := by rw [hwz]; simp
    have hzw4 : w4.heap.size ≤ wz.heap.size := by rw [hzz]; exact Nat.le_refl _
    rw [← hwz]
    clear hwz
    obtain ⟨⟨p0, p1, p2⟩, _⟩ := BX5.out.threeA
    obtain ⟨⟨r0, r1, r2⟩, r3, r4, r5⟩ := BR5.out.threeA
    go_wp2_with fail
    refine bodyPost_ret (v := .tuple #[.agg #[.int .i64 R.st, .slice so4 R.ac.length sc4, .slice uo4 R.nx.length uc4], .bool C]) (by simp [results, Try.results58, go_sem, *]) rfl ?_
    refine ⟨_, rfl, ?_, ?_⟩
    · refine OwnA.wider (lo := wb4.heap.size) (hi := w4.heap.size) ?_ (by omega) (by first | (simp; done) | (simp; omega) | exact hzw4)
      iterate 3 (with_reducible refine OwnA.far1 ?_ (.inl (by omega)) _ _)
      exact HOZ.out
    · iterate 3 (with_reducible refine Since.setCell ?_ (by simp <;> omega) _)
      exact HSZ.out
end Go.Proofs.Ytmaagihfjldgeaa

/- The law of ComplementAutomaton, walked. -/
namespace Go.Proofs.Ytmaagihfjldgeaa
set_option maxRecDepth 100000
open Go.ChangeShapes Go.WideShapes Go.ChangeAt Go.RowKit
set_option linter.unusedVariables false
set_option linter.unusedSimpArgs false

set_option maxHeartbeats 4000000 in
set_option maxRecDepth 100000 in
theorem fnExactComplementAutomaton_walk (v0 : Value) (x : Aut) (w : World) (h0 : AutAt w v0 x) (hl0 : MxA x) :
    Calls Try.prog 9 #[v0] w fun e w' => e = .returned (.bool true) ∧ Since w w' := by
  have H0 := Lib.hid h0
  have HL0 := Lib.hid hl0
  obtain ⟨sa0, sb0, rfl, _, ha0, hb0⟩ := h0
  obtain ⟨so0, sc0, rfl⟩ := ha0.len
  obtain ⟨uo0, uc0, rfl⟩ := hb0.len
  clear ha0 hb0
  obtain ⟨pa0, hp0⟩ : ∃ n, n = x.ac.length := ⟨_, rfl⟩
  obtain ⟨qa0, hq0⟩ : ∃ m, m = x.nx.length := ⟨_, rfl⟩
  rw [← hp0, ← hq0] at H0 ⊢
  clear hp0 hq0 hl0
  obtain ⟨y0, hy0⟩ : ∃ y, y = (w.alloc (.cells #[.int .i64 x.st, .slice so0 pa0 sc0, .slice uo0 qa0 uc0] 58)) := ⟨_, rfl⟩
  have hs0 : Since w y0 := by rw [hy0]; exact (Since.refl w).alloc _
  have hz0 : w.heap.size + 1 = y0.heap.size := by rw [hy0]; simp
  have bx0 : Hid (Blk y0 (w.heap.size) 58 #[.int .i64 x.st, .slice so0 pa0 sc0, .slice uo0 qa0 uc0]) := by rw [hy0]; exact Blk.new (by simp) _ _
  obtain ⟨x0, hx0⟩ : ∃ zz, zz = szA x 1048576 := ⟨_, rfl⟩
  by_cases hz0 : x0 < 0
  · have HX0 := Lib.hid hx0
    clear hx0
    go_enter Try.func9, Try.ntmps9
    go_wp2_with fail
    rw [← hy0]
    clear hy0
    refine (szAu_is _ x 1048576 x0 _ (H0.out.since hs0) HL0.out (by decide) (by decide) HX0.out.symm).mono ?_
    rintro e wz0 ⟨rfl, hsz0⟩
    have hz00 := hs0.trans hsz0
    have hzz0 := hsz0.size
    have bz0_0 := Lib.hid (bx0.out.since hsz0)
    clear bx0
    clear hs0 hsz0
    go_wp2
    go_ret
    exact ⟨rfl, hz00⟩
  · have lx0 : 0 ≤ x0 ∧ x0 ≤ 1048576 := by rw [hx0]; rw [hx0] at hz0; exact (szA_smallB (A := x) (left := 1048576) (by decide) hz0).1
    have g10 : SmA x := by rw [hx0] at hz0; exact (szA_smallB (A := x) (left := 1048576) (by decide) hz0).2
    have HX0 := Lib.hid hx0
    clear hx0
    obtain ⟨f, hf⟩ := pred_bool (LiveP (pairA opMinus allA x))
    have HS : Hid (∀ V0 W, AutAt W V0 x → Calls Try.prog 58 #[V0] W ((ABOut W (cmbA opMinus allA x f) (cmbOk opMinus allA x f)))) := fun V0 W k0 => specComplement_any V0 x f W k0 HL0.out hf
    have HI : Hid (∀ V0 W, AutAt W V0 x → Calls Try.prog 59 #[V0] W ((ABOut W (cmbA opMinus allA x f) (cmbOk opMinus allA x f)))) := fun V0 W k0 => implComplement_any V0 x f W k0 HL0.out hf
    have q0 : BgA (cmbA opMinus allA x f) := cmbA_bg hf
    generalize cmbA opMinus allA x f = R at HS HI q0
    generalize cmbOk opMinus allA x f = C at HS HI
    have eCC : (C != C) = false := by simp
    have qe0 := q0
    have qm0 := q0
    have dRR : decide (R = R) = true := by simp
    obtain ⟨kr, hkr⟩ : ∃ kr : Int, kr = 1 + szAu R := ⟨_, rfl⟩
    have dkr : decide (kr < 0) = false := by have := szAu_bg q0; simp; omega
    have ekr : (kr != kr) = false := by simp
    have HKR := Lib.hid hkr
    clear hkr
    obtain ⟨kx0, hkx0⟩ : ∃ kx : Int, kx = 1 + szAu x := ⟨_, rfl⟩
    have bk0 : 0 ≤ kx0 ∧ kx0 ≤ 10000000 := by have := szAu_le g10; omega
    have dkx : decide (kx0 < 0) = false := by simp; omega
    have HKX0 := Lib.hid hkx0
    clear hkx0
    have dgg0 : decide (x = x) = true := by simp
    have g40 := g10.bg
    have g60 := g10.bg
    go_enter Try.func9, Try.ntmps9
    go_wp2_with fail
    rw [← hy0]
    clear hy0
    refine (szAu_is _ x 1048576 x0 _ (H0.out.since hs0) HL0.out (by decide) (by decide) HX0.out.symm).mono ?_
    rintro e wz0 ⟨rfl, hsz0⟩
    have hz00 := hs0.trans hsz0
    have hzz0 := hsz0.size
    have bz0_0 := Lib.hid (bx0.out.since hsz0)
    clear bx0
    clear hs0 hsz0
    obtain ⟨⟨p0, p1, p2⟩, _, _, _⟩ := bz0_0.out.threeA
    go_wp2_with fail
    clear p0 p1 p2
    refine (toAutomaton_any _ x _ (H0.out.since hz00) g10).mono ?_
    rintro e w1 ⟨va, rfl, hoa, hq2⟩
    have F3 := Lib.hid (bz0_0.out.since hq2)
    clear bz0_0
    have hs4 := hz00.trans hq2
    have zhs4 := hq2.size
    go_wp2_with fail
    refine (HS.out _ _ hoa.at).mono ?_
    rintro e w5 ⟨vs3, rfl, ho3, hq6⟩
    clear hoa
    have SR := Lib.hid ho3
    obtain ⟨ws, wu, rfl, _, wk, _, wl⟩ := ho3
    obtain ⟨wso, wsc, rfl⟩ := wk.len
    obtain ⟨wuo, wuc, rfl⟩ := wl.len
    clear wk wl
    have F7 := Lib.hid (F3.out.since hq6)
    clear F3
    have hs8 := hs4.trans hq6
    have zhs8 := hq6.size
    obtain ⟨y9, hy9⟩ : ∃ y, y = w5.alloc (.cells #[.int .i64 R.st, .slice wso R.ac.length wsc, .slice wuo R.nx.length wuc] 39) := ⟨_, rfl⟩
    have ha10 : Since w5 y9 := by rw [hy9]; exact (Since.refl w5).alloc _
    have zby9 : w5.heap.size + 1 = y9.heap.size := by rw [hy9]; simp
    have SB11 : Hid (Blk y9 w5.heap.size 39 #[.int .i64 R.st, .slice wso R.ac.length wsc, .slice wuo R.nx.length wuc]) := by rw [hy9]; exact Blk.new rfl _ _
    have F12 := Lib.hid (F7.out.since ha10)
    clear F7
    have F13 := Lib.hid (SR.out.since ha10)
    clear SR
    have hs14 := hs8.trans ha10
    have zhs14 := ha10.size
    obtain ⟨⟨p0, p1, p2⟩, _, _, _⟩ := F12.out.threeA
    rw [hy9] at p0 p1 p2
    go_wp2_with fail
    rw [← hy9]
    clear hy9 p0 p1 p2
    refine (toAutomaton_any _ x _ (H0.out.since hs14) g10).mono ?_
    rintro e w15 ⟨vx0, rfl, hox0, hq16⟩
    have XO0 := Lib.hid hox0
    obtain ⟨xa0, xb0, rfl, _, ka, _, kb⟩ := hox0
    obtain ⟨xso0, xsc0, rfl⟩ := ka.len
    obtain ⟨xuo0, xuc0, rfl⟩ := kb.len
    clear ka kb
    obtain ⟨y17, hy17⟩ : ∃ y, y = w15.alloc (.cells #[.int .i64 x.st, .slice xso0 x.ac.length xsc0, .slice xuo0 x.nx.length xuc0] 39) := ⟨_, rfl⟩
    have ha18 : Since w15 y17 := by rw [hy17]; exact (Since.refl w15).alloc _
    have zy0 : w15.heap.size + 1 = y17.heap.size := by rw [hy17]; simp
    have XB0 : Hid (Blk y17 w15.heap.size 39 #[.int .i64 x.st, .slice xso0 x.ac.length xsc0, .slice xuo0 x.nx.length xuc0]) := by rw [hy17]; exact Blk.new rfl _ _
    have XP0 := Lib.hid (XO0.out.since ha18)
    clear XO0
    have hc19 := hq16.trans ha18
    have zq0 := hq16.size
    have F20 := Lib.hid (F12.out.since hc19)
    clear F12
    have F21 := Lib.hid (F13.out.since hc19)
    clear F13
    have F22 := Lib.hid (SB11.out.since hc19)
    clear SB11
    have hs23 := hs14.trans hc19
    have zhs23 := hc19.size
    obtain ⟨⟨q00, q01, q02⟩, _, _, _⟩ := XB0.out.threeA
    rw [hy17] at q00 q01 q02
    go_wp2_with fail
    rw [← hy17]
    clear hy17 q00 q01 q02
    refine (HI.out _ _ XP0.out.at).mono ?_
    rintro e w24 ⟨vg5, rfl, ho5, hq25⟩
    have GO := Lib.hid ho5
    obtain ⟨gs, gu, rfl, _, gk, _, gl⟩ := ho5
    obtain ⟨gso, gsc, rfl⟩ := gk.len
    obtain ⟨guo, guc, rfl⟩ := gl.len
    clear gk gl
    have F26 := Lib.hid (F20.out.since hq25)
    clear F20
    have F27 := Lib.hid (F21.out.since hq25)
    clear F21
    have F28 := Lib.hid (F22.out.since hq25)
    clear F22
    have F29 := Lib.hid (XP0.out.since hq25)
    clear XP0
    have F30 := Lib.hid (XB0.out.since hq25)
    clear XB0
    have hs31 := hs23.trans hq25
    have zhs31 := hq25.size
    obtain ⟨y32, hy32⟩ : ∃ y, y = w24.alloc (.cells #[.int .i64 R.st, .slice gso R.ac.length gsc, .slice guo R.nx.length guc] 39) := ⟨_, rfl⟩
    have ha33 : Since w24 y32 := by rw [hy32]; exact (Since.refl w24).alloc _
    have zby32 : w24.heap.size + 1 = y32.heap.size := by rw [hy32]; simp
    have SB34 : Hid (Blk y32 w24.heap.size 39 #[.int .i64 R.st, .slice gso R.ac.length gsc, .slice guo R.nx.length guc]) := by rw [hy32]; exact Blk.new rfl _ _
    have F35 := Lib.hid (F26.out.since ha33)
    clear F26
    have F36 := Lib.hid (F27.out.since ha33)
    clear F27
    have F37 := Lib.hid (F28.out.since ha33)
    clear F28
    have F38 := Lib.hid (F29.out.since ha33)
    clear F29
    have F39 := Lib.hid (F30.out.since ha33)
    clear F30
    have F40 := Lib.hid (GO.out.since ha33)
    clear GO
    have hs41 := hs31.trans ha33
    have zhs41 := ha33.size
    obtain ⟨⟨p0, p1, p2⟩, _, _, _⟩ := F37.out.threeA
    obtain ⟨⟨r0, r1, r2⟩, _, _, _⟩ := SB34.out.threeA
    rw [hy32] at p0 p1 p2 r0 r1 r2
    go_wp2_with fail
    rw [← hy32]
    clear hy32 p0 p1 p2 r0 r1 r2
    refine (eqAutomaton_any _ _ R R _ F40.out.at F36.out.at qe0 qe0).mono ?_
    rintro e w42 ⟨rfl, hq43⟩
    have F44 := Lib.hid (F35.out.since hq43)
    clear F35
    have F45 := Lib.hid (F36.out.since hq43)
    clear F36
    have F46 := Lib.hid (F37.out.since hq43)
    clear F37
    have F47 := Lib.hid (F38.out.since hq43)
    clear F38
    have F48 := Lib.hid (F39.out.since hq43)
    clear F39
    have F49 := Lib.hid (F40.out.since hq43)
    clear F40
    have F50 := Lib.hid (SB34.out.since hq43)
    clear SB34
    have hs51 := hs41.trans hq43
    have zhs51 := hq43.size
    go_wp2_with fail
    have HKC : Hid (∀ w', Since w42 w' → w'.cell? ⟨w.heap.size, 0, none⟩ = some (.int .i64 x.st) ∧ w'.cell? ⟨w.heap.size, 1, none⟩ = some (.slice so0 pa0 sc0) ∧ w'.cell? ⟨w.heap.size, 2, none⟩ = some (.slice uo0 qa0 uc0) ∧ w'.cell? ⟨w15.heap.size, 0, none⟩ = some (.int .i64 x.st) ∧ w'.cell? ⟨w15.heap.size, 1, none⟩ = some (.slice xso0 x.ac.length xsc0) ∧ w'.cell? ⟨w15.heap.size, 2, none⟩ = some (.slice xuo0 x.nx.length xuc0)) := by
      intro w' hs
      obtain ⟨⟨r00, r01, r02⟩, _, _, _⟩ := (F44.out.since hs).threeA
      obtain ⟨⟨r10, r11, r12⟩, _, _, _⟩ := (F48.out.since hs).threeA
      exact ⟨r00, r01, r02, r10, r11, r12⟩
    refine wp_region_held_drew (S := (fun w' => w'.cell? ⟨w.heap.size, 0, none⟩ = some (.int .i64 x.st) ∧ w'.cell? ⟨w.heap.size, 1, none⟩ = some (.slice so0 pa0 sc0) ∧ w'.cell? ⟨w.heap.size, 2, none⟩ = some (.slice uo0 qa0 uc0) ∧ w'.cell? ⟨w15.heap.size, 0, none⟩ = some (.int .i64 x.st) ∧ w'.cell? ⟨w15.heap.size, 1, none⟩ = some (.slice xso0 x.ac.length xsc0) ∧ w'.cell? ⟨w15.heap.size, 2, none⟩ = some (.slice xuo0 x.nx.length xuc0))) (by kernel_rfl) (HKC.out _ (Since.refl _).drew) (fun hHeld => ?_)
    refine take_yes 0 (some 41) (v := ?_) rfl (by kernel_rfl) (by kernel_rfl) (by kernel_rfl) (by kernel_rfl) (fun _ _ _ h => h) (by rfl) (by assumption) ?_ ?_
    rotate_left
    · (intro w' hSw; (try dsimp only at hSw); go_simp; try with_reducible rfl)
    try simp only [Act.put, List.setIfInBounds_toArray, List.set_cons_zero, List.set_cons_succ]
    refine take_yes 1 (some 42) (v := ?_) rfl (by kernel_rfl) (by kernel_rfl) (by kernel_rfl) (by kernel_rfl) (fun _ _ _ h => h) (by rfl) (by assumption) ?_ ?_
    rotate_left
    · (intro w' hSw; (try dsimp only at hSw); go_simp; try with_reducible rfl)
    try simp only [Act.put, List.setIfInBounds_toArray, List.set_cons_zero, List.set_cons_succ]
    refine take_run 2 rfl (by kernel_rfl) (by rfl) (fun K hK => ?_)
    go_simp
    refine (toAutomaton_any _ x _ (H0.out.since hs51.drew) g10).mono ?_
    rintro e w52 ⟨va, rfl, hoa, hq53⟩
    have hc54 := Since.of_drew hq53
    refine hK.out _ _ (HKC.out _ hc54) (fun hHeld2 => ?_)
    clear hK K hHeld
    try simp only [Act.put, List.setIfInBounds_toArray, List.set_cons_zero, List.set_cons_succ]
    refine take_run 3 rfl (by kernel_rfl) (by rfl) (fun K hK => ?_)
    go_simp
    refine (eqAutomaton_any _ _ x x _ (F47.out.at.since hc54) hoa.at g40 g40).mono ?_
    rintro e w55 ⟨rfl, hq56⟩
    have hc57 := hc54.trans hq56
    refine hK.out _ _ (HKC.out _ hc57) (fun hHeld3 => ?_)
    clear hK K hHeld2
    try simp only [Act.put, List.setIfInBounds_toArray, List.set_cons_zero, List.set_cons_succ]
    refine take_yes 4 (some 45) (v := ?_) rfl (by kernel_rfl) (by kernel_rfl) (by kernel_rfl) (by kernel_rfl) (fun _ _ _ h => h) (by rfl) (by assumption) ?_ ?_
    rotate_left
    · (intro w' hSw; (try dsimp only at hSw); go_simp; try with_reducible rfl)
    try simp only [Act.put, List.setIfInBounds_toArray, List.set_cons_zero, List.set_cons_succ]
    refine wpAnyH_done (by kernel_rfl) ?_ _
    clear hHeld3 HKC hoa
    have F58 := Lib.hid (F44.out.since hc57)
    clear F44
    have F59 := Lib.hid (F45.out.since hc57)
    clear F45
    have F60 := Lib.hid (F46.out.since hc57)
    clear F46
    have F61 := Lib.hid (F47.out.since hc57)
    clear F47
    have F62 := Lib.hid (F48.out.since hc57)
    clear F48
    have F63 := Lib.hid (F49.out.since hc57)
    clear F49
    have F64 := Lib.hid (F50.out.since hc57)
    clear F50
    have hs65 := hs51.trans hc57
    have zhs65 := hc57.size
    obtain ⟨⟨r0, r1, r2⟩, _, _, _⟩ := F62.out.threeA
    go_wp2_with fail
    clear r0 r1 r2
    refine (markAutomaton_any y9.heap.size w15.heap.size _ x 1 _ F61.out (by omega) (by decide) (by decide) g60).mono ?_
    rintro e w66 ⟨rfl, hmx0, hw67⟩
    rw [← HKX0.out]
    clear hmx0
    clear F61
    have F68 := Lib.hid (F58.out.within hw67 (by omega))
    clear F58
    have F69 := Lib.hid (F59.out.within hw67 (by omega))
    clear F59
    have F70 := Lib.hid (F60.out.within hw67 (by omega))
    clear F60
    have F71 := Lib.hid (F62.out.within hw67 (by omega))
    clear F62
    have F72 := Lib.hid (F63.out.within hw67 (by omega))
    clear F63
    have F73 := Lib.hid (F64.out.within hw67 (by omega))
    clear F64
    have hs74 := hs65.within (by omega) hw67
    have zhs74 := hw67.size
    clear F71
    obtain ⟨⟨p0, p1, p2⟩, _, _, _⟩ := F70.out.threeA
    obtain ⟨⟨r0, r1, r2⟩, _, _, _⟩ := F73.out.threeA
    go_wp2_with fail
    clear p0 p1 p2 r0 r1 r2
    refine (eqAutomaton_any _ _ R R _ F72.out.at F69.out.at qe0 qe0).mono ?_
    rintro e w75 ⟨rfl, hq76⟩
    have F77 := Lib.hid (F68.out.since hq76)
    clear F68
    have F78 := Lib.hid (F69.out.since hq76)
    clear F69
    have F79 := Lib.hid (F70.out.since hq76)
    clear F70
    have F80 := Lib.hid (F72.out.since hq76)
    clear F72
    have F81 := Lib.hid (F73.out.since hq76)
    clear F73
    have hs82 := hs74.trans hq76
    have zhs82 := hq76.size
    obtain ⟨⟨r0, r1, r2⟩, _, _, _⟩ := F81.out.threeA
    go_wp2_with fail
    clear r0 r1 r2
    refine (markAutomaton_any _ _ _ R 1 _ F80.out (by omega) (by decide) (by decide) qm0).mono ?_
    rintro e w83 ⟨rfl, hmg, hw84⟩
    rw [← HKR.out]
    have HM := Lib.hid hmg
    clear hmg
    clear F80
    have F85 := Lib.hid (F77.out.within hw84 (by omega))
    clear F77
    have F86 := Lib.hid (F78.out.within hw84 (by omega))
    clear F78
    have F87 := Lib.hid (F79.out.within hw84 (by omega))
    clear F79
    have F88 := Lib.hid (F81.out.within hw84 (by omega))
    clear F81
    have hs89 := hs82.within (by omega) hw84
    have zhs89 := hw84.size
    obtain ⟨⟨r0, r1, r2⟩, _, _, _⟩ := F88.out.threeA
    go_wp2_with fail
    clear r0 r1 r2
    refine (heldAutomaton_any _ R 1 _ HM.out.at (by decide) (by decide) qm0).mono ?_
    rintro e w90 ⟨rfl, hq91⟩
    rw [← HKR.out]
    have F92 := Lib.hid (F85.out.since hq91)
    clear F85
    have F93 := Lib.hid (F86.out.since hq91)
    clear F86
    have F94 := Lib.hid (F87.out.since hq91)
    clear F87
    have F95 := Lib.hid (F88.out.since hq91)
    clear F88
    have F96 := Lib.hid (HM.out.since hq91)
    clear HM
    have hs97 := hs89.trans hq91
    have zhs97 := hq91.size
    obtain ⟨⟨p0, p1, p2⟩, _, _, _⟩ := F92.out.threeA
    go_wp2_with fail
    clear p0 p1 p2
    refine (toAutomaton_any _ x _ (H0.out.since hs97) g10).mono ?_
    rintro e w98 ⟨va, rfl, hoa, hq99⟩
    have F100 := Lib.hid (F92.out.since hq99)
    clear F92
    have F101 := Lib.hid (F93.out.since hq99)
    clear F93
    have F102 := Lib.hid (F94.out.since hq99)
    clear F94
    have F103 := Lib.hid (F95.out.since hq99)
    clear F95
    have F104 := Lib.hid (F96.out.since hq99)
    clear F96
    have hs105 := hs97.trans hq99
    have zhs105 := hq99.size
    go_wp2_with fail
    refine (HI.out _ _ hoa.at).mono ?_
    rintro e w106 ⟨vs4, rfl, ho3, hq107⟩
    clear hoa
    have HOO := Lib.hid ho3
    obtain ⟨hs, hu, rfl, _, hk, _, hl⟩ := ho3
    obtain ⟨hso, hsc, rfl⟩ := hk.len
    obtain ⟨huo, huc, rfl⟩ := hl.len
    clear hk hl
    have F108 := Lib.hid (F100.out.since hq107)
    clear F100
    have F109 := Lib.hid (F101.out.since hq107)
    clear F101
    have F110 := Lib.hid (F102.out.since hq107)
    clear F102
    have F111 := Lib.hid (F103.out.since hq107)
    clear F103
    have F112 := Lib.hid (F104.out.since hq107)
    clear F104
    have hs113 := hs105.trans hq107
    have zhs113 := hq107.size
    obtain ⟨y114, hy114⟩ : ∃ y, y = w106.alloc (.cells #[.int .i64 R.st, .slice hso R.ac.length hsc, .slice huo R.nx.length huc] 39) := ⟨_, rfl⟩
    have ha115 : Since w106 y114 := by rw [hy114]; exact (Since.refl w106).alloc _
    have zby114 : w106.heap.size + 1 = y114.heap.size := by rw [hy114]; simp
    have SB116 : Hid (Blk y114 w106.heap.size 39 #[.int .i64 R.st, .slice hso R.ac.length hsc, .slice huo R.nx.length huc]) := by rw [hy114]; exact Blk.new rfl _ _
    have F117 := Lib.hid (F108.out.since ha115)
    clear F108
    have F118 := Lib.hid (F109.out.since ha115)
    clear F109
    have F119 := Lib.hid (F110.out.since ha115)
    clear F110
    have F120 := Lib.hid (F111.out.since ha115)
    clear F111
    have F121 := Lib.hid (F112.out.since ha115)
    clear F112
    have F122 := Lib.hid (HOO.out.since ha115)
    clear HOO
    have hs123 := hs113.trans ha115
    have zhs123 := ha115.size
    obtain ⟨⟨p0, p1, p2⟩, _, _, _⟩ := F119.out.threeA
    obtain ⟨⟨r0, r1, r2⟩, _, _, _⟩ := SB116.out.threeA
    rw [hy114] at p0 p1 p2 r0 r1 r2
    go_wp2_with fail
    rw [← hy114]
    clear hy114 p0 p1 p2 r0 r1 r2
    refine (eqAutomaton_any _ _ R R _ F122.out.at F118.out.at qe0 qe0).mono ?_
    rintro e w124 ⟨rfl, hq125⟩
    have F126 := Lib.hid (F117.out.since hq125)
    clear F117
    have F127 := Lib.hid (F118.out.since hq125)
    clear F118
    have F128 := Lib.hid (F119.out.since hq125)
    clear F119
    have F129 := Lib.hid (F120.out.since hq125)
    clear F120
    have F130 := Lib.hid (F121.out.since hq125)
    clear F121
    have F131 := Lib.hid (F122.out.since hq125)
    clear F122
    have F132 := Lib.hid (SB116.out.since hq125)
    clear SB116
    have hs133 := hs123.trans hq125
    have zhs133 := hq125.size
    clear F127
    clear F131
    clear F128
    clear F132
    obtain ⟨⟨r0, r1, r2⟩, _, _, _⟩ := F129.out.threeA
    go_wp2_with fail
    clear r0 r1 r2
    refine (heldAutomaton_any _ R 1 _ F130.out.at (by decide) (by decide) qm0).mono ?_
    rintro e w134 ⟨rfl, hq135⟩
    rw [← HKR.out]
    have F136 := Lib.hid (F126.out.since hq135)
    clear F126
    have F137 := Lib.hid (F129.out.since hq135)
    clear F129
    have F138 := Lib.hid (F130.out.since hq135)
    clear F130
    have hs139 := hs133.trans hq135
    have zhs139 := hq135.size
    go_wp2
    go_ret
    exact ⟨rfl, hs139⟩
end Go.Proofs.Ytmaagihfjldgeaa
