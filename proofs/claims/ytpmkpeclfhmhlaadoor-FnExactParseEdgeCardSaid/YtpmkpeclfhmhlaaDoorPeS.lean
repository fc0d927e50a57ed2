/- ParseEdge, the model's. -/
import Derived.Test.YtpmkpeclfhmhlaaDoorPeM
import Derived.Test.YtpmkpeclfhmhlaaDoorParseI
namespace Go.Proofs.YtpmkpeclfhmhlaaDoor
set_option maxRecDepth 100000
open Go.ChangeShapes Go.WideShapes Go.ChangeAt Go.RowKit
set_option linter.unusedVariables false
set_option linter.unusedSimpArgs false

theorem pe_ret {s : ByteArray} {e : Edg} {c : Bool} {v : Value} (h : peO s = (e, c)) (hv : v = ev e) : Ending.returned (.tuple #[v, .bool c]) = .returned (.tuple #[ev (peO s).1, .bool (peO s).2]) := by
  rw [h, hv]
theorem strs_since {base : Nat} {w : World} {v : Value} {ss : List ByteArray} (h : OwnS base w v ss) (hp : 0 < ss.length) :
    ∃ g cap, v = .slice (some ⟨g, 0, none⟩) ss.length cap ∧ ∀ W, Since w W → ∀ (j : Nat) (hj : j < ss.length), W.cell? ⟨g, j, none⟩ = some (.string ss[j]) := by
  have h' := h
  rcases h.2 with ⟨hv, hn⟩ | ⟨g, cap, cur, hv, hb, hg, _⟩
  · omega
  · subst hv
    refine ⟨g, cap, rfl, fun W hW j hj => ?_⟩
    unfold OwnS at h'
    obtain ⟨_, _, hc⟩ := own_cells h'
    rw [Below.cell hW (p := ⟨g, j, none⟩) (heap_lt hg)]
    have := hc j _ (List.getElem?_eq_getElem hj)
    rwa [Nat.zero_add] at this
theorem cutC_two {s a m : ByteArray} (h : cutCB s = [a, m]) (w : World) (hs : s.size ≤ 1048576) :
    Calls Tryd.prog 28 #[.string s, .int .u8 58] w fun e w' => ∃ g cap, e = .returned (.slice (some ⟨g, 0, none⟩) 2 cap) ∧ Since w w' ∧ Hid (∀ W, Since w' W → W.cell? ⟨g, 0, none⟩ = some (.string a) ∧ W.cell? ⟨g, 1, none⟩ = some (.string m)) := by
  refine (l2CutC_any s w hs).mono ?_
  rintro e w' ⟨v, rfl, ho, hsi⟩
  rw [h] at ho
  obtain ⟨g, cap, rfl, hc⟩ := strs_since ho (by simp)
  exact ⟨g, cap, rfl, hsi, fun W hW => ⟨hc W hW 0 (by simp), hc W hW 1 (by simp)⟩⟩
theorem cutC_other {s : ByteArray} (w : World) (hs : s.size ≤ 1048576) :
    Calls Tryd.prog 28 #[.string s, .int .u8 58] w fun e w' => ∃ g cap, e = .returned (.slice g (cutCB s).length cap) ∧ Since w w' := by
  refine (l2CutC_any s w hs).mono ?_
  rintro e w' ⟨v, rfl, ho, hsi⟩
  by_cases hp : 0 < (cutCB s).length
  · obtain ⟨g, cap, rfl, hc⟩ := strs_since ho hp
    exact ⟨_, cap, rfl, hsi⟩
  · have := cutCL_pos s.data.toList
    rw [cutCB_length] at hp; omega
theorem gb_at {m : ByteArray} (i : Nat) (h : i < m.size) : gb m i = (m[i].toNat : Int) := by unfold gb; rw [dif_pos h]
theorem plN_half (s : ByteArray) : 0 ≤ (plN s).tdiv 2 ∧ (plN s).tdiv 2 ≤ 4 ∧ 0 ≤ plN s ∧ plN s ≤ 8 := by
  have : 0 ≤ plN s ∧ plN s ≤ 8 := by
    cases hb : plB s with
    | true => obtain ⟨k, hk, hn, _⟩ := pl_some hb; omega
    | false => unfold plB at hb; unfold plN; rw [Option.isSome_eq_false_iff, Option.isNone_iff_eq_none] at hb; rw [hb]; decide
  rw [Int.tdiv_eq_ediv_of_nonneg this.1]
  omega

set_option maxHeartbeats 4000000 in
set_option maxRecDepth 100000 in
theorem specPE_any (s : ByteArray) (w : World) (hs : s.size ≤ 1048576) :
    Calls Tryd.prog 10 #[.string s] w fun en w' => en = .returned (.tuple #[ev (peO s).1, .bool (peO s).2]) ∧ Since w w' := by
  unfold ev
  have hs0 : Since w (w.alloc (.cells #[.int .i64 0, .int .i64 0, .int .i64 0, .int .i64 0] 25)) := (Since.refl w).alloc _
  have r0 : Hid (Blk (w.alloc (.cells #[.int .i64 0, .int .i64 0, .int .i64 0, .int .i64 0] 25)) w.heap.size 25 #[.int .i64 0, .int .i64 0, .int .i64 0, .int .i64 0]) := Blk.new rfl _ _
  by_cases hl : (cutCB s).length = 2
  · obtain ⟨a, m, hc⟩ : ∃ a m, cutCB s = [a, m] := by
      match h : cutCB s, hl with
      | [a, m], _ => exact ⟨a, m, rfl⟩
    have HC := Lib.hid (fun W => cutC_two hc W hs)
    have hm1 : m.size ≤ 1048576 := by have := cutCB_part_le s m (by rw [hc]; simp); omega
    have ha1 : a.size ≤ 1048576 := by have := cutCB_part_le s a (by rw [hc]; simp); omega
    by_cases h3 : m.size = 3
    · skip
      have p0 : 0 < m.size := by omega
      have p2 : 2 < m.size := by omega
      have HYES : Hid (fmtE (eOf a m) = s → peO s = (eOf a m, true)) := fun h => pe_yes hc h3 h
      have HNO : Hid (fmtE (eOf a m) ≠ s → peO s = (zeroE, false)) := fun h => pe_no hc h
      have HFE := Lib.hid (fun W => specFE_any (eOf a m) W)
      unfold ev eOf at HFE
      unfold eOf at HYES HNO
      rw [gb_at 0 p0, gb_at 2 p2] at HYES HNO HFE
      have b0 := byte_lt m 0 p0
      have b2 := byte_lt m 2 p2
      have v0 : IntKind.i64.wrap (m[0].toNat : Int) = (m[0].toNat : Int) := by rw [IntKind.wrap_i64]; omega
      have v2 : IntKind.i64.wrap (m[2].toNat : Int) = (m[2].toNat : Int) := by rw [IntKind.wrap_i64]; omega
      have w0 : IntKind.i64.wrap ((m[0].toNat : Int) - 48) = (m[0].toNat : Int) - 48 := by rw [IntKind.wrap_i64]; omega
      have w2 : IntKind.i64.wrap ((m[2].toNat : Int) - 48) = (m[2].toNat : Int) - 48 := by rw [IntKind.wrap_i64]; omega
      obtain ⟨k1, k2, k3, k4⟩ := plN_half (m.extract 1 2)
      have wq : IntKind.i64.wrap ((plN (m.extract 1 2)).tdiv 2) = (plN (m.extract 1 2)).tdiv 2 := by rw [IntKind.wrap_i64]; omega
      have HPI := Lib.hid (fun W => specPI_any a W ha1)
      have HPL := Lib.hid (fun W => specPL_any (m.extract 1 2) W)
      obtain ⟨q, hq⟩ : ∃ q, (plN (m.extract 1 2)).tdiv 2 = q := ⟨_, rfl⟩
      rw [hq] at wq HYES HNO HFE k1 k2
      generalize plN (m.extract 1 2) = k at hq HPL k3 k4
      generalize plB (m.extract 1 2) = kb at HPL
      generalize (pOut a.data.toList).1 = n at HYES HNO HFE HPI
      generalize (pOut a.data.toList).2 = nb at HPI
      obtain ⟨x0, hx0⟩ : ∃ x, (m[0].toNat : Int) - 48 = x := ⟨_, rfl⟩
      obtain ⟨x2, hx2⟩ : ∃ x, (m[2].toNat : Int) - 48 = x := ⟨_, rfl⟩
      rw [hx0] at w0 HYES HNO HFE
      rw [hx2] at w2 HYES HNO HFE
      generalize fmtE ⟨n, x0, x2, q⟩ = F at HYES HNO HFE
      clear hl hc b0 b2 k1 k2 k3 k4
      go_enter Tryd.func10, Tryd.ntmps10
      go_wp2_with fail
      refine (HC.out _).mono ?_
      rintro en w1 ⟨g, cap, rfl, hs1, HG⟩
      have hs01 := hs0.trans hs1
      obtain ⟨g0, g1⟩ := HG.out _ (Since.refl _)
      go_wp2_with fail
      refine (HPI.out _).mono ?_
      rintro en w2 ⟨rfl, hs2⟩
      have hs02 := hs01.trans hs2
      have hs12 := hs2
      clear g0 g1
      obtain ⟨g0, g1⟩ := HG.out _ hs12
      go_wp2_with fail
      refine (HPL.out _).mono ?_
      rintro en y ⟨rfl, hs3⟩
      have hs13 := hs12.trans hs3
      clear g0 g1
      obtain ⟨g0, g1⟩ := HG.out _ hs13
      have r1 := Lib.hid (r0.out.since (hs1.trans hs13))
      have hs03 := hs0.trans (hs1.trans hs13)
      clear r0 hs0 hs01 hs02
      have r0 := r1
      have hs0 := hs03
      clear r1 hs03
      have HKC : Hid (∀ w', Since y w' → w'.cell? ⟨g, 1, none⟩ = some (.string m)) := fun w' hw => (HG.out _ (hs13.trans hw)).2
      go_wp2_with fail
      refine wp_region_held_drew (S := (fun w' => w'.cell? ⟨g, 1, none⟩ = some (.string m))) (by kernel_rfl) (HKC.out _ (Since.refl _).drew) (fun hHeld => ?_)
      refine take_yes 0 (some 38) (v := ?_) rfl (by kernel_rfl) (by kernel_rfl) (by kernel_rfl) (by kernel_rfl) (fun _ _ _ h => h) (by rfl) (by assumption) ?_ ?_
      rotate_left
      · (intro w' hSw; (try dsimp only at hSw); go_simp; try with_reducible rfl)
      try simp only [Act.put, List.setIfInBounds_toArray, List.set_cons_zero, List.set_cons_succ]
      refine take_yes 1 (some 39) (v := ?_) rfl (by kernel_rfl) (by kernel_rfl) (by kernel_rfl) (by kernel_rfl) (fun _ _ _ h => h) (by rfl) (by assumption) ?_ ?_
      rotate_left
      · (intro w' hSw; (try dsimp only at hSw); go_simp; try with_reducible rfl)
      try simp only [Act.put, List.setIfInBounds_toArray, List.set_cons_zero, List.set_cons_succ]
      refine take_yes 2 (some 40) (v := ?_) rfl (by kernel_rfl) (by kernel_rfl) (by kernel_rfl) (by kernel_rfl) (fun _ _ _ h => h) (by rfl) (by assumption) ?_ ?_
      rotate_left
      · (intro w' hSw; (try dsimp only at hSw); go_simp; try with_reducible rfl)
      try simp only [Act.put, List.setIfInBounds_toArray, List.set_cons_zero, List.set_cons_succ]
      refine take_yes 3 (some 41) (v := ?_) rfl (by kernel_rfl) (by kernel_rfl) (by kernel_rfl) (by kernel_rfl) (fun _ _ _ h => h) (by rfl) (by assumption) ?_ ?_
      rotate_left
      · (intro w' hSw; (try dsimp only at hSw); go_simp; try with_reducible rfl)
      try simp only [Act.put, List.setIfInBounds_toArray, List.set_cons_zero, List.set_cons_succ]
      refine take_yes 4 (some 42) (v := ?_) rfl (by kernel_rfl) (by kernel_rfl) (by kernel_rfl) (by kernel_rfl) (fun _ _ _ h => h) (by rfl) (by assumption) ?_ ?_
      rotate_left
      · (intro w' hSw; (try dsimp only at hSw); go_simp; try with_reducible rfl)
      try simp only [Act.put, List.setIfInBounds_toArray, List.set_cons_zero, List.set_cons_succ]
      refine take_yes 5 (some 43) (v := ?_) rfl (by kernel_rfl) (by kernel_rfl) (by kernel_rfl) (by kernel_rfl) (fun _ _ _ h => h) (by rfl) (by assumption) ?_ ?_
      rotate_left
      · (intro w' hSw; (try dsimp only at hSw); go_simp; try with_reducible rfl)
      try simp only [Act.put, List.setIfInBounds_toArray, List.set_cons_zero, List.set_cons_succ]
      refine take_yes 6 (some 44) (v := ?_) rfl (by kernel_rfl) (by kernel_rfl) (by kernel_rfl) (by kernel_rfl) (fun _ _ _ h => h) (by rfl) (by assumption) ?_ ?_
      rotate_left
      · (intro w' hSw; (try dsimp only at hSw); go_simp; try with_reducible rfl)
      try simp only [Act.put, List.setIfInBounds_toArray, List.set_cons_zero, List.set_cons_succ]
      refine take_yes 7 (some 45) (v := ?_) rfl (by kernel_rfl) (by kernel_rfl) (by kernel_rfl) (by kernel_rfl) (fun _ _ _ h => h) (by rfl) (by assumption) ?_ ?_
      rotate_left
      · (intro w' hSw; (try dsimp only at hSw); go_simp; try with_reducible rfl)
      try simp only [Act.put, List.setIfInBounds_toArray, List.set_cons_zero, List.set_cons_succ]
      refine take_yes 8 (some 46) (v := ?_) rfl (by kernel_rfl) (by kernel_rfl) (by kernel_rfl) (by kernel_rfl) (fun _ _ _ h => h) (by rfl) (by assumption) ?_ ?_
      rotate_left
      · (intro w' hSw; (try dsimp only at hSw); go_simp; try with_reducible rfl)
      try simp only [Act.put, List.setIfInBounds_toArray, List.set_cons_zero, List.set_cons_succ]
      refine take_yes 9 (some 47) (v := ?_) rfl (by kernel_rfl) (by kernel_rfl) (by kernel_rfl) (by kernel_rfl) (fun _ _ _ h => h) (by rfl) (by assumption) ?_ ?_
      rotate_left
      · (intro w' hSw; (try dsimp only at hSw); go_simp; try with_reducible rfl)
      try simp only [Act.put, List.setIfInBounds_toArray, List.set_cons_zero, List.set_cons_succ]
      refine take_yes 10 (some 48) (v := ?_) rfl (by kernel_rfl) (by kernel_rfl) (by kernel_rfl) (by kernel_rfl) (fun _ _ _ h => h) (by rfl) (by assumption) ?_ ?_
      rotate_left
      · (intro w' hSw; (try dsimp only at hSw); go_simp; try with_reducible rfl)
      try simp only [Act.put, List.setIfInBounds_toArray, List.set_cons_zero, List.set_cons_succ]
      refine take_yes 11 (some 49) (v := ?_) rfl (by kernel_rfl) (by kernel_rfl) (by kernel_rfl) (by kernel_rfl) (fun _ _ _ h => h) (by rfl) (by assumption) ?_ ?_
      rotate_left
      · (intro w' hSw; (try dsimp only at hSw); go_simp; try with_reducible rfl)
      try simp only [Act.put, List.setIfInBounds_toArray, List.set_cons_zero, List.set_cons_succ]
      refine take_yes 12 (some 50) (v := ?_) rfl (by kernel_rfl) (by kernel_rfl) (by kernel_rfl) (by kernel_rfl) (fun _ _ _ h => h) (by rfl) (by assumption) ?_ ?_
      rotate_left
      · (intro w' hSw; (try dsimp only at hSw); go_simp; try with_reducible rfl)
      try simp only [Act.put, List.setIfInBounds_toArray, List.set_cons_zero, List.set_cons_succ]
      refine take_yes 13 (some 51) (v := ?_) rfl (by kernel_rfl) (by kernel_rfl) (by kernel_rfl) (by kernel_rfl) (fun _ _ _ h => h) (by rfl) (by assumption) ?_ ?_
      rotate_left
      · (intro w' hSw; (try dsimp only at hSw); go_simp; try with_reducible rfl)
      try simp only [Act.put, List.setIfInBounds_toArray, List.set_cons_zero, List.set_cons_succ]
      refine take_yes 14 (some 52) (v := ?_) rfl (by kernel_rfl) (by kernel_rfl) (by kernel_rfl) (by kernel_rfl) (fun _ _ _ h => h) (by rfl) (by assumption) ?_ ?_
      rotate_left
      · (intro w' hSw; (try dsimp only at hSw); go_simp; try with_reducible rfl)
      try simp only [Act.put, List.setIfInBounds_toArray, List.set_cons_zero, List.set_cons_succ]
      refine take_yes 15 (some 53) (v := ?_) rfl (by kernel_rfl) (by kernel_rfl) (by kernel_rfl) (by kernel_rfl) (fun _ _ _ h => h) (by rfl) (by assumption) ?_ ?_
      rotate_left
      · (intro w' hSw; (try dsimp only at hSw); go_simp; try with_reducible rfl)
      try simp only [Act.put, List.setIfInBounds_toArray, List.set_cons_zero, List.set_cons_succ]
      refine take_run 16 rfl (by kernel_rfl) (by rfl) (fun K hK => ?_)
      go_simp
      have hca := Since.alloc (Since.refl y).drew (.cells #[.int .i64 0, .int .i64 0, .int .i64 0, .int .i64 0] 25)
      have BA : Hid (Blk (y.drew.alloc (.cells #[.int .i64 0, .int .i64 0, .int .i64 0, .int .i64 0] 25)) y.heap.size 25 #[.int .i64 0, .int .i64 0, .int .i64 0, .int .i64 0]) := Blk.new rfl _ _
      refine hK.out _ _ (HKC.out _ hca) (fun hHelda => ?_)
      clear hK K hHeld
      try simp only [Act.put, List.setIfInBounds_toArray, List.set_cons_zero, List.set_cons_succ]
      refine take_run 17 rfl (by kernel_rfl) (by rfl) (fun K hK => ?_)
      obtain ⟨s0, s1, s2, s3, s4, s5, s6, s7⟩ := BA.out.four
      go_simp
      try simp only [v0, v2, hx0, hx2, w0, w2, hq, wq]
      clear s0 s1 s2 s3 s4 s5 s6 s7
      have hcf : Since y ((y.alloc (.cells #[.int .i64 n, .int .i64 x0, .int .i64 x2, .int .i64 q] 25)).drew) := ((Since.refl y).alloc _).drew
      refine hK.out _ _ (HKC.out _ hcf) (fun hHeldz => ?_)
      clear hK K hHelda
      try simp only [Act.put, List.setIfInBounds_toArray, List.set_cons_zero, List.set_cons_succ]
      refine wpAnyH_done (by kernel_rfl) ?_ _
      clear hHeldz
      have BF : Blk ((y.alloc (.cells #[.int .i64 n, .int .i64 x0, .int .i64 x2, .int .i64 q] 25)).drew) y.heap.size 25 #[.int .i64 n, .int .i64 x0, .int .i64 x2, .int .i64 q] := (Blk.new rfl _ _).drew
      have HR := Lib.hid (r0.out.since hcf)
      have hsz : Since w _ := hs0.trans hcf
      have hzz : Hid (w.heap.size < y.heap.size) := r0.out.lt
      obtain ⟨u, hu⟩ : ∃ u, u = y.heap.size := ⟨_, rfl⟩
      rw [← hu] at BF hzz ⊢
      clear hu
      have HF := Lib.hid BF
      obtain ⟨d0, d1, d2, d3, e0, e1, e2, e3⟩ := BF.four
      generalize ((y.alloc (.cells #[.int .i64 n, .int .i64 x0, .int .i64 x2, .int .i64 q] 25)).drew) = yf at d0 d1 d2 d3 e0 e1 e2 e3 HF HR hsz hcf ⊢
      clear BF
      go_wp2_with fail
      refine (HFE.out _).mono ?_
      rintro en w5 ⟨rfl, hs5⟩
      have hs05 := hsz.trans hs5
      obtain ⟨d0, d1, d2, d3, e0, e1, e2, e3⟩ := (HF.out.since hs5).four
      obtain ⟨a0, a1, a2, a3, b0, b1, b2, b3⟩ := (HR.out.since (hs5)).four
      by_cases hf : F = s
      · have HO := HYES.out hf
        subst hf
        go_wp2_with fail
        refine bodyPost_ret (v := .tuple #[.agg #[.int .i64 n, .int .i64 x0, .int .i64 x2, .int .i64 q], .bool true]) (by simp [results, Tryd.results10, go_sem, *]) rfl ?_
        refine ⟨pe_ret HO rfl, ?_⟩
        iterate 4 (with_reducible refine Since.setCell ?_ (by simp) _)
        exact hs05
      · have hne : (F.toList == s.toList) = false := str_ne hf
        have HO := HNO.out hf
        go_wp2_with fail
        refine bodyPost_ret (v := .tuple #[.agg #[.int .i64 0, .int .i64 0, .int .i64 0, .int .i64 0], .bool false]) (by simp [results, Tryd.results10, go_sem, *]) rfl ?_
        refine ⟨pe_ret HO rfl, ?_⟩
        iterate 4 (with_reducible refine Since.setCell ?_ (by simp) _)
        exact hs05

    · have HO := pe_size hc h3
      have h3i : ((m.size : Int) == 3) = false := by rw [beq_eq_false_iff_ne]; omega
      clear hl hc
      go_enter Tryd.func10, Tryd.ntmps10
      go_wp2_with fail
      refine (HC.out _).mono ?_
      rintro en w1 ⟨g, cap, rfl, hs1, HG⟩
      have hs01 := hs0.trans hs1
      obtain ⟨g0, g1⟩ := HG.out _ (Since.refl _)
      obtain ⟨a0, a1, a2, a3, b0, b1, b2, b3⟩ := (r0.out.since (hs1)).four
      go_wp2_with fail
      refine bodyPost_ret (v := .tuple #[.agg #[.int .i64 0, .int .i64 0, .int .i64 0, .int .i64 0], .bool false]) (by simp [results, Tryd.results10, go_sem, *]) rfl ?_
      refine ⟨pe_ret HO rfl, ?_⟩
      iterate 4 (with_reducible refine Since.setCell ?_ (by simp) _)
      exact hs01
  · have HO := pe_other hl
    have HC := Lib.hid (fun W => cutC_other (s := s) W hs)
    generalize (cutCB s).length = L at HC hl
    have hli : ¬ (L : Int) = 2 := by omega
    clear hl
    go_enter Tryd.func10, Tryd.ntmps10
    go_wp2_with fail
    refine (HC.out _).mono ?_
    rintro en w1 ⟨g, cap, rfl, hs1⟩
    have hs01 := hs0.trans hs1
    obtain ⟨a0, a1, a2, a3, b0, b1, b2, b3⟩ := (r0.out.since (hs1)).four
    go_wp2_with fail
    refine bodyPost_ret (v := .tuple #[.agg #[.int .i64 0, .int .i64 0, .int .i64 0, .int .i64 0], .bool false]) (by simp [results, Tryd.results10, go_sem, *]) rfl ?_
    refine ⟨pe_ret HO rfl, ?_⟩
    iterate 4 (with_reducible refine Since.setCell ?_ (by simp) _)
    exact hs01
end Go.Proofs.YtpmkpeclfhmhlaaDoor
