/- Minimize, the program's and the model's. -/
import Derived.Test.YtcokggjekleabaaMgI
import Derived.Test.YtcokggjekleabaaClU
import Derived.Test.YtcokggjekleabaaTrT
namespace Go.Proofs.Ytcokggjekleabaa
set_option maxRecDepth 100000
open Go.ChangeShapes Go.WideShapes Go.ChangeAt Go.RowKit Go.Maps
set_option linter.unusedVariables false
set_option linter.unusedSimpArgs false

/-- What minimizing leaves. -/
def minN (A : Aut) (f : Nat → Bool) : Aut := nmR A f (clsA A f)
def minA (A : Aut) (f : Nat → Bool) : Aut := if validA A = true then minN A f else ⟨0, [], []⟩
theorem minA_no {A : Aut} {f : Nat → Bool} (h : validA A = false) : minA A f = ⟨0, [], []⟩ := by unfold minA; rw [if_neg (by rw [h]; decide)]
theorem minA_yes {A : Aut} {f : Nat → Bool} (h : validA A = true) : minA A f = minN A f := by unfold minA; rw [if_pos h]
theorem minN_trim {A : Aut} {f : Nat → Bool} (hv : ValidA A) (hf : ∀ s, f s = true ↔ LiveP A s) (hc : trimC (mrgA A (clsA A f)) f = true) : trimN (mrgA A (clsA A f)) f = minN A f := by
  have H := clsA_H A f
  have hM := mrg_valid hv (clsA_length A f)
  have hfM := H.liveM hv hf
  have h1 := nmR_trim hM hfM hc
  have h2 : (mrgA A (clsA A f)).ac.length = A.ac.length := rfl
  rw [h2, nmR_mrg hv H] at h1
  exact h1.symm
theorem minC_yes {A : Aut} {f : Nat → Bool} (hv : ValidA A) (h12 : A.ac.length ≤ 12) : trimC (mrgA A (clsA A f)) f = true :=
  trimC_yes (mrg_valid hv (clsA_length A f)) h12 f
theorem minA_bg (A : Aut) (f : Nat → Bool) (hf : ∀ s, f s = true ↔ LiveP A s) : BgA (minA A f) := by
  cases h : validA A with
  | false => rw [minA_no h]; unfold BgA; simp [totS]
  | true =>
    have hv := (validA_iff A).1 h
    have h12 := (validA_iff A).2 h
    have hM := mrg_valid hv (clsA_length A f)
    rw [minA_yes h, ← minN_trim hv hf (minC_yes hv h12), ← trimA_yes (validA_true (A := mrgA A (clsA A f)) h12 hM)]
    exact trimA_bg _ _
set_option maxHeartbeats 8000000 in
set_option maxRecDepth 100000 in
theorem minimized_any (v : Value) (A : Aut) (f : Nat → Bool) (w : World) (h : AutAt w v A) (hv : ValidA A) (hf : ∀ s, f s = true ↔ LiveP A s) :
    Calls Try.prog 92 #[v] w (ABOut w (trimN (mrgA A (clsA A f)) f) (trimC (mrgA A (clsA A f)) f)) := by
  have HMG : Hid (∀ W, Since w W → Calls Try.prog 130 #[v] W (AOut W (mrgA A (clsA A f)))) := fun W hW => merged_any v A f W (h.since hW) hv hf
  have HTR : Hid (∀ u W, AutAt W u (mrgA A (clsA A f)) → Calls Try.prog 90 #[u] W (ABOut W (trimN (mrgA A (clsA A f)) f) (trimC (mrgA A (clsA A f)) f))) := fun u W hu =>
    trimmed_any u _ f W hu (mrg_valid hv (clsA_length A f)) ((clsA_H A f).liveM hv hf)
  obtain ⟨a, b, rfl, _, ha, hb⟩ := h
  obtain ⟨ao, ca, rfl⟩ := ha.len
  obtain ⟨bo, cb, rfl⟩ := hb.len
  clear ha hb hf
  obtain ⟨n, hn⟩ : ∃ n, n = A.ac.length := ⟨_, rfl⟩
  obtain ⟨m, hmm⟩ : ∃ n, n = A.nx.length := ⟨_, rfl⟩
  rw [← hn, ← hmm] at HMG ⊢
  clear hn hmm hv
  obtain ⟨M, hM⟩ : ∃ M, M = mrgA A (clsA A f) := ⟨_, rfl⟩
  rw [← hM] at HMG HTR ⊢
  obtain ⟨R, hR⟩ : ∃ R, R = trimN M f := ⟨_, rfl⟩
  obtain ⟨C, hC⟩ : ∃ C, C = trimC M f := ⟨_, rfl⟩
  rw [← hR, ← hC] at HTR ⊢
  clear hR hC hM
  obtain ⟨y, hy⟩ : ∃ y, y = (w.alloc (.cells #[.int .i64 A.st, .slice ao n ca, .slice bo m cb] 27)).alloc (.cells #[.int .i64 0, .slice none 0 0, .slice none 0 0] 27) := ⟨_, rfl⟩
  have hs0 : Since w y := by rw [hy]; exact ((Since.refl w).alloc _).alloc _
  have hz : y.heap.size = w.heap.size + 1 + 1 := by rw [hy]; simp
  have B0 : Hid (Blk y w.heap.size 27 #[.int .i64 A.st, .slice ao n ca, .slice bo m cb]) := by rw [hy]; exact (Blk.new rfl _ _).alloc _
  have B1 : Hid (Blk y (w.heap.size + 1) 27 #[.int .i64 0, .slice none 0 0, .slice none 0 0]) := by rw [hy]; exact Blk.new (by simp) _ _
  have HY := Lib.hid hy
  have HZ := Lib.hid hz
  have HSW := Lib.hid hs0
  clear hy hz
  go_enter Try.func92, Try.ntmps92
  go_upto_region 1 with fail
  rw [← HY.out]
  obtain ⟨⟨p0, p1, p2⟩, _⟩ := B0.out.threeA
  go_wp2_with fail
  refine (HMG.out _ hs0).mono ?_
  rintro e w2 ⟨v2, rfl, ho2, hs2⟩
  have HA2 := Lib.hid ho2.at
  obtain ⟨r2a, r2b, rfl, i2, o2, n2, q2⟩ := ho2
  obtain ⟨mo, mc, rfl⟩ := o2.len
  obtain ⟨no, nc, rfl⟩ := q2.len
  clear i2 o2 n2 q2 p0 p1 p2
  go_wp2_with fail
  refine (HTR.out _ _ HA2.out).mono ?_
  rintro e w4 ⟨v4, rfl, ho4, hs4⟩
  obtain ⟨r4a, r4b, rfl, i4, o4, n4, q4⟩ := ho4
  obtain ⟨so, sc, rfl⟩ := o4.len
  obtain ⟨uo, uc, rfl⟩ := q4.len
  have HO4 : Hid (OwnA _ _ _ _ _) := ⟨_, _, rfl, i4, o4, n4, q4⟩
  have hw4 := hs4.size
  have hw2 := hs2.size
  have hwz := HZ.out
  have HS4 := Lib.hid (hs0.trans (hs2.trans hs4))
  obtain ⟨⟨r0, r1, r2⟩, r3, r4, r5⟩ := (B1.out.since (hs2.trans hs4)).threeA
  clear i4 o4 n4 q4 hs2 hs4 HA2
  go_wp2
  refine bodyPost_ret (v := .tuple #[.agg #[.int .i64 R.st, .slice so R.ac.length sc, .slice uo R.nx.length uc], .bool C]) (by simp [results, Try.results92, go_sem, *]) rfl ?_
  refine ⟨_, rfl, ?_, ?_⟩
  · refine OwnA.wider (lo := w2.heap.size) (hi := w4.heap.size) ?_ (by omega) (by simp)
    iterate 3 (with_reducible refine OwnA.far1 ?_ (.inl (by omega)) _ _)
    exact HO4.out
  · iterate 3 (with_reducible refine Since.setCell ?_ (by simp <;> omega) _)
    exact HS4.out
set_option maxHeartbeats 8000000 in
set_option maxRecDepth 100000 in
theorem specMz_any (v : Value) (A : Aut) (f : Nat → Bool) (w : World) (h : AutAt w v A) (hv : ValidA A) (hf : ∀ s, f s = true ↔ LiveP A s) :
    Calls Try.prog 91 #[v] w (AOut w (minN A f)) := by
  have HCL : Hid (∀ W, Since w W → Calls Try.prog 58 #[v] W (OwnOut W (clsA A f))) := fun W hW => specCls_any v A f W (h.since hW) hv hf
  have HLV : Hid (∀ W, Since w W → Calls Try.prog 89 #[v] W (BoOut W (boL f A.ac.length))) := fun W hW => specLive_any v A f W (h.since hW) hv hf
  have HNM : Hid (∀ U L W, Since w W → IntsAt W U (clsA A f) → BosAt W L (boL f A.ac.length) → Calls Try.prog 88 #[v, U, L] W (AOut W (minN A f))) := fun U L W hW hu hl =>
    specNum_any v U L A (clsA A f) f W (h.since hW) hv hu (clsA_length A f) (fun i hi hfi => by
      have hin : i < A.ac.length := by rw [clsA_length] at hi; exact hi
      have h1 := clsA_range A f i hin
      have h2 := clsA_live A f i hin
      rw [hfi] at h2
      rw [clC_at _ i hi] at h1 h2
      simp at h2
      omega) hl
  obtain ⟨a, b, rfl, _, ha, hb⟩ := h
  obtain ⟨ao, ca, rfl⟩ := ha.len
  obtain ⟨bo, cb, rfl⟩ := hb.len
  have hnb : (boL f A.ac.length).length = A.ac.length := boL_length _ _
  have hnc : (clsA A f).length = A.ac.length := clsA_length A f
  clear ha hb hf hv
  obtain ⟨n, hn⟩ : ∃ n, n = A.ac.length := ⟨_, rfl⟩
  obtain ⟨m, hmm⟩ : ∃ n, n = A.nx.length := ⟨_, rfl⟩
  rw [← hn, ← hmm] at HCL HLV HNM ⊢
  rw [← hn] at hnb hnc
  clear hn hmm
  obtain ⟨R, hR⟩ : ∃ R, R = minN A f := ⟨_, rfl⟩
  rw [← hR] at HNM ⊢
  have HNB := Lib.hid hnb
  have HNC := Lib.hid hnc
  clear hR hnb hnc
  obtain ⟨y, hy⟩ : ∃ y, y = (w.alloc (.cells #[.int .i64 A.st, .slice ao n ca, .slice bo m cb] 27)).alloc (.cells #[.int .i64 0, .slice none 0 0, .slice none 0 0] 27) := ⟨_, rfl⟩
  have hs0 : Since w y := by rw [hy]; exact ((Since.refl w).alloc _).alloc _
  have hz : y.heap.size = w.heap.size + 1 + 1 := by rw [hy]; simp
  have B0 : Hid (Blk y w.heap.size 27 #[.int .i64 A.st, .slice ao n ca, .slice bo m cb]) := by rw [hy]; exact (Blk.new rfl _ _).alloc _
  have B1 : Hid (Blk y (w.heap.size + 1) 27 #[.int .i64 0, .slice none 0 0, .slice none 0 0]) := by rw [hy]; exact Blk.new (by simp) _ _
  have HY := Lib.hid hy
  have HZ := Lib.hid hz
  have HSW := Lib.hid hs0
  have HKC : Hid (∀ w', Since y w' → w'.cell? ⟨w.heap.size, 0, none⟩ = some (.int .i64 A.st) ∧ w'.cell? ⟨w.heap.size, 1, none⟩ = some (.slice ao n ca) ∧ w'.cell? ⟨w.heap.size, 2, none⟩ = some (.slice bo m cb)) := by
    intro w' hs
    obtain ⟨⟨r0, r1, r2⟩, _⟩ := (B0.out.since hs).threeA
    exact ⟨r0, r1, r2⟩
  clear hy hz hs0
  go_enter Try.func91, Try.ntmps91
  go_upto_region 1 with fail
  rw [← HY.out]
  go_wp2_with fail
  refine wp_region_held_drew (S := (fun w' => w'.cell? ⟨w.heap.size, 0, none⟩ = some (.int .i64 A.st) ∧ w'.cell? ⟨w.heap.size, 1, none⟩ = some (.slice ao n ca) ∧ w'.cell? ⟨w.heap.size, 2, none⟩ = some (.slice bo m cb))) (by kernel_rfl) (HKC.out _ (Since.refl _).drew) (fun hHeld => ?_)
  refine take_yes 0 (some 3) (v := ?_) rfl (by kernel_rfl) (by kernel_rfl) (by kernel_rfl) (by kernel_rfl) (fun _ _ _ h => h) (by rfl) (by assumption) ?_ ?_
  rotate_left
  · (intro w' hSw; (try dsimp only at hSw); go_simp; try with_reducible rfl)
  try simp only [Act.put, List.setIfInBounds_toArray, List.set_cons_zero, List.set_cons_succ]
  refine take_yes 1 (some 4) (v := ?_) rfl (by kernel_rfl) (by kernel_rfl) (by kernel_rfl) (by kernel_rfl) (fun _ _ _ h => h) (by rfl) (by assumption) ?_ ?_
  rotate_left
  · (intro w' hSw; (try dsimp only at hSw); go_simp; try with_reducible rfl)
  try simp only [Act.put, List.setIfInBounds_toArray, List.set_cons_zero, List.set_cons_succ]
  refine take_yes 3 (some 6) (v := ?_) rfl (by kernel_rfl) (by kernel_rfl) (by kernel_rfl) (by kernel_rfl) (fun _ _ _ h => h) (by rfl) (by assumption) ?_ ?_
  rotate_left
  · (intro w' hSw; (try dsimp only at hSw); go_simp; try with_reducible rfl)
  try simp only [Act.put, List.setIfInBounds_toArray, List.set_cons_zero, List.set_cons_succ]
  refine take_run 2 rfl (by kernel_rfl) (by rfl) (fun K hK => ?_)
  go_simp
  refine (HCL.out _ (HSW.out.trans (Since.refl _).drew)).mono ?_
  rintro e w2 ⟨v2, rfl, ho2, hs2⟩
  have hc2 := Since.of_drew hs2
  have HL2 := Lib.hid ho2.at
  clear ho2
  refine hK.out _ _ (HKC.out _ hc2) (fun hHeld2 => ?_)
  clear hK K hHeld
  try simp only [Act.put, List.setIfInBounds_toArray, List.set_cons_zero, List.set_cons_succ]
  refine take_run 4 rfl (by kernel_rfl) (by rfl) (fun K hK => ?_)
  go_simp
  refine (HLV.out _ (HSW.out.trans hc2)).mono ?_
  rintro e w3 ⟨v3, rfl, ho3, hs3⟩
  have hc3 := hc2.trans hs3
  have HM3 := Lib.hid ho3.at
  have HL3 := Lib.hid (HL2.out.since hs3)
  clear ho3
  refine hK.out _ _ (HKC.out _ hc3) (fun hHeld3 => ?_)
  clear hK K hHeld2
  try simp only [Act.put, List.setIfInBounds_toArray, List.set_cons_zero, List.set_cons_succ]
  refine take_run 5 rfl (by kernel_rfl) (by rfl) (fun K hK => ?_)
  go_simp
  refine (HNM.out _ _ _ (HSW.out.trans hc3) HL3.out HM3.out).mono ?_
  rintro e w4 ⟨v4, rfl, ho4, hs4⟩
  have hc4 := hc3.trans hs4
  obtain ⟨r4a, r4b, rfl, i4, o4, n4, q4⟩ := ho4
  obtain ⟨so, sc, rfl⟩ := o4.len
  obtain ⟨uo, uc, rfl⟩ := q4.len
  have HO4 : Hid (OwnA _ _ _ _ _) := ⟨_, _, rfl, i4, o4, n4, q4⟩
  have hw4 := hs4.size
  have hw3 := hc3.size
  have hwz := HZ.out
  refine hK.out _ _ (HKC.out _ hc4) (fun hHeld4 => ?_)
  clear hK K hHeld3 i4 o4 n4 q4
  try simp only [Act.put, List.setIfInBounds_toArray, List.set_cons_zero, List.set_cons_succ]
  refine take_run 6 rfl (by kernel_rfl) (by rfl) (fun K hK => ?_)
  obtain ⟨⟨r0, r1, r2⟩, r3, r4, r5⟩ := (B1.out.since hc4).threeA
  go_simp
  clear r0 r1 r2 r3 r4 r5
  obtain ⟨w5, hw5⟩ : ∃ w5, w5 = ((w4.setCell ⟨w.heap.size + 1, 0, none⟩ (.int .i64 R.st)).setCell ⟨w.heap.size + 1, 1, none⟩ (.slice so R.ac.length sc)).setCell ⟨w.heap.size + 1, 2, none⟩ (.slice uo R.nx.length uc) := ⟨_, rfl⟩
  have hS5 : Since w w5 := by
    rw [hw5]
    iterate 3 (with_reducible refine Since.setCell ?_ (by simp) _)
    exact HSW.out.trans hc4
  have hO5 : OwnA w3.heap.size w4.heap.size w5 (.agg #[.int .i64 R.st, .slice so R.ac.length sc, .slice uo R.nx.length uc]) R := by
    rw [hw5]
    iterate 3 (with_reducible refine OwnA.far1 ?_ (.inl (by omega)) _ _)
    exact HO4.out
  have hB5 : Blk w5 (w.heap.size + 1) 27 #[.int .i64 R.st, .slice so R.ac.length sc, .slice uo R.nx.length uc] := by
    rw [hw5]
    exact (((B1.out.since hc4).set 0 _).set 1 _).set 2 _
  have hC5 : Blk w5 w.heap.size 27 #[.int .i64 A.st, .slice ao n ca, .slice bo m cb] := by
    rw [hw5]
    exact (((B0.out.since hc4).far (by simp) _).far (by simp) _).far (by simp) _
  have hz5 : w5.heap.size = w4.heap.size := by rw [hw5]; simp
  rw [← hw5]
  refine hK.out _ _ hC5.threeA.1 (fun hHeldz => ?_)
  clear hK K hHeld4 hw5 HO4
  try simp only [Act.put, List.setIfInBounds_toArray, List.set_cons_zero, List.set_cons_succ]
  refine wpAnyH_done (by kernel_rfl) ?_ _
  clear hHeldz
  obtain ⟨⟨r0, r1, r2⟩, _⟩ := hB5.threeA
  go_wp2
  refine bodyPost_ret (v := .agg #[.int .i64 R.st, .slice so R.ac.length sc, .slice uo R.nx.length uc]) (by simp [results, Try.results91, go_sem, *]) rfl ?_
  exact ⟨_, rfl, hO5.wider (by omega) (by omega), hS5⟩
set_option maxHeartbeats 8000000 in
set_option maxRecDepth 100000 in
theorem implMZ_any (v : Value) (A : Aut) (f : Nat → Bool) (w : World) (h : AutAt w v A) (hm : MxA A) (hf : ∀ s, f s = true ↔ LiveP A s) :
    Calls Try.prog 45 #[v] w (AOut w (minA A f)) := by
  have HVA : Hid (∀ W, Since w W → Calls Try.prog 51 #[v] W fun e w' => e = .returned (.bool (validA A)) ∧ Since W w') := fun W hW => implVA_any v A W (h.since hW) hm
  have HTR : Hid (∀ W, Since w W → ValidA A → A.ac.length ≤ 12 → Calls Try.prog 92 #[v] W (ABOut W (minN A f) true)) := fun W hW hv h12 => by
    have k := minimized_any v A f W (h.since hW) hv hf
    rw [minN_trim hv hf (minC_yes hv h12), minC_yes hv h12] at k
    exact k
  obtain ⟨a, b, rfl, _, ha, hb⟩ := h
  obtain ⟨ao, ca, rfl⟩ := ha.len
  obtain ⟨bo, cb, rfl⟩ := hb.len
  clear ha hb hm hf
  obtain ⟨n, hn⟩ : ∃ n, n = A.ac.length := ⟨_, rfl⟩
  obtain ⟨m, hmm⟩ : ∃ n, n = A.nx.length := ⟨_, rfl⟩
  rw [← hn, ← hmm] at HVA HTR ⊢
  have HN12 := Lib.hid hn
  clear hn hmm
  obtain ⟨y, hy⟩ : ∃ y, y = (w.alloc (.cells #[.int .i64 A.st, .slice ao n ca, .slice bo m cb] 27)).alloc (.cells #[.int .i64 0, .slice none 0 0, .slice none 0 0] 27) := ⟨_, rfl⟩
  have hs0 : Since w y := by rw [hy]; exact ((Since.refl w).alloc _).alloc _
  have hz : y.heap.size = w.heap.size + 1 + 1 := by rw [hy]; simp
  have B0 : Hid (Blk y w.heap.size 27 #[.int .i64 A.st, .slice ao n ca, .slice bo m cb]) := by rw [hy]; exact (Blk.new rfl _ _).alloc _
  have B1 : Hid (Blk y (w.heap.size + 1) 27 #[.int .i64 0, .slice none 0 0, .slice none 0 0]) := by rw [hy]; exact Blk.new (by simp) _ _
  have HY := Lib.hid hy
  have HZ := Lib.hid hz
  clear hy hz
  cases e : validA A with
  | false =>
    have HB := Lib.hid e
    have HF := Lib.hid (minA_no (f := f) e)
    clear e
    go_enter Try.func45, Try.ntmps45
    go_upto_region 1 with fail
    rw [← HY.out]
    obtain ⟨⟨p0, p1, p2⟩, _⟩ := B0.out.threeA
    go_wp2_with fail
    refine (HVA.out _ hs0).mono ?_
    rintro e w1 ⟨rfl, hs1⟩
    rw [HB.out]
    have HS1 := Lib.hid (hs0.trans hs1)
    obtain ⟨⟨r0, r1, r2⟩, r3, r4, r5⟩ := (B1.out.since hs1).threeA
    clear p0 p1 p2
    go_wp2
    refine bodyPost_ret (v := .agg #[.int .i64 0, nilS, nilS]) (by simp [results, Try.results45, go_sem, *]) rfl ?_
    rw [HF.out]
    refine ⟨_, rfl, ownA_zero _ _ _, ?_⟩
    repeat' (first | exact HS1.out | with_reducible refine Since.setCell ?_ (by simp <;> omega) _)
  | true =>
    have HB := Lib.hid e
    have HV : Hid (ValidA A) := (validA_iff A).1 e
    have HF := Lib.hid (minA_yes (f := f) e)
    obtain ⟨R, hR⟩ : ∃ R, R = minN A f := ⟨_, rfl⟩
    rw [← hR] at HF
    rw [← hR] at HTR
    have H12 : Hid (n ≤ 12) := by rw [HN12.out]; exact (validA_iff A).2 e
    rw [HF.out]
    clear e hR HF
    go_enter Try.func45, Try.ntmps45
    go_upto_region 1 with fail
    rw [← HY.out]
    obtain ⟨⟨p0, p1, p2⟩, _⟩ := B0.out.threeA
    go_wp2_with fail
    refine (HVA.out _ hs0).mono ?_
    rintro e w1 ⟨rfl, hs01⟩
    rw [HB.out]
    have HS1 := Lib.hid (hs0.trans hs01)
    have C0 := Lib.hid (B0.out.since hs01)
    have C1 := Lib.hid (B1.out.since hs01)
    have hz1 : w.heap.size + 2 ≤ w1.heap.size := by have := hs01.size; have := HZ.out; omega
    clear p0 p1 p2 B0 B1 HVA hs0 hs01
    obtain ⟨⟨p0, p1, p2⟩, _⟩ := C0.out.threeA
    go_wp2_with fail
    refine (HTR.out _ HS1.out HV.out H12.out).mono ?_
    rintro e w2 ⟨v2, rfl, ho2, hs2⟩
    obtain ⟨r2a, r2b, rfl, i2, o2, n2, q2⟩ := ho2
    obtain ⟨so, sc, rfl⟩ := o2.len
    obtain ⟨uo, uc, rfl⟩ := q2.len
    have HO2 : Hid (OwnA _ _ _ _ _) := ⟨_, _, rfl, i2, o2, n2, q2⟩
    have hw2 := hs2.size
    have HS2 := Lib.hid (HS1.out.trans hs2)
    have C2 := Lib.hid (C1.out.since hs2)
    clear p0 p1 p2 i2 o2 n2 q2 hs2
    obtain ⟨y2, hy2⟩ : ∃ y2, y2 = w2.alloc (.cells #[.int .i64 R.st, .slice so R.ac.length sc, .slice uo R.nx.length uc] 27) := ⟨_, rfl⟩
    have hal : Since w2 y2 := by rw [hy2]; exact (Since.refl w2).alloc _
    have hz2 : y2.heap.size = w2.heap.size + 1 := by rw [hy2]; simp
    have D1 : Hid (Blk y2 w2.heap.size 27 #[.int .i64 R.st, .slice so R.ac.length sc, .slice uo R.nx.length uc]) := by rw [hy2]; exact Blk.new rfl _ _
    have D0 := Lib.hid (C2.out.since hal)
    have HS3 := Lib.hid (HS2.out.trans hal)
    have HO3 := Lib.hid (HO2.out.since hal)
    obtain ⟨⟨p0, p1, p2⟩, _⟩ := D1.out.threeA
    obtain ⟨⟨r0, r1, r2⟩, r3, r4, r5⟩ := D0.out.threeA
    rw [hy2] at p0 p1 p2 r0 r1 r2 r3 r4 r5
    clear hal
    go_wp2
    rw [← hy2]
    refine bodyPost_ret (v := .agg #[.int .i64 R.st, .slice so R.ac.length sc, .slice uo R.nx.length uc]) (by simp [results, Try.results45, go_sem, *]) rfl ?_
    refine ⟨_, rfl, ?_, ?_⟩
    · refine OwnA.wider (lo := w1.heap.size) (hi := w2.heap.size) ?_ (by omega) (by simp; omega)
      iterate 3 (with_reducible refine OwnA.far1 ?_ (.inl (by omega)) _ _)
      exact HO3.out
    · iterate 3 (with_reducible refine Since.setCell ?_ (by simp <;> omega) _)
      exact HS3.out
set_option maxHeartbeats 8000000 in
set_option maxRecDepth 100000 in
theorem specMZ_any (v : Value) (A : Aut) (f : Nat → Bool) (w : World) (h : AutAt w v A) (hm : MxA A) (hf : ∀ s, f s = true ↔ LiveP A s) :
    Calls Try.prog 44 #[v] w (AOut w (minA A f)) := by
  have HVA : Hid (∀ W, Since w W → Calls Try.prog 20 #[v] W fun e w' => e = .returned (.bool (validA A)) ∧ Since W w') := fun W hW => specVA_any v A W (h.since hW) hm
  have HTR : Hid (∀ W, Since w W → ValidA A → Calls Try.prog 91 #[v] W (AOut W (minN A f))) := fun W hW hv => specMz_any v A f W (h.since hW) hv hf
  obtain ⟨a, b, rfl, _, ha, hb⟩ := h
  obtain ⟨ao, ca, rfl⟩ := ha.len
  obtain ⟨bo, cb, rfl⟩ := hb.len
  clear ha hb hm hf
  obtain ⟨n, hn⟩ : ∃ n, n = A.ac.length := ⟨_, rfl⟩
  obtain ⟨m, hmm⟩ : ∃ n, n = A.nx.length := ⟨_, rfl⟩
  rw [← hn, ← hmm] at HVA HTR ⊢
  clear hn hmm
  obtain ⟨y, hy⟩ : ∃ y, y = (w.alloc (.cells #[.int .i64 A.st, .slice ao n ca, .slice bo m cb] 27)).alloc (.cells #[.int .i64 0, .slice none 0 0, .slice none 0 0] 27) := ⟨_, rfl⟩
  have hs0 : Since w y := by rw [hy]; exact ((Since.refl w).alloc _).alloc _
  have hz : y.heap.size = w.heap.size + 1 + 1 := by rw [hy]; simp
  have B0 : Hid (Blk y w.heap.size 27 #[.int .i64 A.st, .slice ao n ca, .slice bo m cb]) := by rw [hy]; exact (Blk.new rfl _ _).alloc _
  have B1 : Hid (Blk y (w.heap.size + 1) 27 #[.int .i64 0, .slice none 0 0, .slice none 0 0]) := by rw [hy]; exact Blk.new (by simp) _ _
  have HY := Lib.hid hy
  have HZ := Lib.hid hz
  clear hy hz
  cases e : validA A with
  | false =>
    have HB := Lib.hid e
    have HF := Lib.hid (minA_no (f := f) e)
    clear e
    go_enter Try.func44, Try.ntmps44
    go_upto_region 1 with fail
    rw [← HY.out]
    obtain ⟨⟨p0, p1, p2⟩, _⟩ := B0.out.threeA
    go_wp2_with fail
    refine (HVA.out _ hs0).mono ?_
    rintro e w1 ⟨rfl, hs1⟩
    rw [HB.out]
    have HS1 := Lib.hid (hs0.trans hs1)
    obtain ⟨⟨r0, r1, r2⟩, r3, r4, r5⟩ := (B1.out.since hs1).threeA
    clear p0 p1 p2
    go_wp2
    refine bodyPost_ret (v := .agg #[.int .i64 0, nilS, nilS]) (by simp [results, Try.results44, go_sem, *]) rfl ?_
    rw [HF.out]
    refine ⟨_, rfl, ownA_zero _ _ _, ?_⟩
    repeat' (first | exact HS1.out | with_reducible refine Since.setCell ?_ (by simp <;> omega) _)
  | true =>
    have HB := Lib.hid e
    have HV : Hid (ValidA A) := (validA_iff A).1 e
    have HF := Lib.hid (minA_yes (f := f) e)
    obtain ⟨R, hR⟩ : ∃ R, R = minN A f := ⟨_, rfl⟩
    rw [← hR] at HF
    rw [← hR] at HTR
    rw [HF.out]
    clear e hR HF
    go_enter Try.func44, Try.ntmps44
    go_upto_region 1 with fail
    rw [← HY.out]
    obtain ⟨⟨p0, p1, p2⟩, _⟩ := B0.out.threeA
    go_wp2_with fail
    refine (HVA.out _ hs0).mono ?_
    rintro e w1 ⟨rfl, hs01⟩
    rw [HB.out]
    have HS1 := Lib.hid (hs0.trans hs01)
    have C0 := Lib.hid (B0.out.since hs01)
    have C1 := Lib.hid (B1.out.since hs01)
    have hz1 : w.heap.size + 2 ≤ w1.heap.size := by have := hs01.size; have := HZ.out; omega
    clear p0 p1 p2 B0 B1 HVA hs0 hs01
    obtain ⟨⟨p0, p1, p2⟩, _⟩ := C0.out.threeA
    go_wp2_with fail
    refine (HTR.out _ HS1.out HV.out).mono ?_
    rintro e w2 ⟨v2, rfl, ho2, hs2⟩
    obtain ⟨r2a, r2b, rfl, i2, o2, n2, q2⟩ := ho2
    obtain ⟨so, sc, rfl⟩ := o2.len
    obtain ⟨uo, uc, rfl⟩ := q2.len
    have HO2 : Hid (OwnA _ _ _ _ _) := ⟨_, _, rfl, i2, o2, n2, q2⟩
    have hw2 := hs2.size
    have HS2 := Lib.hid (HS1.out.trans hs2)
    have C2 := Lib.hid (C1.out.since hs2)
    clear p0 p1 p2 i2 o2 n2 q2 hs2
    obtain ⟨⟨r0, r1, r2⟩, r3, r4, r5⟩ := C2.out.threeA
    go_wp2
    refine bodyPost_ret (v := .agg #[.int .i64 R.st, .slice so R.ac.length sc, .slice uo R.nx.length uc]) (by simp [results, Try.results44, go_sem, *]) rfl ?_
    refine ⟨_, rfl, ?_, ?_⟩
    · refine OwnA.wider (lo := w1.heap.size) (hi := w2.heap.size) ?_ (by omega) (by simp)
      iterate 3 (with_reducible refine OwnA.far1 ?_ (.inl (by omega)) _ _)
      exact HO2.out
    · iterate 3 (with_reducible refine Since.setCell ?_ (by simp <;> omega) _)
      exact HS2.out
end Go.Proofs.Ytcokggjekleabaa
