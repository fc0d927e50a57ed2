/- Determinize, the model's. -/
import Derived.Test.YtcokggjekleabaaTsI
import Derived.Test.YtcokggjekleabaaDtZ
import Derived.Test.YtcokggjekleabaaTrT
namespace Go.Proofs.Ytcokggjekleabaa
set_option maxRecDepth 100000
open Go.ChangeShapes Go.WideShapes Go.ChangeAt Go.RowKit Go.Maps
set_option linter.unusedVariables false
set_option linter.unusedSimpArgs false

theorem autR_bg (step : Int → Nat → Option Int) (acc : Int → Bool) (R : Option (List Int)) (h : ∀ fs, R = some fs → fs.length ≤ 1000) : BgA (autR step acc R) := by
  unfold BgA
  cases R with
  | none => simp [autR, totS]
  | some fs =>
    have := h fs rfl
    simp only [autR, autN, List.length_map, totS_rows]
    omega
theorem detA_bg (p : Psn) : BgA (detA p) := by
  unfold detA
  by_cases hv : posB p = true
  · rw [if_pos hv]
    refine autR_bg _ _ _ (fun fs hf => ?_)
    obtain ⟨_, _, _, f4⟩ := numN_some (Q := InZ) (fun s k x hk hs hx => stepZ_in (posB_parts hv).1 hx) (by decide) (by unfold InZ; omega) hf
    omega
  · rw [if_neg hv]; unfold BgA; simp [totS]
set_option maxHeartbeats 2000000 in
set_option maxRecDepth 100000 in
theorem specDT_any (v : Value) (p : Psn) (w : World) (h : PsAt w v p) (hl : p.ls.length ≤ maxLen) (hl2 : p.fo.length ≤ maxLen) : Calls Try.prog 33 #[v] w (ABOut w (detA p) (detC p)) := by
  have HPV : Hid (∀ W, Since w W → Calls Try.prog 63 #[v] W fun e w' => e = .returned (.bool (posB p)) ∧ Since W w') := fun W hW => specPV_any v p W (h.since hW) hl hl2
  have HSB : Hid (∀ W, Since w W → posB p = true → Calls Try.prog 74 #[v, .int .i64 12] W (ABOut W (detA p) (detC p))) := fun W hW hv => by
    have k := specSub_any v p 12 W (h.since hW) hv (by decide) (by decide)
    unfold detA detC detN
    rw [if_pos hv, hv, Bool.true_and]
    exact k
  obtain ⟨a, b, rfl, ha, hb, hi1, hi2⟩ := h
  obtain ⟨ao, ac, rfl, _⟩ := ha.row
  obtain ⟨bo, bc, rfl, _⟩ := hb.row
  clear ha hb hl hl2
  obtain ⟨y, hy⟩ : ∃ y, y = (w.alloc (.cells #[.slice ao p.ls.length ac, .int .i64 p.fi, .int .i64 p.la, .slice bo p.fo.length bc, .bool p.nu] 41)).alloc (.cells #[.int .i64 0, .slice none 0 0, .slice none 0 0] 27) := ⟨_, rfl⟩
  have hs0 : Since w y := by rw [hy]; exact ((Since.refl w).alloc _).alloc _
  have hz : y.heap.size = w.heap.size + 2 := by rw [hy]; simp
  have B0 : Hid (Blk y w.heap.size 41 #[.slice ao p.ls.length ac, .int .i64 p.fi, .int .i64 p.la, .slice bo p.fo.length bc, .bool p.nu]) := by rw [hy]; exact (Blk.new rfl _ _).alloc _
  have B1 : Hid (Blk y (w.heap.size + 1) 27 #[.int .i64 0, .slice none 0 0, .slice none 0 0]) := by rw [hy]; exact Blk.new (by simp) _ _
  have HY := Lib.hid hy
  have HZ := Lib.hid hz
  clear hy hz
  cases e : posB p with
  | false =>
    have HB := Lib.hid e
    have HA : Hid (detA p = ⟨0, [], []⟩) := by unfold Hid detA; rw [if_neg (by rw [e]; decide)]
    have HC : Hid (detC p = false) := by unfold Hid detC; rw [e]; rfl
    rw [HA.out, HC.out]
    clear e
    go_enter Try.func33, Try.ntmps33
    go_upto_region 1 with fail
    rw [← HY.out]
    obtain ⟨⟨p0, p1, p2, p3, p4⟩, _⟩ := B0.out.fiveP
    go_wp2_with fail
    refine (HPV.out _ hs0).mono ?_
    rintro e w1 ⟨rfl, hs1⟩
    rw [HB.out]
    have HS1 := Lib.hid (hs0.trans hs1)
    obtain ⟨⟨r0, r1, r2⟩, r3, r4, r5⟩ := (B1.out.since hs1).threeA
    clear p0 p1 p2 p3 p4
    go_wp2
    refine bodyPost_ret (v := .tuple #[.agg #[.int .i64 0, nilS, nilS], .bool false]) (by simp [results, Try.results33, go_sem, *]) rfl ?_
    refine ⟨_, rfl, ownA_zero _ _ _, ?_⟩
    repeat' (first | exact HS1.out | with_reducible refine Since.setCell ?_ (by simp <;> omega) _)
  | true =>
    have HB := Lib.hid e
    obtain ⟨R, hR⟩ : ∃ R, R = detA p := ⟨_, rfl⟩
    obtain ⟨C, hC⟩ : ∃ C, C = detC p := ⟨_, rfl⟩
    rw [← hR, ← hC] at HSB ⊢
    clear e hR hC
    go_enter Try.func33, Try.ntmps33
    go_upto_region 1 with fail
    rw [← HY.out]
    obtain ⟨⟨p0, p1, p2, p3, p4⟩, _⟩ := B0.out.fiveP
    go_wp2_with fail
    refine (HPV.out _ hs0).mono ?_
    rintro e w1 ⟨rfl, hs1⟩
    rw [HB.out]
    have HS1 := Lib.hid (hs0.trans hs1)
    have C0 := Lib.hid (B0.out.since hs1)
    have C1 := Lib.hid (B1.out.since hs1)
    have hz1 : w.heap.size + 2 ≤ w1.heap.size := by have := hs1.size; have := HZ.out; omega
    clear p0 p1 p2 p3 p4 B0 B1 hs1 hs0
    obtain ⟨⟨p0, p1, p2, p3, p4⟩, _⟩ := C0.out.fiveP
    go_wp2_with fail
    refine (HSB.out _ HS1.out HB.out).mono ?_
    rintro e w2 ⟨v2, rfl, ho2, hs2⟩
    obtain ⟨r2a, r2b, rfl, i2, o2, n2, q2⟩ := ho2
    obtain ⟨so, sc, rfl⟩ := o2.len
    obtain ⟨uo, uc, rfl⟩ := q2.len
    have HO2 : Hid (OwnA _ _ _ _ _) := ⟨_, _, rfl, i2, o2, n2, q2⟩
    have hw2 := hs2.size
    have HS2 := Lib.hid (HS1.out.trans hs2)
    have C2 := Lib.hid (C1.out.since hs2)
    clear p0 p1 p2 p3 p4 i2 o2 n2 q2 hs2
    obtain ⟨y2, hy2⟩ : ∃ y2, y2 = w2.alloc (.cells #[.int .i64 R.st, .slice so R.ac.length sc, .slice uo R.nx.length uc] 27) := ⟨_, rfl⟩
    have hal : Since w2 y2 := by rw [hy2]; exact (Since.refl w2).alloc _
    have hz2 : y2.heap.size = w2.heap.size + 1 := by rw [hy2]; simp
    have D1 : Hid (Blk y2 w2.heap.size 27 #[.int .i64 R.st, .slice so R.ac.length sc, .slice uo R.nx.length uc]) := by rw [hy2]; exact Blk.new rfl _ _
    have D0 := Lib.hid (C2.out.since hal)
    have HS3 := Lib.hid (HS2.out.trans hal)
    have HO3 := Lib.hid (HO2.out.since hal)
    obtain ⟨⟨p0, p1, p2⟩, _⟩ := D1.out.threeA
    obtain ⟨⟨r0, r1, r2⟩, r3, r4, r5⟩ := D0.out.threeA
    rw [hy2] at p0 p1 p2 r0 r1 r2 r3 r4 r5
    clear hal
    go_wp2
    rw [← hy2]
    refine bodyPost_ret (v := .tuple #[.agg #[.int .i64 R.st, .slice so R.ac.length sc, .slice uo R.nx.length uc], .bool C]) (by simp [results, Try.results33, go_sem, *]) rfl ?_
    refine ⟨_, rfl, ?_, ?_⟩
    · refine OwnA.wider (lo := w1.heap.size) (hi := w2.heap.size) ?_ (by omega) (by simp; omega)
      iterate 3 (with_reducible refine OwnA.far1 ?_ (.inl (by omega)) _ _)
      exact HO3.out
    · iterate 3 (with_reducible refine Since.setCell ?_ (by simp <;> omega) _)
      exact HS3.out
end Go.Proofs.Ytcokggjekleabaa
