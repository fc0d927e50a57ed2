/- EqualGraphs, the model's and the program's: what they answer. -/
import Derived.Test.YtgdeiecbkmhbeaaEqG
namespace Go.Proofs.Ytgdeiecbkmhbeaa
set_option maxRecDepth 100000
open Go.ChangeShapes Go.WideShapes Go.ChangeAt Go.RowKit
set_option linter.unusedVariables false
set_option linter.unusedSimpArgs false

theorem lexC_zero {xs ys : List Int} (h : lexC xs ys = 0) : xs = ys := by
  induction xs generalizing ys with
  | nil => cases ys with
    | nil => rfl
    | cons y ys => simp [lexC] at h
  | cons x xs ih => cases ys with
    | nil => simp [lexC] at h
    | cons y ys =>
      unfold lexC at h
      by_cases h1 : x < y
      · rw [if_pos h1] at h; omega
      · by_cases h2 : y < x
        · rw [if_neg h1, if_pos h2] at h; omega
        · rw [if_neg h1, if_neg h2] at h
          have : x = y := by omega
          rw [this, ih h]
theorem eqG_split (g h : Grf) (e1 : g.vs = h.vs) : decide (g = h) = decide (g.es = h.es) := by
  by_cases e2 : g.es = h.es
  · rw [decide_eq_true e2, decide_eq_true ((Grf.eq_iff g h).2 ⟨e1, e2⟩)]
  · rw [decide_eq_false e2, decide_eq_false (fun e => e2 (by rw [e]))]

set_option maxRecDepth 100000 in
theorem implEQ_any (a b : Value) (g h : Grf) (w : World) (ha : GrfAt w a g) (hb : GrfAt w b h) (g1 : g.vs.length ≤ 1152921504606846976) (g2 : g.es.length ≤ 1152921504606846976) (h1 : h.vs.length ≤ 1152921504606846976) (h2 : h.es.length ≤ 1152921504606846976) :
    Calls Try.prog 22 #[a, b] w fun e w' => e = .returned (.bool (decide (g = h))) ∧ Since w w' := by
  obtain ⟨a1, a2, rfl, ha1, ha2⟩ := ha
  obtain ⟨b1, b2, rfl, hb1, hb2⟩ := hb
  have HA1 := Lib.hid ha1
  have HA2 := Lib.hid ha2
  have HB1 := Lib.hid hb1
  have HB2 := Lib.hid hb2
  clear ha1 ha2 hb1 hb2
  obtain ⟨ao1, ac1, rfl, _⟩ := HA1.out.row
  obtain ⟨ao2, ac2, rfl⟩ := HA2.out.len
  obtain ⟨bo1, bc1, rfl, _⟩ := HB1.out.row
  obtain ⟨bo2, bc2, rfl⟩ := HB2.out.len
  have hs0 : Since w ((w.alloc (.cells #[.slice ao1 g.vs.length ac1, .slice ao2 g.es.length ac2] 39)).alloc (.cells #[.slice bo1 h.vs.length bc1, .slice bo2 h.es.length bc2] 39)) := ((Since.refl w).alloc _).alloc _
  have B0 : Hid (Blk ((w.alloc (.cells #[.slice ao1 g.vs.length ac1, .slice ao2 g.es.length ac2] 39)).alloc (.cells #[.slice bo1 h.vs.length bc1, .slice bo2 h.es.length bc2] 39)) w.heap.size 39 #[.slice ao1 g.vs.length ac1, .slice ao2 g.es.length ac2]) := (Blk.new rfl _ _).alloc _
  have B1 : Hid (Blk ((w.alloc (.cells #[.slice ao1 g.vs.length ac1, .slice ao2 g.es.length ac2] 39)).alloc (.cells #[.slice bo1 h.vs.length bc1, .slice bo2 h.es.length bc2] 39)) (w.heap.size + 1) 39 #[.slice bo1 h.vs.length bc1, .slice bo2 h.es.length bc2]) := Blk.new (by simp) _ _
  by_cases e1 : g.vs = h.vs
  · have HE := Lib.hid (show decide (g.vs = h.vs) = true from decide_eq_true e1)
    have HD := Lib.hid (eqG_split g h e1)
    clear e1
    go_enter Try.func22, Try.ntmps22
    go_wp2_with fail
    refine (slicesEqual_ints _ _ g.vs h.vs _ (HA1.out.since hs0) (HB1.out.since hs0) g1 h1).mono ?_
    rintro e w1 ⟨rfl, hs1⟩
    rw [HE.out]
    obtain ⟨p0, p1, _, _⟩ := (B0.out.since hs1).two
    obtain ⟨q0, q1, _, _⟩ := (B1.out.since hs1).two
    have hs01 := hs0.trans hs1
    go_wp2_with fail
    refine (slicesEqual_edges _ _ g.es h.es _ (HA2.out.since hs01) (HB2.out.since hs01) g2 h2).mono ?_
    rintro e w2 ⟨rfl, hs2⟩
    have hs02 := hs01.trans hs2
    go_wp2
    go_ret
    exact ⟨ret_bool HD.out.symm, hs02⟩
  · have HE := Lib.hid (show decide (g.vs = h.vs) = false from decide_eq_false e1)
    have HD := Lib.hid (show decide (g = h) = false from decide_eq_false (fun e => e1 (by rw [e])))
    clear e1
    go_enter Try.func22, Try.ntmps22
    go_wp2_with fail
    refine (slicesEqual_ints _ _ g.vs h.vs _ (HA1.out.since hs0) (HB1.out.since hs0) g1 h1).mono ?_
    rintro e w1 ⟨rfl, hs1⟩
    rw [HE.out]
    have hs01 := hs0.trans hs1
    go_wp2
    go_ret
    exact ⟨ret_bool HD.out.symm, hs01⟩

set_option maxHeartbeats 800000 in
set_option maxRecDepth 100000 in
theorem specEQ_any (a b : Value) (g h : Grf) (w : World) (ha : GrfAt w a g) (hb : GrfAt w b h) (g1 : g.vs.length ≤ 1152921504606846976) (g2 : g.es.length ≤ 1152921504606846976) (h1 : h.vs.length ≤ 1152921504606846976) (h2 : h.es.length ≤ 1152921504606846976) :
    Calls Try.prog 27 #[a, b] w fun e w' => e = .returned (.bool (decide (g = h))) ∧ Since w w' := by
  obtain ⟨a1, a2, rfl, ha1, ha2⟩ := ha
  obtain ⟨b1, b2, rfl, hb1, hb2⟩ := hb
  have HA1 := Lib.hid ha1
  have HB1 := Lib.hid hb1
  obtain ⟨ao1, ac1, rfl, _⟩ := HA1.out.row
  obtain ⟨ao2, ac2, rfl, HC1⟩ := ha2.row
  obtain ⟨bo1, bc1, rfl, _⟩ := HB1.out.row
  obtain ⟨bo2, bc2, rfl, HC2⟩ := hb2.row
  clear ha1 ha2 hb1 hb2
  have hge := guard_edge
  obtain ⟨n, hn⟩ : ∃ n, n = g.es.length := ⟨_, rfl⟩
  obtain ⟨m, hm⟩ : ∃ m, m = h.es.length := ⟨_, rfl⟩
  rw [← hn, ← hm]
  have hn9 : n ≤ 1152921504606846976 := by omega
  have hm9 : m ≤ 1152921504606846976 := by omega
  have HN := Lib.hid hn
  have HM := Lib.hid hm
  clear hn hm g2 h2
  have hs0 : Since w ((w.alloc (.cells #[.slice ao1 g.vs.length ac1, .slice ao2 n ac2] 39)).alloc (.cells #[.slice bo1 h.vs.length bc1, .slice bo2 m bc2] 39)) := ((Since.refl w).alloc _).alloc _
  have B0 : Hid (Blk ((w.alloc (.cells #[.slice ao1 g.vs.length ac1, .slice ao2 n ac2] 39)).alloc (.cells #[.slice bo1 h.vs.length bc1, .slice bo2 m bc2] 39)) w.heap.size 39 #[.slice ao1 g.vs.length ac1, .slice ao2 n ac2]) := (Blk.new rfl _ _).alloc _
  have B1 : Hid (Blk ((w.alloc (.cells #[.slice ao1 g.vs.length ac1, .slice ao2 n ac2] 39)).alloc (.cells #[.slice bo1 h.vs.length bc1, .slice bo2 m bc2] 39)) (w.heap.size + 1) 39 #[.slice bo1 h.vs.length bc1, .slice bo2 m bc2]) := Blk.new (by simp) _ _
  by_cases e1 : g.vs = h.vs
  · have HE := Lib.hid (show lexC g.vs h.vs = 0 by rw [e1]; exact lexC_self _)
    have HD := Lib.hid (eqG_split g h e1)
    clear e1
    by_cases hnm : n = m
    · have HNM := Lib.hid hnm
      have hbn : ((n : Int) != (m : Int)) = false := by subst hnm; simp
      have hnle : n ≤ m := by omega
      clear hnm
      go_enter Try.func27, Try.ntmps27
      go_wp2_with fail
      refine (l2Cmp_any _ _ g.vs h.vs _ (HA1.out.since hs0) (HB1.out.since hs0) (by omega) (by omega)).mono ?_
      rintro e w1 ⟨rfl, hs1⟩
      rw [HE.out]
      have hs01 := hs0.trans hs1
      have b0 := Lib.hid (B0.out.since hs1)
      have b1 := Lib.hid (B1.out.since hs1)
      obtain ⟨p0, p1, _, _⟩ := b0.out.two
      obtain ⟨q0, q1, _, _⟩ := b1.out.two
      go_wp2_with fail
      clear p0 p1 q0 q1
      go_loopw [5] (fun i wr => ∃ k : Nat, k ≤ n ∧ i = .int .i64 k ∧ Hid (g.es.take k = h.es.take k) ∧ Hid (Since w1 wr)) (fun i _ => n - (intOf i).toNat)
      case atStart => exact ⟨0, Nat.zero_le _, rfl, rfl, Since.refl _⟩
      case round =>
        obtain ⟨k, hk, rfl, HT, HS⟩ := hrel
        obtain ⟨p0, p1, _, _⟩ := (b0.out.since HS.out).two
        obtain ⟨q0, q1, _, _⟩ := (b1.out.since HS.out).two
        by_cases hlt : k < n
        · have hx : k < g.es.length := by have := HN.out; omega
          have hy : k < h.es.length := by have := HM.out; omega
          obtain ⟨x1, off1, rfl, hx1, c10, c11, c12, c13⟩ := HC1.out k hx
          obtain ⟨x2, off2, rfl, hx2, c20, c21, c22, c23⟩ := HC2.out k hy
          have s1 := since_cells (hs01.trans HS.out) hx1
          have s2 := since_cells (hs01.trans HS.out) hx2
          rw [← s1] at c10 c11 c12 c13
          rw [← s2] at c20 c21 c22 c23
          clear s1 s2
          have hki : (k : Int) < (n : Int) := by omega
          have hkm : (k : Int) < (m : Int) := by omega
          have hk0 : (0 : Int) ≤ (k : Int) := by omega
          by_cases he : g.es[k] = h.es[k]
          · have HX := Lib.hid (take_eq_stepE k hx hy HT.out he)
            have hnq : ∀ W : World, (binOp .neq 93 (ev g.es[k]) (ev h.es[k])).run Try.prog W = .ok (.bool false) W := fun W => by rw [neq_edge, decide_eq_true he]; rfl
            unfold ev at hnq
            clear he
            go_wp2_with fail
            go_quiet (fail)
            go_wp2
            go_roundw
            case rel => exact ⟨k + 1, by omega, by go_num, HX, HS.out.drewN _⟩
            case measure => simp [intOf]; omega
          · have HX := Lib.hid (show decide (g.es = h.es) = false from decide_eq_false (ne_of_atE k hx hy he))
            have hnq : ∀ W : World, (binOp .neq 93 (ev g.es[k]) (ev h.es[k])).run Try.prog W = .ok (.bool true) W := fun W => by rw [neq_edge, decide_eq_false he]; rfl
            unfold ev at hnq
            clear he
            go_wp2_with fail
            go_quiet (fail)
            go_wp2
            go_ret
            exact ⟨ret_bool (by rw [HD.out, HX.out]), hs01.trans (HS.out.drewN _)⟩
        · obtain rfl : k = n := by omega
          have HX : Hid (decide (g.es = h.es) = true) := by
            have := HT.out
            rw [List.take_of_length_le (by have := HN.out; omega), List.take_of_length_le (by have := HM.out; have := HNM.out; omega)] at this
            unfold Hid; simpa using this
          go_wp2
          go_ret
          exact ⟨ret_bool (by rw [HD.out, HX.out]), hs01.trans HS.out⟩
    · have HX : Hid (decide (g.es = h.es) = false) := by
        unfold Hid; simp; intro e; apply hnm; rw [HN.out, HM.out, e]
      have hbn : ((n : Int) != (m : Int)) = true := by simp; omega
      clear hnm
      go_enter Try.func27, Try.ntmps27
      go_wp2_with fail
      refine (l2Cmp_any _ _ g.vs h.vs _ (HA1.out.since hs0) (HB1.out.since hs0) (by omega) (by omega)).mono ?_
      rintro e w1 ⟨rfl, hs1⟩
      rw [HE.out]
      have hs01 := hs0.trans hs1
      obtain ⟨p0, p1, _, _⟩ := (B0.out.since hs1).two
      obtain ⟨q0, q1, _, _⟩ := (B1.out.since hs1).two
      go_wp2
      go_ret
      exact ⟨ret_bool (by rw [HD.out, HX.out]), hs01⟩
  · have HE : (lexC g.vs h.vs != 0) = true := by simp; intro e; exact e1 (lexC_zero e)
    have HD := Lib.hid (show decide (g = h) = false from decide_eq_false (fun e => e1 (by rw [e])))
    clear e1
    go_enter Try.func27, Try.ntmps27
    go_wp2_with fail
    refine (l2Cmp_any _ _ g.vs h.vs _ (HA1.out.since hs0) (HB1.out.since hs0) (by omega) (by omega)).mono ?_
    rintro e w1 ⟨rfl, hs1⟩
    have hs01 := hs0.trans hs1
    go_wp2
    go_ret
    exact ⟨ret_bool HD.out.symm, hs01⟩
end Go.Proofs.Ytgdeiecbkmhbeaa
