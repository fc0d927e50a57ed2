/- Steps of the model: l4Edge, StepFrom, StepTo, StepLetter. -/
import Derived.Test.YtilkheclimammaaTof
import Derived.Test.YtilkheclimammaaEi
namespace Go.Proofs.Ytilkheclimammaa
set_option maxRecDepth 100000
open Go.ChangeShapes Go.WideShapes Go.ChangeAt Go.RowKit
set_option linter.unusedVariables false
set_option linter.unusedSimpArgs false

def pickT (e : Edg) (b : Bool) : Trv := bif b then invT e else fwdT e
theorem tOf_cons (e : Edg) (es : List Edg) (s : Stp) : tOf (travL (e :: es)) s = if e.id = s.id then pickT e s.inv else tOf (travL es) s := by
  obtain ⟨i, b⟩ := s
  have h : travL (e :: es) = fwdT e :: invT e :: travL es := rfl
  rw [h]
  by_cases hi : e.id = i
  · rw [if_pos hi]
    cases b
    · unfold tOf
      rw [List.find?_cons_of_pos (by simp [Trv.st, fwdT, hi])]; rfl
    · unfold tOf
      rw [List.find?_cons_of_neg (by simp [Trv.st, fwdT]), List.find?_cons_of_pos (by simp [Trv.st, invT, hi])]; rfl
  · rw [if_neg hi]
    unfold tOf
    rw [List.find?_cons_of_neg (by simp [Trv.st, fwdT, hi]), List.find?_cons_of_neg (by simp [Trv.st, invT, hi])]
theorem tOf_travL (es : List Edg) (s : Stp) (k : Nat) (hk : k < es.length) (h : (es[k]).id = s.id) (hlt : ∀ j (hj : j < k), (es[j]'(by omega)).id ≠ s.id) : tOf (travL es) s = pickT es[k] s.inv := by
  induction es generalizing k with
  | nil => simp at hk
  | cons e es ih =>
    rw [tOf_cons]
    cases k with
    | zero =>
      have h0 : e.id = s.id := h
      rw [if_pos h0]; rfl
    | succ k =>
      have h0 : e.id ≠ s.id := hlt 0 (by omega)
      rw [if_neg h0]
      exact ih k (by simpa using hk) h (fun j hj => hlt (j + 1) (by omega))
theorem tOf_travL_none (es : List Edg) (s : Stp) (h : ∀ j (hj : j < es.length), (es[j]).id ≠ s.id) : tOf (travL es) s = noTrv := by
  induction es with
  | nil => rfl
  | cons e es ih =>
    have h0 : e.id ≠ s.id := h 0 (by simp)
    rw [tOf_cons, if_neg h0]
    exact ih (fun j hj => h (j + 1) (by simp; omega))
theorem tOf_some (g : Grf) (s : Stp) (k : Nat) (hk : k < g.es.length) (hv : validB g = true) (hi : idxE g.es s.id = k) (hlt : ∀ j (hj : j < k), (g.es[j]'(by omega)).id ≠ s.id) : tOf (travG g) s = pickT g.es[k] s.inv := by
  rcases idxE_cases g.es s.id with ⟨k', hk', hi', hid', _⟩ | ⟨hi', _⟩
  · obtain rfl : k' = k := by omega
    unfold travG
    rw [if_pos hv]
    exact tOf_travL _ _ _ hk hid' hlt
  · omega
theorem tOf_noedge (g : Grf) (s : Stp) (hni : ∀ j (hj : j < g.es.length), (g.es[j]).id ≠ s.id) : tOf (travG g) s = noTrv := by
  unfold travG
  split
  · exact tOf_travL_none _ _ hni
  · rfl
theorem tOf_inval (g : Grf) (s : Stp) (hv : validB g = false) : tOf (travG g) s = noTrv := by
  unfold travG
  rw [if_neg (by rw [hv]; decide)]; rfl
theorem tOf_turn (g : Grf) (s : Stp) : (tOf (travG g) ⟨s.id, !s.inv⟩).fr = (tOf (travG g) s).dst := by
  rcases Bool.eq_false_or_eq_true (validB g) with hv | hv
  · rcases idxE_cases g.es s.id with ⟨k, hk, hi, hid, hlt⟩ | ⟨hi, hni⟩
    · rw [tOf_some g s k hk hv hi hlt, tOf_some g ⟨s.id, !s.inv⟩ k hk hv hi hlt]
      cases s.inv <;> rfl
    · rw [tOf_noedge g s hni, tOf_noedge g ⟨s.id, !s.inv⟩ hni]; rfl
  · rw [tOf_inval g s hv, tOf_inval g _ hv]; rfl

set_option maxHeartbeats 1000000 in
set_option maxRecDepth 100000 in
theorem l4_some (v : Value) (g : Grf) (s : Stp) (w : World) (h : GrfAt w v g) (h1 : g.vs.length ≤ 1048577) (h2 : g.es.length ≤ 1048577) (k : Nat) (hk : k < g.es.length) (hv : validB g = true) (hi : idxE g.es s.id = k) :
    Calls Try.prog 111 #[v, sv s] w fun en w' => en = .returned (.tuple #[ev g.es[k], .bool true]) ∧ Since w w' := by
  have HG := Lib.hid h
  obtain ⟨a, b, rfl, ha, hb⟩ := h
  obtain ⟨ao, ac, rfl, _⟩ := ha.row
  obtain ⟨bo, bc, rfl, HE⟩ := hb.row
  clear ha hb
  obtain ⟨n, hn⟩ : ∃ n, n = g.vs.length := ⟨_, rfl⟩
  obtain ⟨m, hm⟩ : ∃ m, m = g.es.length := ⟨_, rfl⟩
  rw [← hn, ← hm] at HG ⊢
  have hm9 : m ≤ 1048577 := by omega
  have HM := Lib.hid hm
  clear hn hm
  unfold sv
  have hs0 : Since w (((w.alloc (.cells #[.slice ao n ac, .slice bo m bc] 27)).alloc (.cells #[.int .i64 s.id, .bool s.inv] 33)).alloc (.cells #[.int .i64 0, .int .i64 0, .int .i64 0, .int .i64 0] 108)) := (((Since.refl w).alloc _).alloc _).alloc _
  have B0 : Hid (Blk (((w.alloc (.cells #[.slice ao n ac, .slice bo m bc] 27)).alloc (.cells #[.int .i64 s.id, .bool s.inv] 33)).alloc (.cells #[.int .i64 0, .int .i64 0, .int .i64 0, .int .i64 0] 108)) w.heap.size 27 #[.slice ao n ac, .slice bo m bc]) := ((Blk.new rfl _ _).alloc _).alloc _
  have R0 : Hid (Blk (((w.alloc (.cells #[.slice ao n ac, .slice bo m bc] 27)).alloc (.cells #[.int .i64 s.id, .bool s.inv] 33)).alloc (.cells #[.int .i64 0, .int .i64 0, .int .i64 0, .int .i64 0] 108)) (w.heap.size + 1 + 1) 108 #[.int .i64 0, .int .i64 0, .int .i64 0, .int .i64 0]) := Blk.new (by simp) _ _
  have HV := Lib.hid hv
  have HI := Lib.hid hi
  clear hv hi
  have hkm : k < m := by have := HM.out; omega
  go_enter Try.func111, Try.ntmps111
  go_wp2_with fail
  refine (specEI_any _ g s.id _ (HG.out.since hs0) h2).mono ?_
  rintro en w1 ⟨rfl, hs1⟩
  have hs01 := hs0.trans hs1
  have b1 := Lib.hid (B0.out.since hs1)
  have r1 := Lib.hid (R0.out.since hs1)
  clear B0 R0
  obtain ⟨p0, p1, _, _⟩ := b1.out.two
  go_wp2_with fail
  refine (specVG_any _ g _ (HG.out.since hs01) h1 h2).mono ?_
  rintro en w2 ⟨rfl, hs2⟩
  clear p0 p1
  have hs02 := hs01.trans hs2
  obtain ⟨p0, p1, _, _⟩ := (b1.out.since hs2).two
  obtain ⟨f0, f1, f2, f3, f4, f5, f6, f7⟩ := (r1.out.since hs2).four
  obtain ⟨be, oe, rfl, hbe, d0, d1, d2, d3⟩ := HE.out k hk
  have c1 := since_cells hs02 hbe
  rw [← c1] at d0 d1 d2 d3
  clear c1
  have ik0 : (0 : Int) ≤ (k : Int) := by omega
  rw [HV.out]
  rw [HI.out]
  go_wp2
  refine bodyPost_ret (v := .tuple #[.agg #[.int .i64 g.es[k].id, .int .i64 g.es[k].fr, .int .i64 g.es[k].to, .int .i64 g.es[k].lb], .bool true]) (by simp [results, Try.results111, go_sem, *]) rfl ⟨rfl, ?_⟩
  iterate 4 (with_reducible refine Since.setCell ?_ (by simp; omega) _)
  exact hs02

set_option maxHeartbeats 1000000 in
set_option maxRecDepth 100000 in
theorem l4_none (v : Value) (g : Grf) (s : Stp) (w : World) (h : GrfAt w v g) (h1 : g.vs.length ≤ 1048577) (h2 : g.es.length ≤ 1048577) (hv : validB g = true) (hi : idxE g.es s.id = -1) :
    Calls Try.prog 111 #[v, sv s] w fun en w' => en = .returned (.tuple #[ev zeroE, .bool false]) ∧ Since w w' := by
  have HG := Lib.hid h
  obtain ⟨a, b, rfl, ha, hb⟩ := h
  obtain ⟨ao, ac, rfl, _⟩ := ha.row
  obtain ⟨bo, bc, rfl, HE⟩ := hb.row
  clear ha hb
  obtain ⟨n, hn⟩ : ∃ n, n = g.vs.length := ⟨_, rfl⟩
  obtain ⟨m, hm⟩ : ∃ m, m = g.es.length := ⟨_, rfl⟩
  rw [← hn, ← hm] at HG ⊢
  have hm9 : m ≤ 1048577 := by omega
  have HM := Lib.hid hm
  clear hn hm
  unfold sv
  have hs0 : Since w (((w.alloc (.cells #[.slice ao n ac, .slice bo m bc] 27)).alloc (.cells #[.int .i64 s.id, .bool s.inv] 33)).alloc (.cells #[.int .i64 0, .int .i64 0, .int .i64 0, .int .i64 0] 108)) := (((Since.refl w).alloc _).alloc _).alloc _
  have B0 : Hid (Blk (((w.alloc (.cells #[.slice ao n ac, .slice bo m bc] 27)).alloc (.cells #[.int .i64 s.id, .bool s.inv] 33)).alloc (.cells #[.int .i64 0, .int .i64 0, .int .i64 0, .int .i64 0] 108)) w.heap.size 27 #[.slice ao n ac, .slice bo m bc]) := ((Blk.new rfl _ _).alloc _).alloc _
  have R0 : Hid (Blk (((w.alloc (.cells #[.slice ao n ac, .slice bo m bc] 27)).alloc (.cells #[.int .i64 s.id, .bool s.inv] 33)).alloc (.cells #[.int .i64 0, .int .i64 0, .int .i64 0, .int .i64 0] 108)) (w.heap.size + 1 + 1) 108 #[.int .i64 0, .int .i64 0, .int .i64 0, .int .i64 0]) := Blk.new (by simp) _ _
  have HV := Lib.hid hv
  have HI := Lib.hid hi
  clear hv hi
  go_enter Try.func111, Try.ntmps111
  go_wp2_with fail
  refine (specEI_any _ g s.id _ (HG.out.since hs0) h2).mono ?_
  rintro en w1 ⟨rfl, hs1⟩
  have hs01 := hs0.trans hs1
  have b1 := Lib.hid (B0.out.since hs1)
  have r1 := Lib.hid (R0.out.since hs1)
  clear B0 R0
  obtain ⟨p0, p1, _, _⟩ := b1.out.two
  go_wp2_with fail
  refine (specVG_any _ g _ (HG.out.since hs01) h1 h2).mono ?_
  rintro en w2 ⟨rfl, hs2⟩
  clear p0 p1
  have hs02 := hs01.trans hs2
  obtain ⟨p0, p1, _, _⟩ := (b1.out.since hs2).two
  obtain ⟨f0, f1, f2, f3, f4, f5, f6, f7⟩ := (r1.out.since hs2).four
  rw [HV.out]
  rw [HI.out]
  go_wp2
  refine bodyPost_ret (v := .tuple #[.agg #[.int .i64 0, .int .i64 0, .int .i64 0, .int .i64 0], .bool false]) (by simp [results, Try.results111, go_sem, *]) rfl ⟨rfl, ?_⟩
  iterate 4 (with_reducible refine Since.setCell ?_ (by simp; omega) _)
  exact hs02

set_option maxHeartbeats 1000000 in
set_option maxRecDepth 100000 in
theorem l4_inval (v : Value) (g : Grf) (s : Stp) (w : World) (h : GrfAt w v g) (h1 : g.vs.length ≤ 1048577) (h2 : g.es.length ≤ 1048577) (hv : validB g = false) :
    Calls Try.prog 111 #[v, sv s] w fun en w' => en = .returned (.tuple #[ev zeroE, .bool false]) ∧ Since w w' := by
  have HG := Lib.hid h
  obtain ⟨a, b, rfl, ha, hb⟩ := h
  obtain ⟨ao, ac, rfl, _⟩ := ha.row
  obtain ⟨bo, bc, rfl, HE⟩ := hb.row
  clear ha hb
  obtain ⟨n, hn⟩ : ∃ n, n = g.vs.length := ⟨_, rfl⟩
  obtain ⟨m, hm⟩ : ∃ m, m = g.es.length := ⟨_, rfl⟩
  rw [← hn, ← hm] at HG ⊢
  have hm9 : m ≤ 1048577 := by omega
  have HM := Lib.hid hm
  clear hn hm
  unfold sv
  have hs0 : Since w (((w.alloc (.cells #[.slice ao n ac, .slice bo m bc] 27)).alloc (.cells #[.int .i64 s.id, .bool s.inv] 33)).alloc (.cells #[.int .i64 0, .int .i64 0, .int .i64 0, .int .i64 0] 108)) := (((Since.refl w).alloc _).alloc _).alloc _
  have B0 : Hid (Blk (((w.alloc (.cells #[.slice ao n ac, .slice bo m bc] 27)).alloc (.cells #[.int .i64 s.id, .bool s.inv] 33)).alloc (.cells #[.int .i64 0, .int .i64 0, .int .i64 0, .int .i64 0] 108)) w.heap.size 27 #[.slice ao n ac, .slice bo m bc]) := ((Blk.new rfl _ _).alloc _).alloc _
  have R0 : Hid (Blk (((w.alloc (.cells #[.slice ao n ac, .slice bo m bc] 27)).alloc (.cells #[.int .i64 s.id, .bool s.inv] 33)).alloc (.cells #[.int .i64 0, .int .i64 0, .int .i64 0, .int .i64 0] 108)) (w.heap.size + 1 + 1) 108 #[.int .i64 0, .int .i64 0, .int .i64 0, .int .i64 0]) := Blk.new (by simp) _ _
  have HV := Lib.hid hv
  clear hv
  go_enter Try.func111, Try.ntmps111
  go_wp2_with fail
  refine (specEI_any _ g s.id _ (HG.out.since hs0) h2).mono ?_
  rintro en w1 ⟨rfl, hs1⟩
  have hs01 := hs0.trans hs1
  have b1 := Lib.hid (B0.out.since hs1)
  have r1 := Lib.hid (R0.out.since hs1)
  clear B0 R0
  obtain ⟨p0, p1, _, _⟩ := b1.out.two
  go_wp2_with fail
  refine (specVG_any _ g _ (HG.out.since hs01) h1 h2).mono ?_
  rintro en w2 ⟨rfl, hs2⟩
  clear p0 p1
  have hs02 := hs01.trans hs2
  obtain ⟨p0, p1, _, _⟩ := (b1.out.since hs2).two
  obtain ⟨f0, f1, f2, f3, f4, f5, f6, f7⟩ := (r1.out.since hs2).four
  rw [HV.out]
  go_wp2
  refine bodyPost_ret (v := .tuple #[.agg #[.int .i64 0, .int .i64 0, .int .i64 0, .int .i64 0], .bool false]) (by simp [results, Try.results111, go_sem, *]) rfl ⟨rfl, ?_⟩
  iterate 4 (with_reducible refine Since.setCell ?_ (by simp; omega) _)
  exact hs02

set_option maxHeartbeats 1000000 in
set_option maxRecDepth 100000 in
theorem specLtr_any (v : Value) (g : Grf) (s : Stp) (w : World) (h : GrfAt w v g) (h1 : g.vs.length ≤ 1048577) (h2 : g.es.length ≤ 1048577) :
    Calls Try.prog 82 #[v, sv s] w fun en w' => en = .returned (.int .i64 (tOf (travG g) s).le) ∧ Since w w' := by
  have HG := Lib.hid h
  obtain ⟨a, b, rfl, ha, hb⟩ := h
  obtain ⟨ao, ac, rfl, _⟩ := ha.row
  obtain ⟨bo, bc, rfl⟩ := hb.len
  clear ha hb
  have hs0 : Since w ((w.alloc (.cells #[.slice ao g.vs.length ac, .slice bo g.es.length bc] 27)).alloc (.cells #[.int .i64 s.id, .bool s.inv] 33)) := ((Since.refl w).alloc _).alloc _
  have S0 : Hid (Blk ((w.alloc (.cells #[.slice ao g.vs.length ac, .slice bo g.es.length bc] 27)).alloc (.cells #[.int .i64 s.id, .bool s.inv] 33)) (w.heap.size + 1) 33 #[.int .i64 s.id, .bool s.inv]) := Blk.new (by simp) _ _
  rcases Bool.eq_false_or_eq_true (validB g) with hv | hv
  · rcases idxE_cases g.es s.id with ⟨k, hk, hi, hid, hlt⟩ | ⟨hi, hni⟩
    · skip
      have HC := Lib.hid (fun W (hu : GrfAt W (.agg #[.slice ao g.vs.length ac, .slice bo g.es.length bc]) g) => l4_some _ g s W hu h1 h2 k hk hv hi)
      have HV := Lib.hid (tOf_some g s k hk hv hi hlt)
      have HLB := Lib.hid ((((validB_iff g).1 hv).2.2.1 g.es[k] (List.getElem_mem hk)).2.2.2)
      have hlb0 := HLB.out.1
      have hlb2 := HLB.out.2
      clear hv hi hid hlt
      generalize g.es[k] = e at HC HV hlb0 hlb2
      clear HLB
      unfold sv ev at HC
      unfold sv
      cases hinv : s.inv
      all_goals
        have HIN := Lib.hid hinv
        rw [hinv] at HV
        rw [hinv] at HC S0 hs0
        clear hinv
        go_enter Try.func82, Try.ntmps82
        go_wp2_with fail
        refine (HC.out _ (HG.out.since hs0)).mono ?_
        rintro en w1 ⟨rfl, hs1⟩
        obtain ⟨p0, p1, _, _⟩ := ((S0.out.since hs1).alloc (.cells #[.int .i64 e.id, .int .i64 e.fr, .int .i64 e.to, .int .i64 e.lb] 108)).two
        have hs := (hs0.trans hs1).alloc (.cells #[.int .i64 e.id, .int .i64 e.fr, .int .i64 e.to, .int .i64 e.lb] 108)
        go_wp2
        go_ret
        exact ⟨ret_int (by rw [HV.out]; rfl), hs⟩
    · skip
      have HC := Lib.hid (fun W (hu : GrfAt W (.agg #[.slice ao g.vs.length ac, .slice bo g.es.length bc]) g) => l4_none _ g s W hu h1 h2 hv hi)
      have HV := Lib.hid (tOf_noedge g s hni)
      clear hv
      unfold sv ev zeroE at HC
      unfold sv
      go_enter Try.func82, Try.ntmps82
      go_wp2_with fail
      refine (HC.out _ (HG.out.since hs0)).mono ?_
      rintro en w1 ⟨rfl, hs1⟩
      have hs := (hs0.trans hs1).alloc (.cells #[.int .i64 0, .int .i64 0, .int .i64 0, .int .i64 0] 108)
      go_wp2
      go_ret
      exact ⟨ret_int (by rw [HV.out]; rfl), hs⟩
  · skip
    have HC := Lib.hid (fun W (hu : GrfAt W (.agg #[.slice ao g.vs.length ac, .slice bo g.es.length bc]) g) => l4_inval _ g s W hu h1 h2 hv)
    have HV := Lib.hid (tOf_inval g s hv)
    clear hv
    unfold sv ev zeroE at HC
    unfold sv
    go_enter Try.func82, Try.ntmps82
    go_wp2_with fail
    refine (HC.out _ (HG.out.since hs0)).mono ?_
    rintro en w1 ⟨rfl, hs1⟩
    have hs := (hs0.trans hs1).alloc (.cells #[.int .i64 0, .int .i64 0, .int .i64 0, .int .i64 0] 108)
    go_wp2
    go_ret
    exact ⟨ret_int (by rw [HV.out]; rfl), hs⟩

theorem toStep_any (s : Stp) (w : World) : Calls Try.prog 106 #[sv s] w fun en w' => en = .returned (sv s) ∧ Since w w' := by
  unfold sv
  go_enter Try.func106, Try.ntmps106
  go_wp2
  exact bodyPost_ret (v := .agg #[.int .i64 s.id, .bool s.inv]) (by simp [results, Try.results106, go_sem]) rfl ⟨rfl, (((Since.refl w).alloc _).alloc _).alloc _⟩
end Go.Proofs.Ytilkheclimammaa
