/- The program's IsTrail and IsSimplePath. -/
import Derived.Test.YtilkheclimammaaWe
import Derived.Test.YtilkheclimammaaDis
import Derived.Test.YtilkheclimammaaCopyI
namespace Go.Proofs.Ytilkheclimammaa
set_option maxRecDepth 100000
open Go.ChangeShapes Go.WideShapes Go.ChangeAt Go.RowKit
set_option linter.unusedVariables false
set_option linter.unusedSimpArgs false

theorem isDistinct_any (v : Value) (xs : List Int) (w : World) (h : IntsAt w v xs) (hl : xs.length ≤ 1048577) :
    Calls Try.prog 83 #[v] w fun e w' => e = .returned (.bool (decide xs.Nodup)) ∧ Since w w' := by
  have HA := Lib.hid h
  obtain ⟨ao, ac, rfl, _⟩ := h.row
  clear h
  have HD := Lib.hid (sorted_distinct xs)
  go_enter Try.func83, Try.ntmps83
  go_wp2_with fail
  refine (copiedI_any _ xs _ HA.out hl).mono ?_
  rintro e w1 ⟨v1, rfl, ho1, hs1⟩
  have HO1 : Hid (Own w.heap.size w1 v1 xs) := ho1
  clear ho1
  go_wp2_with fail
  refine (sort_any w.heap.size _ xs _ HO1.out (by omega)).mono ?_
  rintro e w2 ⟨rfl, ho2, hg2⟩
  have hs2 := hs1.grown hg2 (fun j hj => (HO1.out.2.lt j hj).1)
  have HO2 := Lib.hid ho2
  have hl2 : (xs.mergeSort fun x y => decide (x ≤ y)).length ≤ 4194304 := by rw [List.length_mergeSort]; omega
  clear ho2 hg2
  go_wp2_with fail
  refine (compact_any w.heap.size _ _ _ HO2.out hl2).mono ?_
  rintro e w3 ⟨v3, rfl, ho3, hb3⟩
  have hs3 : Since w w3 := ⟨hb3.os.trans hs2.os, hb3.tape.trans hs2.tape, hb3.output.trans hs2.output, Nat.le_trans hs2.size hb3.size, fun j hj => (hb3.block j hj).trans (hs2.block j hj)⟩
  obtain ⟨o3, c3, rfl⟩ := ho3.len
  clear ho3 hb3
  go_wp2
  go_ret
  refine ⟨ret_bool ?_, hs3⟩
  rw [← HD.out]
  rw [Bool.eq_iff_iff]; simp
set_option maxHeartbeats 1000000 in
set_option maxRecDepth 100000 in
theorem implIT_any (v u : Value) (g : Grf) (x : Wlk) (w : World) (h : GrfAt w v g) (hu : WlkAt w u x) (h1 : g.vs.length ≤ 1048577) (h2 : g.es.length ≤ 1048577) (h3 : x.ss.length ≤ 1048577) :
    Calls Try.prog 46 #[v, u] w fun e w' => e = .returned (.bool (trailW g x)) ∧ Since w w' := by
  have HG := Lib.hid h
  have HU := Lib.hid hu
  obtain ⟨a, b, rfl, ha, hb⟩ := h
  obtain ⟨ao, ac, rfl, _⟩ := ha.row
  obtain ⟨bo, bc, rfl⟩ := hb.len
  obtain ⟨so, rfl, hss⟩ := hu
  obtain ⟨sao, sac, rfl, _⟩ := hss
  clear ha hb
  have hs0 : Since w ((w.alloc (.cells #[.slice ao g.vs.length ac, .slice bo g.es.length bc] 27)).alloc (.cells #[.int .i64 x.st, .slice sao x.ss.length sac] 53)) := ((Since.refl w).alloc _).alloc _
  have BG : Hid (Blk ((w.alloc (.cells #[.slice ao g.vs.length ac, .slice bo g.es.length bc] 27)).alloc (.cells #[.int .i64 x.st, .slice sao x.ss.length sac] 53)) w.heap.size 27 #[.slice ao g.vs.length ac, .slice bo g.es.length bc]) := (Blk.new rfl _ _).alloc _
  have BW : Hid (Blk ((w.alloc (.cells #[.slice ao g.vs.length ac, .slice bo g.es.length bc] 27)).alloc (.cells #[.int .i64 x.st, .slice sao x.ss.length sac] 53)) (w.heap.size + 1) 53 #[.int .i64 x.st, .slice sao x.ss.length sac]) := Blk.new (by simp) _ _
  have HFL := Lib.hid (fun V U W (k1 : GrfAt W V g) (k2 : WlkAt W U x) => follow_any V U g x W k1 k2 h1 h2 h3)
  obtain ⟨ts, hts⟩ : ∃ ts, ts = (folG g x).getD [] := ⟨_, rfl⟩
  obtain ⟨c, hc⟩ : ∃ c, c = (folG g x).isSome := ⟨_, rfl⟩
  have HTR : Hid (trailW g x = (c && decide (ts.map Trv.id).Nodup)) := by
    unfold Hid trailW validW
    rw [hc]
    cases hf : folG g x with
    | none => rfl
    | some us =>
      rw [hts, hf]
      have e := fol_st (folG_some hf).2.2.2
      unfold edgesW
      rw [← e, List.map_map]; rfl
  have HL9 : ts.length ≤ 60 := by
    cases hf : folG g x with
    | none => rw [hts, hf]; simp
    | some us => rw [hts, hf]; exact (folG_len hf).2
  have HIN : Hid (∀ t ∈ ts, InI t.id) := by
    cases hf : folG g x with
    | none => rw [hts, hf]; intro t ht; simp at ht
    | some us => rw [hts, hf]; exact fun t ht => ((fol_ini hf).2 t ht).2.2
  rw [HTR.out]
  clear HTR
  unfold FolOut at HFL
  rw [← hts, ← hc] at HFL
  clear hts hc
  go_enter Try.func46, Try.ntmps46
  go_wp2_with fail
  refine (HFL.out _ _ _ (HG.out.since hs0) (HU.out.since hs0)).mono ?_
  rintro en w1 ⟨b1, rfl, ho1, hs1⟩
  have hs01 := hs0.trans hs1
  have hnil : Own w1.heap.size w1 (.slice none 0 0) [] := ⟨fun z hz => by simp at hz, World.ownsRow_nil _ _ _ _⟩
  obtain ⟨xo, xc, rfl, HX⟩ := ho1.at
  obtain ⟨q, hq⟩ : ∃ q, q = ts.length := ⟨_, rfl⟩
  rw [← hq]
  have HQ := Lib.hid hq
  have hq9 : q ≤ 60 := by omega
  clear ho1 hq HL9
  go_wp2_with fail
  go_loopw [7, 18] (fun out i wr => ∃ k : Nat, k ≤ q ∧ i = .int .i64 k ∧ Hid (Own w1.heap.size wr out ((ts.take k).map Trv.id)) ∧ Since w1 wr) (fun _ i _ => q - (intOf i).toNat)
  case atStart => exact ⟨0, Nat.zero_le _, rfl, hnil, Since.refl _⟩
  case round =>
    obtain ⟨k, hk, rfl, HOw, hsw⟩ := hrel
    by_cases hlt : k < q
    · have hx : k < ts.length := by have := HQ.out; omega
      obtain ⟨be, oe, rfl, hbe, d0, d1, d2, d3, d4⟩ := HX.out k hx
      have s1 := since_cells hsw hbe
      rw [← s1] at d0 d1 d2 d3 d4
      clear s1
      have HT := Lib.hid (map_take Trv.id ts k hx)
      have hzin : InI (ts[k]).id := HIN.out _ (List.getElem_mem hx)
      have hsx := hsw.alloc (.cells #[.int .i64 ts[k].id, .bool ts[k].inv, .int .i64 ts[k].fr, .int .i64 ts[k].dst, .int .i64 ts[k].le] 77)
      have HOx := Lib.hid (HOw.out.since ((Since.refl wr).alloc (.cells #[.int .i64 ts[k].id, .bool ts[k].inv, .int .i64 ts[k].fr, .int .i64 ts[k].dst, .int .i64 ts[k].le] 77)))
      have HZL : Hid (((ts.take k).map Trv.id).length ≤ 4194304) := by unfold Hid; simp; omega
      go_wp2_with (at_builtin; go_must (refine wpList_append_int rfl (.tmp 22) (.tmp 26) rfl _ ((ts.take k).map Trv.id) (by first | rfl | simp [Act.eval]) HOx.out ts[k].id (by first | rfl | simp [Act.eval]) hzin HZL.out hsx ?_); intro v2 w2 ho2 hs2; have HO2 := Lib.hid ho2; clear ho2)
      go_roundw
      case rel => exact ⟨k + 1, by omega, by go_num, (by rw [HT.out]; exact HO2.out), hs2⟩
      case measure => simp [intOf]; omega
    · obtain rfl : k = q := by omega
      have HO : Hid (Own w1.heap.size wr u7 (ts.map Trv.id)) := by
        have := HOw.out
        rw [List.take_of_length_le (by have := HQ.out; omega)] at this
        exact this
      clear HOw
      have hml : (ts.map Trv.id).length ≤ 1048577 := by rw [List.length_map]; have := HQ.out; omega
      have hs0w := hs01.trans hsw
      cases c
      · go_wp2
        go_ret
        exact ⟨rfl, hs0w⟩
      · go_wp2_with fail
        refine (isDistinct_any _ _ _ HO.out.at hml).mono ?_
        rintro en w3 ⟨rfl, hs3⟩
        have hs03 := hs0w.trans hs3
        go_wp2
        go_ret
        exact ⟨rfl, hs03⟩
set_option maxRecDepth 100000 in
theorem implSP_any (v u : Value) (g : Grf) (x : Wlk) (w : World) (h : GrfAt w v g) (hu : WlkAt w u x) (h1 : g.vs.length ≤ 1048577) (h2 : g.es.length ≤ 1048577) (h3 : x.ss.length ≤ 1048577) :
    Calls Try.prog 48 #[v, u] w fun e w' => e = .returned (.bool (simpleW g x)) ∧ Since w w' := by
  have HG := Lib.hid h
  have HU := Lib.hid hu
  obtain ⟨a, b, rfl, ha, hb⟩ := h
  obtain ⟨ao, ac, rfl, _⟩ := ha.row
  obtain ⟨bo, bc, rfl⟩ := hb.len
  obtain ⟨so, rfl, hss⟩ := hu
  obtain ⟨sao, sac, rfl, _⟩ := hss
  clear ha hb
  have hs0 : Since w ((w.alloc (.cells #[.slice ao g.vs.length ac, .slice bo g.es.length bc] 27)).alloc (.cells #[.int .i64 x.st, .slice sao x.ss.length sac] 53)) := ((Since.refl w).alloc _).alloc _
  have BG : Hid (Blk ((w.alloc (.cells #[.slice ao g.vs.length ac, .slice bo g.es.length bc] 27)).alloc (.cells #[.int .i64 x.st, .slice sao x.ss.length sac] 53)) w.heap.size 27 #[.slice ao g.vs.length ac, .slice bo g.es.length bc]) := (Blk.new rfl _ _).alloc _
  have BW : Hid (Blk ((w.alloc (.cells #[.slice ao g.vs.length ac, .slice bo g.es.length bc] 27)).alloc (.cells #[.int .i64 x.st, .slice sao x.ss.length sac] 53)) (w.heap.size + 1) 53 #[.int .i64 x.st, .slice sao x.ss.length sac]) := Blk.new (by simp) _ _
  rcases Bool.eq_false_or_eq_true (validW g x) with hv | hv
  · have HV := Lib.hid hv
    have HS : Hid (simpleW g x = decide (nodesW g x).Nodup) := by unfold Hid simpleW; rw [hv]; rfl
    have hnl : (nodesW g x).length ≤ 1048577 := Nat.le_trans (nodesW_len g x) (by omega)
    rw [HS.out]
    clear hv HS
    go_enter Try.func48, Try.ntmps48
    go_wp2_with fail
    refine (implIVW_any _ _ g x _ (HG.out.since hs0) (HU.out.since hs0) h1 h2 h3).mono ?_
    rintro en w1 ⟨rfl, hs1⟩
    have hs01 := hs0.trans hs1
    rw [HV.out]
    obtain ⟨p0, p1, _, _⟩ := (BG.out.since hs1).two
    obtain ⟨r0, r1, _, _⟩ := (BW.out.since hs1).two
    go_wp2_with fail
    refine (implWN_any _ _ g x _ (HG.out.since hs01) (HU.out.since hs01) h1 h2 h3).mono ?_
    rintro en w2 ⟨b2, rfl, ho2, hs2⟩
    have hs02 := hs01.trans hs2
    have HO2 := Lib.hid ho2.at
    clear ho2
    go_wp2_with fail
    refine (isDistinct_any _ _ _ HO2.out hnl).mono ?_
    rintro en w3 ⟨rfl, hs3⟩
    have hs03 := hs02.trans hs3
    go_wp2
    go_ret
    exact ⟨rfl, hs03⟩
  · have HV := Lib.hid hv
    have HS : Hid (simpleW g x = false) := by unfold Hid simpleW; rw [hv]; rfl
    rw [HS.out]
    clear hv HS
    go_enter Try.func48, Try.ntmps48
    go_wp2_with fail
    refine (implIVW_any _ _ g x _ (HG.out.since hs0) (HU.out.since hs0) h1 h2 h3).mono ?_
    rintro en w1 ⟨rfl, hs1⟩
    have hs01 := hs0.trans hs1
    rw [HV.out]
    go_wp2
    go_ret
    exact ⟨rfl, hs01⟩
end Go.Proofs.Ytilkheclimammaa
