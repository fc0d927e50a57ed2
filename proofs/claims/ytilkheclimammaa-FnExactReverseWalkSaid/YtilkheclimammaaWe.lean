/- IsValidWalk, WalkNodes, WalkEnd, and the program's WalkWord. -/
import Derived.Test.YtilkheclimammaaFol
import Derived.Test.YtilkheclimammaaNod
namespace Go.Proofs.Ytilkheclimammaa
set_option maxRecDepth 100000
open Go.ChangeShapes Go.WideShapes Go.ChangeAt Go.RowKit
set_option linter.unusedVariables false
set_option linter.unusedSimpArgs false

theorem endW_none {g : Grf} {x : Wlk} (h : folG g x = none) : validW g x = false ∧ nodesW g x = [] ∧ endW g x = -1 ∧ wordW g x = [] := by
  unfold validW nodesW endW wordW; rw [h]; exact ⟨rfl, rfl, rfl, rfl⟩
theorem endW_some {g : Grf} {x : Wlk} {ts : List Trv} (h : folG g x = some ts) : validW g x = true ∧ nodesW g x = nodesT x.st ts ∧ endW g x = endT x.st ts ∧ wordW g x = ts.map Trv.le := by
  unfold validW nodesW endW wordW; rw [h]; exact ⟨rfl, rfl, rfl, rfl⟩
theorem fol_ini {g : Grf} {x : Wlk} {ts : List Trv} (h : folG g x = some ts) : InI x.st ∧ ∀ t ∈ ts, InI t.dst ∧ InI t.le ∧ InI t.id := by
  obtain ⟨v1, v2, v3, v4⟩ := folG_some h
  have hv := (validB_iff g).1 v1
  refine ⟨inB_ini v2 (by have := hv.1; omega), ?_⟩
  have key : ∀ {y : Int} {rr : List Stp} {us : List Trv}, fol (trvF g.es) y rr = some us → ∀ t ∈ us, t ∈ travL g.es := by
    intro y rr
    induction rr generalizing y with
    | nil => intro us k t ht; simp [fol] at k; subst k; cases ht
    | cons r rr ih =>
      intro us k t ht
      rw [fol_eq] at k
      cases e1 : trvF g.es y r with
      | none => rw [e1] at k; cases k
      | some t0 =>
        rw [e1] at k
        simp only [Option.bind_some] at k
        cases e2 : fol (trvF g.es) t0.dst rr with
        | none => rw [e2] at k; cases k
        | some us0 =>
          rw [e2] at k
          simp only [Option.map_some, Option.some.injEq] at k
          subst k
          rcases List.mem_cons.1 ht with rfl | ht
          · exact (trvF_mem e1).1
          · exact ih e2 t ht
  intro t ht
  obtain ⟨e, he, hte⟩ := travL_mem (key v4 t ht)
  have h1 := hv.2.2.1 e he
  have h2 := hv.1
  unfold EdOk at h1
  unfold InI
  rcases hte with rfl | rfl
  · simp only [fwdT]; omega
  · simp only [invT]; omega
theorem nodesW_len (g : Grf) (x : Wlk) : (nodesW g x).length ≤ 61 := by
  cases h : folG g x with
  | none => rw [(endW_none h).2.1]; simp
  | some ts => rw [(endW_some h).2.1, nodesT_len]; have := (folG_len h).2; omega
theorem wordW_len (g : Grf) (x : Wlk) : (wordW g x).length ≤ 60 := by
  cases h : folG g x with
  | none => rw [(endW_none h).2.2.2]; simp
  | some ts => rw [(endW_some h).2.2.2, List.length_map]; exact (folG_len h).2

theorem specIVW_any (v u : Value) (g : Grf) (x : Wlk) (w : World) (h : GrfAt w v g) (hu : WlkAt w u x) (h1 : g.vs.length ≤ 1048577) (h2 : g.es.length ≤ 1048577) (h3 : x.ss.length ≤ 1048577) :
    Calls Try.prog 28 #[v, u] w fun e w' => e = .returned (.bool (validW g x)) ∧ Since w w' := by
  have HG := Lib.hid h
  have HU := Lib.hid hu
  obtain ⟨a, b, rfl, ha, hb⟩ := h
  obtain ⟨ao, ac, rfl, _⟩ := ha.row
  obtain ⟨bo, bc, rfl⟩ := hb.len
  obtain ⟨so, rfl, hss⟩ := hu
  obtain ⟨sao, sac, rfl, _⟩ := hss
  clear ha hb
  have hs0 : Since w ((w.alloc (.cells #[.slice ao g.vs.length ac, .slice bo g.es.length bc] 27)).alloc (.cells #[.int .i64 x.st, .slice sao x.ss.length sac] 53)) := ((Since.refl w).alloc _).alloc _
  have BG : Hid (Blk ((w.alloc (.cells #[.slice ao g.vs.length ac, .slice bo g.es.length bc] 27)).alloc (.cells #[.int .i64 x.st, .slice sao x.ss.length sac] 53)) w.heap.size 27 #[.slice ao g.vs.length ac, .slice bo g.es.length bc]) := (Blk.new rfl _ _).alloc _
  have BW : Hid (Blk ((w.alloc (.cells #[.slice ao g.vs.length ac, .slice bo g.es.length bc] 27)).alloc (.cells #[.int .i64 x.st, .slice sao x.ss.length sac] 53)) (w.heap.size + 1) 53 #[.int .i64 x.st, .slice sao x.ss.length sac]) := Blk.new (by simp) _ _
  go_enter Try.func28, Try.ntmps28
  go_wp2_with fail
  refine (l5Nodes_any _ _ g x _ (HG.out.since hs0) (HU.out.since hs0) h1 h2 h3).mono ?_
  rintro en w1 ⟨b1, rfl, ho1, hs1⟩
  have hs01 := hs0.trans hs1
  go_wp2
  go_ret
  exact ⟨rfl, hs01⟩
theorem implIVW_any (v u : Value) (g : Grf) (x : Wlk) (w : World) (h : GrfAt w v g) (hu : WlkAt w u x) (h1 : g.vs.length ≤ 1048577) (h2 : g.es.length ≤ 1048577) (h3 : x.ss.length ≤ 1048577) :
    Calls Try.prog 31 #[v, u] w fun e w' => e = .returned (.bool (validW g x)) ∧ Since w w' := by
  have HG := Lib.hid h
  have HU := Lib.hid hu
  obtain ⟨a, b, rfl, ha, hb⟩ := h
  obtain ⟨ao, ac, rfl, _⟩ := ha.row
  obtain ⟨bo, bc, rfl⟩ := hb.len
  obtain ⟨so, rfl, hss⟩ := hu
  obtain ⟨sao, sac, rfl, _⟩ := hss
  clear ha hb
  have hs0 : Since w ((w.alloc (.cells #[.slice ao g.vs.length ac, .slice bo g.es.length bc] 27)).alloc (.cells #[.int .i64 x.st, .slice sao x.ss.length sac] 53)) := ((Since.refl w).alloc _).alloc _
  have BG : Hid (Blk ((w.alloc (.cells #[.slice ao g.vs.length ac, .slice bo g.es.length bc] 27)).alloc (.cells #[.int .i64 x.st, .slice sao x.ss.length sac] 53)) w.heap.size 27 #[.slice ao g.vs.length ac, .slice bo g.es.length bc]) := (Blk.new rfl _ _).alloc _
  have BW : Hid (Blk ((w.alloc (.cells #[.slice ao g.vs.length ac, .slice bo g.es.length bc] 27)).alloc (.cells #[.int .i64 x.st, .slice sao x.ss.length sac] 53)) (w.heap.size + 1) 53 #[.int .i64 x.st, .slice sao x.ss.length sac]) := Blk.new (by simp) _ _
  go_enter Try.func31, Try.ntmps31
  go_wp2_with fail
  refine (follow_any _ _ g x _ (HG.out.since hs0) (HU.out.since hs0) h1 h2 h3).mono ?_
  rintro en w1 ⟨b1, rfl, ho1, hs1⟩
  have hs01 := hs0.trans hs1
  go_wp2
  go_ret
  exact ⟨rfl, hs01⟩
theorem specWN_any (v u : Value) (g : Grf) (x : Wlk) (w : World) (h : GrfAt w v g) (hu : WlkAt w u x) (h1 : g.vs.length ≤ 1048577) (h2 : g.es.length ≤ 1048577) (h3 : x.ss.length ≤ 1048577) :
    Calls Try.prog 34 #[v, u] w (OwnOut w (nodesW g x)) := by
  have HG := Lib.hid h
  have HU := Lib.hid hu
  obtain ⟨a, b, rfl, ha, hb⟩ := h
  obtain ⟨ao, ac, rfl, _⟩ := ha.row
  obtain ⟨bo, bc, rfl⟩ := hb.len
  obtain ⟨so, rfl, hss⟩ := hu
  obtain ⟨sao, sac, rfl, _⟩ := hss
  clear ha hb
  have hs0 : Since w ((w.alloc (.cells #[.slice ao g.vs.length ac, .slice bo g.es.length bc] 27)).alloc (.cells #[.int .i64 x.st, .slice sao x.ss.length sac] 53)) := ((Since.refl w).alloc _).alloc _
  have BG : Hid (Blk ((w.alloc (.cells #[.slice ao g.vs.length ac, .slice bo g.es.length bc] 27)).alloc (.cells #[.int .i64 x.st, .slice sao x.ss.length sac] 53)) w.heap.size 27 #[.slice ao g.vs.length ac, .slice bo g.es.length bc]) := (Blk.new rfl _ _).alloc _
  have BW : Hid (Blk ((w.alloc (.cells #[.slice ao g.vs.length ac, .slice bo g.es.length bc] 27)).alloc (.cells #[.int .i64 x.st, .slice sao x.ss.length sac] 53)) (w.heap.size + 1) 53 #[.int .i64 x.st, .slice sao x.ss.length sac]) := Blk.new (by simp) _ _
  go_enter Try.func34, Try.ntmps34
  go_wp2_with fail
  refine (l5Nodes_any _ _ g x _ (HG.out.since hs0) (HU.out.since hs0) h1 h2 h3).mono ?_
  rintro en w1 ⟨b1, rfl, ho1, hs1⟩
  have hs01 := hs0.trans hs1
  have HO := Lib.hid (ho1.mono hs0.size)
  clear ho1
  go_wp2
  go_ret
  exact ⟨_, rfl, HO.out, hs01⟩
theorem specWE_any (v u : Value) (g : Grf) (x : Wlk) (w : World) (h : GrfAt w v g) (hu : WlkAt w u x) (h1 : g.vs.length ≤ 1048577) (h2 : g.es.length ≤ 1048577) (h3 : x.ss.length ≤ 1048577) :
    Calls Try.prog 41 #[v, u] w fun e w' => e = .returned (.int .i64 (endW g x)) ∧ Since w w' := by
  have HG := Lib.hid h
  have HU := Lib.hid hu
  obtain ⟨a, b, rfl, ha, hb⟩ := h
  obtain ⟨ao, ac, rfl, _⟩ := ha.row
  obtain ⟨bo, bc, rfl⟩ := hb.len
  obtain ⟨so, rfl, hss⟩ := hu
  obtain ⟨sao, sac, rfl, _⟩ := hss
  clear ha hb
  have hs0 : Since w ((w.alloc (.cells #[.slice ao g.vs.length ac, .slice bo g.es.length bc] 27)).alloc (.cells #[.int .i64 x.st, .slice sao x.ss.length sac] 53)) := ((Since.refl w).alloc _).alloc _
  have BG : Hid (Blk ((w.alloc (.cells #[.slice ao g.vs.length ac, .slice bo g.es.length bc] 27)).alloc (.cells #[.int .i64 x.st, .slice sao x.ss.length sac] 53)) w.heap.size 27 #[.slice ao g.vs.length ac, .slice bo g.es.length bc]) := (Blk.new rfl _ _).alloc _
  have BW : Hid (Blk ((w.alloc (.cells #[.slice ao g.vs.length ac, .slice bo g.es.length bc] 27)).alloc (.cells #[.int .i64 x.st, .slice sao x.ss.length sac] 53)) (w.heap.size + 1) 53 #[.int .i64 x.st, .slice sao x.ss.length sac]) := Blk.new (by simp) _ _
  cases hf : folG g x with
  | none =>
    obtain ⟨k1, k2, k3, _⟩ := endW_none hf
    rw [k3]
    have K1 := Lib.hid k1
    clear k1 k2 k3 hf
    go_enter Try.func41, Try.ntmps41
    go_wp2_with fail
    refine (l5Nodes_any _ _ g x _ (HG.out.since hs0) (HU.out.since hs0) h1 h2 h3).mono ?_
    rintro en w1 ⟨b1, rfl, ho1, hs1⟩
    have hs01 := hs0.trans hs1
    rw [K1.out]
    clear ho1
    go_wp2
    go_ret
    exact ⟨rfl, hs01⟩
  | some ts =>
    obtain ⟨k1, k2, k3, _⟩ := endW_some hf
    rw [k3]
    have K1 := Lib.hid k1
    have K2 := Lib.hid k2
    have HL9 := (folG_len hf).2
    clear k1 k2 k3 hf
    go_enter Try.func41, Try.ntmps41
    go_wp2_with fail
    refine (l5Nodes_any _ _ g x _ (HG.out.since hs0) (HU.out.since hs0) h1 h2 h3).mono ?_
    rintro en w1 ⟨b1, rfl, ho1, hs1⟩
    have hs01 := hs0.trans hs1
    rw [K1.out]
    rw [K2.out] at ho1
    obtain ⟨oo, oc, rfl, HOC⟩ := ho1.at.row
    have hL : (nodesT x.st ts).length = ts.length + 1 := nodesT_len _ _
    obtain ⟨bn, on, rfl, hbn, f0⟩ := HOC.out ts.length (by omega)
    rw [nodesT_last] at f0
    rw [hL]
    clear ho1 HOC hL
    generalize ts.length = k at HL9 f0 ⊢
    have hk0 : (0 : Int) ≤ (k : Int) := by omega
    go_wp2
    go_ret
    exact ⟨rfl, hs01⟩

set_option maxHeartbeats 1000000 in
set_option maxRecDepth 100000 in
theorem implWN_any (v u : Value) (g : Grf) (x : Wlk) (w : World) (h : GrfAt w v g) (hu : WlkAt w u x) (h1 : g.vs.length ≤ 1048577) (h2 : g.es.length ≤ 1048577) (h3 : x.ss.length ≤ 1048577) :
    Calls Try.prog 35 #[v, u] w (OwnOut w (nodesW g x)) := by
  have HG := Lib.hid h
  have HU := Lib.hid hu
  obtain ⟨a, b, rfl, ha, hb⟩ := h
  obtain ⟨ao, ac, rfl, _⟩ := ha.row
  obtain ⟨bo, bc, rfl⟩ := hb.len
  obtain ⟨so, rfl, hss⟩ := hu
  obtain ⟨sao, sac, rfl, _⟩ := hss
  clear ha hb
  have hs0 : Since w ((w.alloc (.cells #[.slice ao g.vs.length ac, .slice bo g.es.length bc] 27)).alloc (.cells #[.int .i64 x.st, .slice sao x.ss.length sac] 53)) := ((Since.refl w).alloc _).alloc _
  have BG : Hid (Blk ((w.alloc (.cells #[.slice ao g.vs.length ac, .slice bo g.es.length bc] 27)).alloc (.cells #[.int .i64 x.st, .slice sao x.ss.length sac] 53)) w.heap.size 27 #[.slice ao g.vs.length ac, .slice bo g.es.length bc]) := (Blk.new rfl _ _).alloc _
  have BW : Hid (Blk ((w.alloc (.cells #[.slice ao g.vs.length ac, .slice bo g.es.length bc] 27)).alloc (.cells #[.int .i64 x.st, .slice sao x.ss.length sac] 53)) (w.heap.size + 1) 53 #[.int .i64 x.st, .slice sao x.ss.length sac]) := Blk.new (by simp) _ _
  have HFL := Lib.hid (fun V U W (k1 : GrfAt W V g) (k2 : WlkAt W U x) => follow_any V U g x W k1 k2 h1 h2 h3)
  cases hf : folG g x with
  | none =>
    obtain ⟨_, k2, _, _⟩ := endW_none hf
    rw [k2]
    rw [hf] at HFL
    clear k2 hf
    go_enter Try.func35, Try.ntmps35
    go_wp2_with fail
    refine (HFL.out _ _ _ (HG.out.since hs0) (HU.out.since hs0)).mono ?_
    rintro en w1 ⟨b1, rfl, ho1, hs1⟩
    have hs01 := hs0.trans hs1
    clear ho1
    go_wp2
    go_ret
    exact ⟨_, rfl, ⟨fun z hz => by simp at hz, World.ownsRow_nil _ _ _ _⟩, hs01⟩
  | some ts =>
    obtain ⟨_, k2, _, _⟩ := endW_some hf
    rw [k2]
    have HL9 := (folG_len hf).2
    have HIN : Hid (∀ t ∈ ts, InI t.dst) := fun t ht => ((fol_ini hf).2 t ht).1
    have HXI := Lib.hid (fol_ini hf).1
    rw [hf] at HFL
    clear k2 hf
    go_enter Try.func35, Try.ntmps35
    go_wp2_with fail
    refine (HFL.out _ _ _ (HG.out.since hs0) (HU.out.since hs0)).mono ?_
    rintro en w1 ⟨b1, rfl, ho1, hs1⟩
    have hs01 := hs0.trans hs1
    have ho1 : OwnT _ w1 b1 ts := ho1
    obtain ⟨r0, r1, _, _⟩ := (BW.out.since hs1).two
    have hol := own_one w1 w1 (Since.refl w1) x.st HXI.out w1.heap.size rfl
    have hsl := (Since.refl w1).alloc (.cells #[.int .i64 x.st] 3)
    rw [show (some ts).isSome = true from rfl]
    obtain ⟨xo, xc, rfl, HX⟩ := ho1.at
    obtain ⟨q, hq⟩ : ∃ q, q = ts.length := ⟨_, rfl⟩
    rw [← hq]
    have HQ := Lib.hid hq
    have hq9 : q ≤ 60 := by omega
    clear ho1 hq HL9
    go_wp2_with fail
    go_loopw [7, 23] (fun out i wr => ∃ k : Nat, k ≤ q ∧ i = .int .i64 k ∧ Hid (Own w1.heap.size wr out (x.st :: (ts.take k).map Trv.dst)) ∧ Since w1 wr) (fun _ i _ => q - (intOf i).toNat)
    case atStart => exact ⟨0, Nat.zero_le _, rfl, hol, hsl⟩
    case round =>
      obtain ⟨k, hk, rfl, HOw, hsw⟩ := hrel
      by_cases hlt : k < q
      · have hx : k < ts.length := by have := HQ.out; omega
        obtain ⟨be, oe, rfl, hbe, d0, d1, d2, d3, d4⟩ := HX.out k hx
        have s1 := since_cells hsw hbe
        rw [← s1] at d0 d1 d2 d3 d4
        clear s1
        have HT := Lib.hid (map_take Trv.dst ts k hx)
        have hzin : InI (ts[k]).dst := HIN.out _ (List.getElem_mem hx)
        have hsx := hsw.alloc (.cells #[.int .i64 ts[k].id, .bool ts[k].inv, .int .i64 ts[k].fr, .int .i64 ts[k].dst, .int .i64 ts[k].le] 77)
        have HOx := Lib.hid (HOw.out.since ((Since.refl wr).alloc (.cells #[.int .i64 ts[k].id, .bool ts[k].inv, .int .i64 ts[k].fr, .int .i64 ts[k].dst, .int .i64 ts[k].le] 77)))
        have HZL : Hid ((x.st :: (ts.take k).map Trv.dst).length ≤ 4194304) := by unfold Hid; simp; omega
        go_wp2_with (at_builtin; go_must (refine wpList_append_int rfl (.tmp 27) (.tmp 30) rfl _ (x.st :: (ts.take k).map Trv.dst) (by first | rfl | simp [Act.eval]) HOx.out ts[k].dst (by first | rfl | simp [Act.eval]) hzin HZL.out hsx ?_); intro v2 w2 ho2 hs2; have HO2 := Lib.hid ho2; clear ho2)
        go_roundw
        case rel => exact ⟨k + 1, by omega, by go_num, (by rw [HT.out]; exact HO2.out), hs2⟩
        case measure => simp [intOf]; omega
      · obtain rfl : k = q := by omega
        have HO : Hid (Own w1.heap.size wr u7 (x.st :: ts.map Trv.dst)) := by
          have := HOw.out
          rw [List.take_of_length_le (by have := HQ.out; omega)] at this
          exact this
        clear HOw
        go_wp2
        go_ret
        exact ⟨_, rfl, HO.out.mono hs01.size, hs01.trans hsw⟩
theorem implWE_any (v u : Value) (g : Grf) (x : Wlk) (w : World) (h : GrfAt w v g) (hu : WlkAt w u x) (h1 : g.vs.length ≤ 1048577) (h2 : g.es.length ≤ 1048577) (h3 : x.ss.length ≤ 1048577) :
    Calls Try.prog 42 #[v, u] w fun e w' => e = .returned (.int .i64 (endW g x)) ∧ Since w w' := by
  have HG := Lib.hid h
  have HU := Lib.hid hu
  obtain ⟨a, b, rfl, ha, hb⟩ := h
  obtain ⟨ao, ac, rfl, _⟩ := ha.row
  obtain ⟨bo, bc, rfl⟩ := hb.len
  obtain ⟨so, rfl, hss⟩ := hu
  obtain ⟨sao, sac, rfl, _⟩ := hss
  clear ha hb
  have hs0 : Since w ((w.alloc (.cells #[.slice ao g.vs.length ac, .slice bo g.es.length bc] 27)).alloc (.cells #[.int .i64 x.st, .slice sao x.ss.length sac] 53)) := ((Since.refl w).alloc _).alloc _
  have BG : Hid (Blk ((w.alloc (.cells #[.slice ao g.vs.length ac, .slice bo g.es.length bc] 27)).alloc (.cells #[.int .i64 x.st, .slice sao x.ss.length sac] 53)) w.heap.size 27 #[.slice ao g.vs.length ac, .slice bo g.es.length bc]) := (Blk.new rfl _ _).alloc _
  have BW : Hid (Blk ((w.alloc (.cells #[.slice ao g.vs.length ac, .slice bo g.es.length bc] 27)).alloc (.cells #[.int .i64 x.st, .slice sao x.ss.length sac] 53)) (w.heap.size + 1) 53 #[.int .i64 x.st, .slice sao x.ss.length sac]) := Blk.new (by simp) _ _
  cases hf : folG g x with
  | none =>
    obtain ⟨k1, k2, k3, _⟩ := endW_none hf
    rw [k3]
    have K2 := Lib.hid k2
    clear k1 k2 k3 hf
    go_enter Try.func42, Try.ntmps42
    go_wp2_with fail
    refine (implWN_any _ _ g x _ (HG.out.since hs0) (HU.out.since hs0) h1 h2 h3).mono ?_
    rintro en w1 ⟨b1, rfl, ho1, hs1⟩
    have hs01 := hs0.trans hs1
    rw [K2.out] at ho1
    obtain ⟨oo, oc, rfl⟩ := ho1.len
    rw [show ([] : List Int).length = 0 from rfl]
    clear ho1
    go_wp2
    go_ret
    exact ⟨rfl, hs01⟩
  | some ts =>
    obtain ⟨k1, k2, k3, _⟩ := endW_some hf
    rw [k3]
    have K2 := Lib.hid k2
    have HL9 := (folG_len hf).2
    clear k1 k2 k3 hf
    go_enter Try.func42, Try.ntmps42
    go_wp2_with fail
    refine (implWN_any _ _ g x _ (HG.out.since hs0) (HU.out.since hs0) h1 h2 h3).mono ?_
    rintro en w1 ⟨b1, rfl, ho1, hs1⟩
    have hs01 := hs0.trans hs1
    rw [K2.out] at ho1
    obtain ⟨oo, oc, rfl, HOC⟩ := ho1.at.row
    have hL : (nodesT x.st ts).length = ts.length + 1 := nodesT_len _ _
    obtain ⟨bn, on, rfl, hbn, f0⟩ := HOC.out ts.length (by omega)
    rw [nodesT_last] at f0
    rw [hL]
    clear ho1 HOC hL
    generalize ts.length = k at HL9 f0 ⊢
    have hk0 : (0 : Int) ≤ (k : Int) := by omega
    have hk1 : (((k + 1 : Nat) : Int) == 0) = false := by simp; omega
    go_wp2
    go_ret
    exact ⟨rfl, hs01⟩

set_option maxHeartbeats 1000000 in
set_option maxRecDepth 100000 in
theorem implWW_any (v u : Value) (g : Grf) (x : Wlk) (w : World) (h : GrfAt w v g) (hu : WlkAt w u x) (h1 : g.vs.length ≤ 1048577) (h2 : g.es.length ≤ 1048577) (h3 : x.ss.length ≤ 1048577) :
    Calls Try.prog 44 #[v, u] w (OwnOut w (wordW g x)) := by
  have HG := Lib.hid h
  have HU := Lib.hid hu
  obtain ⟨a, b, rfl, ha, hb⟩ := h
  obtain ⟨ao, ac, rfl, _⟩ := ha.row
  obtain ⟨bo, bc, rfl⟩ := hb.len
  obtain ⟨so, rfl, hss⟩ := hu
  obtain ⟨sao, sac, rfl, _⟩ := hss
  clear ha hb
  have hs0 : Since w ((w.alloc (.cells #[.slice ao g.vs.length ac, .slice bo g.es.length bc] 27)).alloc (.cells #[.int .i64 x.st, .slice sao x.ss.length sac] 53)) := ((Since.refl w).alloc _).alloc _
  have BG : Hid (Blk ((w.alloc (.cells #[.slice ao g.vs.length ac, .slice bo g.es.length bc] 27)).alloc (.cells #[.int .i64 x.st, .slice sao x.ss.length sac] 53)) w.heap.size 27 #[.slice ao g.vs.length ac, .slice bo g.es.length bc]) := (Blk.new rfl _ _).alloc _
  have BW : Hid (Blk ((w.alloc (.cells #[.slice ao g.vs.length ac, .slice bo g.es.length bc] 27)).alloc (.cells #[.int .i64 x.st, .slice sao x.ss.length sac] 53)) (w.heap.size + 1) 53 #[.int .i64 x.st, .slice sao x.ss.length sac]) := Blk.new (by simp) _ _
  have HFL := Lib.hid (fun V U W (k1 : GrfAt W V g) (k2 : WlkAt W U x) => follow_any V U g x W k1 k2 h1 h2 h3)
  obtain ⟨ts, hts⟩ : ∃ ts, ts = (folG g x).getD [] := ⟨_, rfl⟩
  have hww : wordW g x = ts.map Trv.le := by
    cases hf : folG g x with
    | none => rw [(endW_none hf).2.2.2, hts, hf]; rfl
    | some us => rw [(endW_some hf).2.2.2, hts, hf]; rfl
  have HL9 : ts.length ≤ 60 := by
    cases hf : folG g x with
    | none => rw [hts, hf]; simp
    | some us => rw [hts, hf]; exact (folG_len hf).2
  have HIN : Hid (∀ t ∈ ts, InI t.le) := by
    cases hf : folG g x with
    | none => rw [hts, hf]; intro t ht; simp at ht
    | some us => rw [hts, hf]; exact fun t ht => ((fol_ini hf).2 t ht).2.1
  rw [hww]
  clear hww
  unfold FolOut at HFL
  rw [← hts] at HFL
  clear hts
  go_enter Try.func44, Try.ntmps44
  go_wp2_with fail
  refine (HFL.out _ _ _ (HG.out.since hs0) (HU.out.since hs0)).mono ?_
  rintro en w1 ⟨b1, rfl, ho1, hs1⟩
  have hs01 := hs0.trans hs1
  have hnil : Own w1.heap.size w1 (.slice none 0 0) [] := ⟨fun z hz => by simp at hz, World.ownsRow_nil _ _ _ _⟩
  obtain ⟨xo, xc, rfl, HX⟩ := ho1.at
  obtain ⟨q, hq⟩ : ∃ q, q = ts.length := ⟨_, rfl⟩
  rw [← hq]
  have HQ := Lib.hid hq
  have hq9 : q ≤ 60 := by omega
  clear ho1 hq HL9
  go_wp2_with fail
  go_loopw [7, 18] (fun out i wr => ∃ k : Nat, k ≤ q ∧ i = .int .i64 k ∧ Hid (Own w1.heap.size wr out ((ts.take k).map Trv.le)) ∧ Since w1 wr) (fun _ i _ => q - (intOf i).toNat)
  case atStart => exact ⟨0, Nat.zero_le _, rfl, hnil, Since.refl _⟩
  case round =>
    obtain ⟨k, hk, rfl, HOw, hsw⟩ := hrel
    by_cases hlt : k < q
    · have hx : k < ts.length := by have := HQ.out; omega
      obtain ⟨be, oe, rfl, hbe, d0, d1, d2, d3, d4⟩ := HX.out k hx
      have s1 := since_cells hsw hbe
      rw [← s1] at d0 d1 d2 d3 d4
      clear s1
      have HT := Lib.hid (map_take Trv.le ts k hx)
      have hzin : InI (ts[k]).le := HIN.out _ (List.getElem_mem hx)
      have hsx := hsw.alloc (.cells #[.int .i64 ts[k].id, .bool ts[k].inv, .int .i64 ts[k].fr, .int .i64 ts[k].dst, .int .i64 ts[k].le] 77)
      have HOx := Lib.hid (HOw.out.since ((Since.refl wr).alloc (.cells #[.int .i64 ts[k].id, .bool ts[k].inv, .int .i64 ts[k].fr, .int .i64 ts[k].dst, .int .i64 ts[k].le] 77)))
      have HZL : Hid (((ts.take k).map Trv.le).length ≤ 4194304) := by unfold Hid; simp; omega
      go_wp2_with (at_builtin; go_must (refine wpList_append_int rfl (.tmp 22) (.tmp 25) rfl _ ((ts.take k).map Trv.le) (by first | rfl | simp [Act.eval]) HOx.out ts[k].le (by first | rfl | simp [Act.eval]) hzin HZL.out hsx ?_); intro v2 w2 ho2 hs2; have HO2 := Lib.hid ho2; clear ho2)
      go_roundw
      case rel => exact ⟨k + 1, by omega, by go_num, (by rw [HT.out]; exact HO2.out), hs2⟩
      case measure => simp [intOf]; omega
    · obtain rfl : k = q := by omega
      have HO : Hid (Own w1.heap.size wr u7 (ts.map Trv.le)) := by
        have := HOw.out
        rw [List.take_of_length_le (by have := HQ.out; omega)] at this
        exact this
      clear HOw
      go_wp2
      go_ret
      exact ⟨_, rfl, HO.out.mono hs01.size, hs01.trans hsw⟩
end Go.Proofs.Ytilkheclimammaa
