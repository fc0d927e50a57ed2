/- The model's walks: l5Nodes, IsValidWalk, WalkNodes, WalkEnd. -/
import Derived.Test.YtilkheclimammaaWkM
import Derived.Test.YtilkheclimammaaK3
import Derived.Test.YtilkheclimammaaK1
import Derived.Test.YtilkheclimammaaK2
namespace Go.Proofs.Ytilkheclimammaa
set_option maxRecDepth 100000
open Go.ChangeShapes Go.WideShapes Go.ChangeAt Go.RowKit
set_option linter.unusedVariables false
set_option linter.unusedSimpArgs false

def NodOut (w : World) (g : Grf) (x : Wlk) (e : Ending) (w' : World) : Prop := ∃ b, e = .returned (.tuple #[b, .bool (validW g x)]) ∧ Own w.heap.size w' b (nodesW g x) ∧ Since w w'
theorem nodOut_none {w w' : World} {g : Grf} {x : Wlk} {b : Value} (h : folG g x = none) (ho : Own w.heap.size w' b []) (hs : Since w w') : NodOut w g x (.returned (.tuple #[b, .bool false])) w' := by
  refine ⟨b, ?_, ?_, hs⟩
  · unfold validW; rw [h]; rfl
  · unfold nodesW; rw [h]; exact ho
theorem nodOut_some {w w' : World} {g : Grf} {x : Wlk} {b : Value} {ts : List Trv} (h : folG g x = some ts) (ho : Own w.heap.size w' b (nodesT x.st ts)) (hs : Since w w') : NodOut w g x (.returned (.tuple #[b, .bool true])) w' := by
  refine ⟨b, ?_, ?_, hs⟩
  · unfold validW; rw [h]; rfl
  · unfold nodesW; rw [h]; exact ho
theorem valid_ini {g : Grf} (hv : validB g = true) {j : Nat} (hj : j < g.es.length) : InI g.es[j].fr ∧ InI g.es[j].to := by
  have h := (validB_iff g).1 hv
  have h1 := h.2.2.1 _ (List.getElem_mem hj)
  have h2 := h.1
  unfold EdOk at h1
  unfold InI
  omega
theorem inB_ini {x : Int} {n : Nat} (h : inB x 0 ((n : Int) - 1) = true) (hn : n ≤ 1048577) : InI x := by
  unfold inB at h; simp at h; unfold InI; omega
set_option maxHeartbeats 4000000 in
set_option maxRecDepth 100000 in
theorem l5Nodes_any (v u : Value) (g : Grf) (x : Wlk) (w : World) (h : GrfAt w v g) (hu : WlkAt w u x) (h1 : g.vs.length ≤ 1048577) (h2 : g.es.length ≤ 1048577) (h3 : x.ss.length ≤ 1048577) :
    Calls Try.prog 73 #[v, u] w (NodOut w g x) := by
  have HG := Lib.hid h
  obtain ⟨a, b, rfl, ha, hb⟩ := h
  obtain ⟨ao, ac, rfl, _⟩ := ha.row
  obtain ⟨bo, bc, rfl, HE⟩ := hb.row
  have HWX := Lib.hid hu
  obtain ⟨so, rfl, hss⟩ := hu
  obtain ⟨sao, sac, rfl, HS⟩ := hss
  clear ha hb
  obtain ⟨n, hn⟩ : ∃ n, n = g.vs.length := ⟨_, rfl⟩
  obtain ⟨m, hm⟩ : ∃ m, m = g.es.length := ⟨_, rfl⟩
  obtain ⟨q, hq⟩ : ∃ q, q = x.ss.length := ⟨_, rfl⟩
  rw [← hn, ← hm] at HG ⊢
  rw [← hq] at HWX ⊢
  have HNV := Lib.hid hn
  have HM := Lib.hid hm
  have HQ := Lib.hid hq
  have hn9 : n ≤ 1048577 := by omega
  have hq9 : q ≤ 1048577 := by omega
  clear hn hm hq h3
  have hs0 : Since w ((w.alloc (.cells #[.slice ao n ac, .slice bo m bc] 27)).alloc (.cells #[.int .i64 x.st, .slice sao q sac] 53)) := ((Since.refl w).alloc _).alloc _
  have BG : Hid (Blk ((w.alloc (.cells #[.slice ao n ac, .slice bo m bc] 27)).alloc (.cells #[.int .i64 x.st, .slice sao q sac] 53)) w.heap.size 27 #[.slice ao n ac, .slice bo m bc]) := (Blk.new rfl _ _).alloc _
  have BW : Hid (Blk ((w.alloc (.cells #[.slice ao n ac, .slice bo m bc] 27)).alloc (.cells #[.int .i64 x.st, .slice sao q sac] 53)) (w.heap.size + 1) 53 #[.int .i64 x.st, .slice sao q sac]) := Blk.new (by simp) _ _
  rcases Bool.eq_false_or_eq_true (validB g) with hv | hv
  · have HV := Lib.hid hv
    rcases Bool.eq_false_or_eq_true (inB x.st 0 ((n : Int) - 1)) with hb | hb
    · have HB := Lib.hid hb
      by_cases hl : q ≤ 60
      · have HF : Hid (folG g x = fol (trvF g.es) x.st x.ss) := folG_in hv (by rw [← HNV.out]; exact hb) (by rw [← HQ.out]; exact hl)
        have HAS := Lib.hid ((validB_iff g).1 hv).2.2.2
        have HXI := Lib.hid (inB_ini hb hn9)
        clear hv hb
        go_enter Try.func73, Try.ntmps73
        go_wp2_with fail
        refine (specVG_any _ g _ (HG.out.since hs0) h1 h2).mono ?_
        rintro en w1 ⟨rfl, hs1⟩
        rw [HV.out]
        have hs01 := hs0.trans hs1
        have bg1 := Lib.hid (BG.out.since hs1)
        have bw1 := Lib.hid (BW.out.since hs1)
        obtain ⟨p0, p1, _, _⟩ := bg1.out.two
        obtain ⟨r0, r1, _, _⟩ := bw1.out.two
        go_wp2_with fail
        refine (l1In_any _ _ _ _).mono ?_
        rintro en w1' ⟨rfl, rfl⟩
        rw [HB.out]
        go_wp2_with fail
        clear p0 p1 r0 r1 BG BW
        have hol := own_one w1 w1 (Since.refl w1) x.st HXI.out w1.heap.size rfl
        have hsl := (Since.refl w1).alloc (.cells #[.int .i64 x.st] 3)
        go_loopw [6, 7] (fun out i wr => ∃ (k : Nat) (ts : List Trv), k ≤ q ∧ i = .int .i64 k ∧ Hid (fol (trvF g.es) x.st (x.ss.take k) = some ts) ∧ Hid (Own w1.heap.size wr out (nodesT x.st ts)) ∧ Since w1 wr) (fun _ i _ => q - (intOf i).toNat)
        case atStart => exact ⟨0, [], Nat.zero_le _, rfl, rfl, hol, hsl⟩
        case round =>
          obtain ⟨k, ts, hk, rfl, HFO, HOw, hsw⟩ := hrel
          have hs0w := hs01.trans hsw
          obtain ⟨r0, r1, _, _⟩ := (bw1.out.since hsw).two
          by_cases hlt : k < q
          · have hx : k < x.ss.length := by have := HQ.out; omega
            obtain ⟨be, oe, rfl, hbe, d0, d1⟩ := HS.out k hx
            have HKC : Hid (∀ w', Since wr w' → w'.cell? ⟨w.heap.size, 0, none⟩ = some (.slice ao n ac) ∧ w'.cell? ⟨w.heap.size, 1, none⟩ = some (.slice bo m bc) ∧ w'.cell? ⟨w.heap.size + 1, 0, none⟩ = some (.int .i64 x.st) ∧ w'.cell? ⟨w.heap.size + 1, 1, none⟩ = some (.slice (some ⟨be, oe, none⟩) q sac) ∧ w'.cell? ⟨be, oe + k * 2, none⟩ = some (.int .i64 x.ss[k].id) ∧ w'.cell? ⟨be, oe + k * 2 + 1, none⟩ = some (.bool x.ss[k].inv)) := by
              intro w' hs
              obtain ⟨x0, x1, _, _⟩ := (bg1.out.since (hsw.trans hs)).two
              obtain ⟨y0, y1, _, _⟩ := (bw1.out.since (hsw.trans hs)).two
              have s1 := since_cells (hs0w.trans hs) hbe
              exact ⟨x0, x1, y0, y1, (s1 _).trans d0, (s1 _).trans d1⟩
            have hki : (k : Int) < (q : Int) := by omega
            have hk0 : (0 : Int) ≤ (k : Int) := by omega
            have HTL : Hid (ts.length = k) := fol_ends _ HFO.out (by omega)
            have HNL : Hid ((nodesT x.st ts).length ≤ 4194304) := by unfold Hid; rw [nodesT_len, HTL.out]; omega
            clear d0 d1
            go_wp2_with fail
            refine wp_region_held_drew (S := (fun w' => w'.cell? ⟨w.heap.size, 0, none⟩ = some (.slice ao n ac) ∧ w'.cell? ⟨w.heap.size, 1, none⟩ = some (.slice bo m bc) ∧ w'.cell? ⟨w.heap.size + 1, 0, none⟩ = some (.int .i64 x.st) ∧ w'.cell? ⟨w.heap.size + 1, 1, none⟩ = some (.slice (some ⟨be, oe, none⟩) q sac) ∧ w'.cell? ⟨be, oe + k * 2, none⟩ = some (.int .i64 x.ss[k].id) ∧ w'.cell? ⟨be, oe + k * 2 + 1, none⟩ = some (.bool x.ss[k].inv))) (by kernel_rfl) (HKC.out _ (Since.refl _).drew) (fun hHeld => ?_)
            refine take_yes 0 (some 41) (v := ?_) rfl (by kernel_rfl) (by kernel_rfl) (by kernel_rfl) (by kernel_rfl) (fun _ _ _ h => h) (by rfl) (by assumption) ?_ ?_
            rotate_left
            · (intro w' hSw; (try dsimp only at hSw); go_simp; try with_reducible rfl)
            try simp only [Act.put, List.setIfInBounds_toArray, List.set_cons_zero, List.set_cons_succ]
            refine take_yes 1 (some 42) (v := ?_) rfl (by kernel_rfl) (by kernel_rfl) (by kernel_rfl) (by kernel_rfl) (fun _ _ _ h => h) (by rfl) (by assumption) ?_ ?_
            rotate_left
            · (intro w' hSw; (try dsimp only at hSw); go_simp; try with_reducible rfl)
            try simp only [Act.put, List.setIfInBounds_toArray, List.set_cons_zero, List.set_cons_succ]
            refine take_yes 2 (some 43) (v := ?_) rfl (by kernel_rfl) (by kernel_rfl) (by kernel_rfl) (by kernel_rfl) (fun _ _ _ h => h) (by rfl) (by assumption) ?_ ?_
            rotate_left
            · (intro w' hSw; (try dsimp only at hSw); go_simp; try with_reducible rfl)
            try simp only [Act.put, List.setIfInBounds_toArray, List.set_cons_zero, List.set_cons_succ]
            refine take_yes 3 (some 44) (v := ?_) rfl (by kernel_rfl) (by kernel_rfl) (by kernel_rfl) (by kernel_rfl) (fun _ _ _ h => h) (by rfl) (by assumption) ?_ ?_
            rotate_left
            · (intro w' hSw; (try dsimp only at hSw); go_simp; try with_reducible rfl)
            try simp only [Act.put, List.setIfInBounds_toArray, List.set_cons_zero, List.set_cons_succ]
            refine take_yes 4 (some 45) (v := ?_) rfl (by kernel_rfl) (by kernel_rfl) (by kernel_rfl) (by kernel_rfl) (fun _ _ _ h => h) (by rfl) (by assumption) ?_ ?_
            rotate_left
            · (intro w' hSw; (try dsimp only at hSw); go_simp; try with_reducible rfl)
            try simp only [Act.put, List.setIfInBounds_toArray, List.set_cons_zero, List.set_cons_succ]
            refine take_yes 5 (some 46) (v := ?_) rfl (by kernel_rfl) (by kernel_rfl) (by kernel_rfl) (by kernel_rfl) (fun _ _ _ h => h) (by rfl) (by assumption) ?_ ?_
            rotate_left
            · (intro w' hSw; (try dsimp only at hSw); go_simp; try with_reducible rfl)
            try simp only [Act.put, List.setIfInBounds_toArray, List.set_cons_zero, List.set_cons_succ]
            refine take_yes 6 (some 47) (v := ?_) rfl (by kernel_rfl) (by kernel_rfl) (by kernel_rfl) (by kernel_rfl) (fun _ _ _ h => h) (by rfl) (by assumption) ?_ ?_
            rotate_left
            · (intro w' hSw; (try dsimp only at hSw); go_simp; try with_reducible rfl)
            try simp only [Act.put, List.setIfInBounds_toArray, List.set_cons_zero, List.set_cons_succ]
            refine take_run 7 rfl (by kernel_rfl) (by rfl) (fun K hK => ?_)
            go_simp
            refine (specEI_any _ g x.ss[k].id _ (HG.out.since (hs0w.trans (Since.refl wr).drew)) h2).mono ?_
            rintro en wq ⟨rfl, hq1⟩
            have hq2 := (Since.refl wr).drew.trans hq1
            refine hK.out _ _ (HKC.out _ hq2) (fun hHeld1 => ?_)
            clear hK K hHeld
            try simp only [Act.put, List.setIfInBounds_toArray, List.set_cons_zero, List.set_cons_succ]
            refine take_yes 8 (some 8) (v := ?_) rfl (by kernel_rfl) (by kernel_rfl) (by kernel_rfl) (by kernel_rfl) (fun _ _ _ h => h) (by rfl) (by assumption) ?_ ?_
            rotate_left
            · (intro w' hSw; (try dsimp only at hSw); go_simp; try with_reducible rfl)
            try simp only [Act.put, List.setIfInBounds_toArray, List.set_cons_zero, List.set_cons_succ]
            refine wpAnyH_done (by kernel_rfl) ?_ _
            clear hHeld1
            have hs1q := hsw.trans hq2
            have hs0q := hs0w.trans hq2
            obtain ⟨c0, c1, c2, c3, d0, d1⟩ := HKC.out _ hq2
            clear HKC hq1 r0 r1
            rcases idxE_cases g.es x.ss[k].id with ⟨j, hj, hi, hid, _⟩ | ⟨hi, hall⟩
            · rw [hi]
              have HID := Lib.hid hid
              obtain ⟨bq, oq, rfl, hbq, e0, e1, e2, e3⟩ := HE.out j hj
              have s1 := since_cells hs0q hbq
              rw [← s1] at e0 e1 e2 e3
              clear s1 hi hid
              have hjm : j < m := by have := HM.out; omega
              have jj0 : (0 : Int) ≤ (j : Int) := by omega
              have jj1 : (j : Int) < (m : Int) := by omega
              have HEI := Lib.hid (valid_ini HV.out hj)
              have HO2 := Lib.hid (HOw.out.since hq2)
              obtain ⟨oo, oc, rfl, HOC⟩ := HO2.out.at.row
              have hL : (nodesT x.st ts).length = k + 1 := by rw [nodesT_len, HTL.out]
              obtain ⟨bn, on, rfl, hbn, f0⟩ := HOC.out k (by omega)
              have hla : (nodesT x.st ts)[k]'(by omega) = endT x.st ts := by
                have e := nodesT_last x.st ts (by rw [hL, HTL.out]; omega)
                simp only [HTL.out] at e
                exact e
              rw [hla] at f0
              rw [hL] at HO2 ⊢
              have hs12 := hs1q
              clear hla hL HOC
              rcases Bool.eq_false_or_eq_true x.ss[k].inv with hiv | hiv
              · skip
                have HINI : Hid (InI g.es[j].to ∧ InI g.es[j].fr) := ⟨HEI.out.2, HEI.out.1⟩
                by_cases hfe : g.es[j].to = endT x.st ts
                · skip
                  have HPT : Hid (pickT g.es[j] x.ss[k].inv = invT g.es[j]) := by unfold Hid pickT; rw [hiv]; rfl
                  rw [hiv] at d1
                  clear hiv
                  have HTV : Hid (trvF g.es (endT x.st ts) x.ss[k] = some (invT g.es[j])) := by
                    have := trvF_some HAS.out hj HID.out (x := endT x.st ts) (by rw [HPT.out]; exact hfe)
                    rw [HPT.out] at this; exact this
                  have HFS := Lib.hid (fol_step _ hx HFO.out HTV.out)
                  have hne : (g.es[j].to != endT x.st ts) = false := by simpa using hfe
                  have HTO : Hid (InI g.es[j].fr) := HINI.out.2
                  have HND : Hid (nodesT x.st (ts ++ [invT g.es[j]]) = nodesT x.st ts ++ [g.es[j].fr]) := nodesT_snoc _ _ _
                  clear hfe
                  go_wp2_with (at_builtin; (with_reducible refine wpList_append_int (o := ⟨some 94, _, _, _, _, _⟩) rfl (.tmp 91) (.tmp 93) rfl _ (nodesT x.st ts) (by first | rfl | simp [Act.eval]) HO2.out g.es[j].fr (by first | rfl | simp [Act.eval]) HTO.out HNL.out hs12 ?_); intro v6 w6 ho6 hs6; have HO6 := Lib.hid ho6; clear ho6)
                  go_roundw
                  case rel => exact ⟨k + 1, ts ++ [invT g.es[j]], by omega, by go_num, HFS.out, (by rw [HND.out]; exact HO6.out), hs6⟩
                  case measure => simp [intOf]; omega
                · skip
                  have HPT : Hid (pickT g.es[j] x.ss[k].inv = invT g.es[j]) := by unfold Hid pickT; rw [hiv]; rfl
                  rw [hiv] at d1
                  clear hiv
                  have HTV : Hid (trvF g.es (endT x.st ts) x.ss[k] = none) := trvF_far HAS.out hj HID.out (by rw [HPT.out]; exact hfe)
                  have HFN : Hid (folG g x = none) := HF.out.trans (fol_stop _ hx HFO.out HTV.out)
                  have hne : (g.es[j].to != endT x.st ts) = true := by simpa using hfe
                  have hol := own_lit w wq hs0q wq.heap.size rfl
                  have hs03 := hs0q.alloc (.cells #[] 3)
                  clear hfe
                  go_wp2
                  go_ret2
                  exact nodOut_none HFN.out hol hs03
              · skip
                have HINI : Hid (InI g.es[j].fr ∧ InI g.es[j].to) := ⟨HEI.out.1, HEI.out.2⟩
                by_cases hfe : g.es[j].fr = endT x.st ts
                · skip
                  have HPT : Hid (pickT g.es[j] x.ss[k].inv = fwdT g.es[j]) := by unfold Hid pickT; rw [hiv]; rfl
                  rw [hiv] at d1
                  clear hiv
                  have HTV : Hid (trvF g.es (endT x.st ts) x.ss[k] = some (fwdT g.es[j])) := by
                    have := trvF_some HAS.out hj HID.out (x := endT x.st ts) (by rw [HPT.out]; exact hfe)
                    rw [HPT.out] at this; exact this
                  have HFS := Lib.hid (fol_step _ hx HFO.out HTV.out)
                  have hne : (g.es[j].fr != endT x.st ts) = false := by simpa using hfe
                  have HTO : Hid (InI g.es[j].to) := HINI.out.2
                  have HND : Hid (nodesT x.st (ts ++ [fwdT g.es[j]]) = nodesT x.st ts ++ [g.es[j].to]) := nodesT_snoc _ _ _
                  clear hfe
                  go_wp2_with (at_builtin; (with_reducible refine wpList_append_int (o := ⟨some 94, _, _, _, _, _⟩) rfl (.tmp 91) (.tmp 93) rfl _ (nodesT x.st ts) (by first | rfl | simp [Act.eval]) HO2.out g.es[j].to (by first | rfl | simp [Act.eval]) HTO.out HNL.out hs12 ?_); intro v6 w6 ho6 hs6; have HO6 := Lib.hid ho6; clear ho6)
                  go_roundw
                  case rel => exact ⟨k + 1, ts ++ [fwdT g.es[j]], by omega, by go_num, HFS.out, (by rw [HND.out]; exact HO6.out), hs6⟩
                  case measure => simp [intOf]; omega
                · skip
                  have HPT : Hid (pickT g.es[j] x.ss[k].inv = fwdT g.es[j]) := by unfold Hid pickT; rw [hiv]; rfl
                  rw [hiv] at d1
                  clear hiv
                  have HTV : Hid (trvF g.es (endT x.st ts) x.ss[k] = none) := trvF_far HAS.out hj HID.out (by rw [HPT.out]; exact hfe)
                  have HFN : Hid (folG g x = none) := HF.out.trans (fol_stop _ hx HFO.out HTV.out)
                  have hne : (g.es[j].fr != endT x.st ts) = true := by simpa using hfe
                  have hol := own_lit w wq hs0q wq.heap.size rfl
                  have hs03 := hs0q.alloc (.cells #[] 3)
                  clear hfe
                  go_wp2
                  go_ret2
                  exact nodOut_none HFN.out hol hs03
            · rw [hi]
              have HFN : Hid (folG g x = none) := HF.out.trans (fol_stop _ hx HFO.out (trvF_noedge hall))
              have hol := own_lit w wq hs0q wq.heap.size rfl
              have hs03 := hs0q.alloc (.cells #[] 3)
              clear hi hall
              go_wp2
              go_ret2
              exact nodOut_none HFN.out hol hs03
          · obtain rfl : k = q := by omega
            have HFE : Hid (folG g x = some ts) := HF.out.trans (fol_done _ HQ.out HFO.out)
            have HO := Lib.hid (HOw.out.mono hs01.size)
            go_wp2
            go_ret2
            exact nodOut_some HFE.out HO.out hs0w
      · have HF := Lib.hid (folG_long (g := g) (x := x) (by rw [← HQ.out]; omega))
        clear hv hb
        go_enter Try.func73, Try.ntmps73
        go_wp2_with fail
        refine (specVG_any _ g _ (HG.out.since hs0) h1 h2).mono ?_
        rintro en w1 ⟨rfl, hs1⟩
        rw [HV.out]
        have hs01 := hs0.trans hs1
        have bg1 := Lib.hid (BG.out.since hs1)
        have bw1 := Lib.hid (BW.out.since hs1)
        obtain ⟨p0, p1, _, _⟩ := bg1.out.two
        obtain ⟨r0, r1, _, _⟩ := bw1.out.two
        go_wp2_with fail
        refine (l1In_any _ _ _ _).mono ?_
        rintro en w1' ⟨rfl, rfl⟩
        rw [HB.out]
        have hol := own_lit w w1 hs01 w1.heap.size rfl
        have hs02 := hs01.alloc (.cells #[] 3)
        go_wp2
        go_ret2
        exact nodOut_none HF.out hol hs02
    · have HB := Lib.hid hb
      have HF := Lib.hid (folG_out (g := g) (x := x) (by rw [← HNV.out]; exact hb))
      clear hv hb
      go_enter Try.func73, Try.ntmps73
      go_wp2_with fail
      refine (specVG_any _ g _ (HG.out.since hs0) h1 h2).mono ?_
      rintro en w1 ⟨rfl, hs1⟩
      rw [HV.out]
      have hs01 := hs0.trans hs1
      have bg1 := Lib.hid (BG.out.since hs1)
      have bw1 := Lib.hid (BW.out.since hs1)
      obtain ⟨p0, p1, _, _⟩ := bg1.out.two
      obtain ⟨r0, r1, _, _⟩ := bw1.out.two
      go_wp2_with fail
      refine (l1In_any _ _ _ _).mono ?_
      rintro en w1' ⟨rfl, rfl⟩
      rw [HB.out]
      have hol := own_lit w w1 hs01 w1.heap.size rfl
      have hs02 := hs01.alloc (.cells #[] 3)
      go_wp2
      go_ret2
      exact nodOut_none HF.out hol hs02
  · have HV := Lib.hid hv
    have HF := Lib.hid (folG_inval (x := x) hv)
    clear hv
    go_enter Try.func73, Try.ntmps73
    go_wp2_with fail
    refine (specVG_any _ g _ (HG.out.since hs0) h1 h2).mono ?_
    rintro en w1 ⟨rfl, hs1⟩
    rw [HV.out]
    have hs01 := hs0.trans hs1
    have bg1 := Lib.hid (BG.out.since hs1)
    have bw1 := Lib.hid (BW.out.since hs1)
    obtain ⟨p0, p1, _, _⟩ := bg1.out.two
    obtain ⟨r0, r1, _, _⟩ := bw1.out.two
    have hol := own_lit w w1 hs01 w1.heap.size rfl
    have hs02 := hs01.alloc (.cells #[] 3)
    go_wp2
    go_ret2
    exact nodOut_none HF.out hol hs02
end Go.Proofs.Ytilkheclimammaa
