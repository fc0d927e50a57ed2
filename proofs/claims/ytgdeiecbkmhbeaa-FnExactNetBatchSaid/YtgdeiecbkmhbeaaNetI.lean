/- The program's uncancelled. -/
import Derived.Test.YtgdeiecbkmhbeaaNetO
import Derived.Maps.OwnOps
namespace Go.Proofs.Ytgdeiecbkmhbeaa
set_option maxRecDepth 100000
open Go.ChangeShapes Go.WideShapes Go.ChangeAt Go.RowKit
set_option linter.unusedVariables false
set_option linter.unusedSimpArgs false

theorem info_boolN : (Try.prog.info? 4).map (fun i => (i.zero, i.size, i.bytes)) = some (some (.bool false), 1, 1) := by kernel_rfl
theorem made_boolsN (n : Nat) : (madeCells (Value.bool false).cells (n * 1)).toList = List.replicate n (.bool false) := by
  rw [Nat.mul_one]; exact toList_madeCells_one _ n
theorem setB_grown (w : World) (b : Nat) (o : Obj) : w.grownBy (setB w b o) (some b) := ⟨rfl, rfl, rfl, by rw [setB_size]; exact Nat.le_refl _, fun k _ h => setB_block w b o (fun e => h (by rw [e]))⟩
theorem MapF.since {w w' : World} {b : Nat} {f : Chg → Value} (h : MapF w b f) (k : Since w w') : MapF w' b f := h.block (k.block b h.lt)
theorem int_litN (W : World) (z : Int) (hz : InI z) : IntsAt (W.alloc (.cells #[.int .i64 z] 3)) (.slice (some ⟨W.heap.size, 0, none⟩) 1 1) [z] := by
  have hB : Blk (W.alloc (.cells #[.int .i64 z] 3)) W.heap.size 3 #[.int .i64 z] := Blk.new rfl _ _
  refine ⟨fun x hx => by simp at hx; subst hx; exact hz, .inr ⟨W.heap.size, 0, 1, rfl, hB.lt, fun i hi => ?_⟩⟩
  have hi0 : i = 0 := by simp at hi; exact hi
  subst hi0
  exact hB.cell 0
theorem plc_last {base : Nat} {W : World} {oo : Option Addr} {m oc p : Nat} {cs : List Chg} {L : List Nat} {d : Chg} (h : Own base W (.slice oo m oc) (plcI cs L d)) (hm : m = (plcN cs L d).length) (hl : (plcN cs L d).getLast? = some p) :
    ∃ g q, oo = some ⟨g, 0, none⟩ ∧ m = q + 1 ∧ base ≤ g ∧ g < W.heap.size ∧ m ≤ oc ∧ W.cell? ⟨g, q, none⟩ = some (.int .i64 (p : Int)) := by
  have h0 : 0 < m := by
    rcases Nat.eq_zero_or_pos m with e | e
    · rw [hm] at e; rw [List.length_eq_zero_iff.1 e] at hl; simp at hl
    · exact e
  have h2 := h.2
  have hlen : (plcI cs L d).length = m := by unfold plcI; rw [List.length_map]; exact hm.symm
  rw [hlen] at h2
  rcases h2.2 with ⟨hv, hn⟩ | ⟨g, cap, cur, hv, hb, hg, h4, _⟩
  · omega
  · simp only [Value.slice.injEq] at hv
    obtain ⟨rfl, -, rfl⟩ := hv
    refine ⟨g, m - 1, rfl, by omega, hb, heap_lt hg, h4, ?_⟩
    rw [h2.cellAt (m - 1) (by omega)]
    rw [List.getLast?_eq_getElem?, ← hm] at hl
    unfold plcI
    rw [List.getElem?_map, List.getElem?_map, hl]
    rfl
set_option maxHeartbeats 6000000 in
set_option maxRecDepth 100000 in
theorem uncancelled_any (v : Value) (xs : List Chg) (w : World) (h : ChgsAt w v xs) (hl : xs.length ≤ 1048577) :
    Calls Try.prog 71 #[v] w (COut w (netL xs)) := by
  have HXI := Lib.hid h.1
  obtain ⟨_, ao, cap0, rfl, HC⟩ := h
  obtain ⟨i0, hi, hz0, hz1, hz2⟩ := info_parts info_boolN
  have HZ2 := Lib.hid hz2
  clear hz2
  obtain ⟨n, hn⟩ : ∃ n, n = xs.length := ⟨_, rfl⟩
  rw [← hn]
  have hn9 : n ≤ 1048577 := by omega
  have HN := Lib.hid hn
  clear hn hl
  have hmm : ∀ W : World, (Instr.makeMap 136 none).run Try.prog W = .ok (.map (some W.heap.size)) (W.alloc (.map #[] 0)) := fun _ => rfl
  go_enter Try.func71, Try.ntmps71
  go_wp2_with (at_make; go_must (refine wpList_make_full _ rfl _ _ 135 rfl w.heap.size 4 i0 (.bool false) 1 Try.underlying135 hi hz0 hz1 .i64 .i64 _ _ n rfl rfl rfl rfl (by rw [HZ2.out]; omega) (by unfold maxLen; omega) (Nat.le_refl _) ?_); intro w1 hown hgrow)
  have hsin : Since w w1 := (Since.refl w).grown hgrow (fun _ h => by simp at h)
  have hw1 : w.heap.size < w1.heap.size := (hown.lt _ rfl).2
  have HL0 : Hid (w1.ownsRow w.heap.size 4 1 (.slice (some ⟨w.heap.size, 0, none⟩) n n) n ((outN xs 0).map Value.bool)) := by
    rw [outN_zero, List.map_replicate, ← HN.out]
    rw [made_boolsN] at hown
    exact hown
  clear hown hgrow
  obtain ⟨y, hy⟩ : ∃ y, y = w1.alloc (.map #[] 0) := ⟨_, rfl⟩
  have hs1y : Since w1 y := by rw [hy]; exact (Since.refl w1).alloc _
  have hzy : w1.heap.size + 1 = y.heap.size := by rw [hy]; simp
  have HM0 : Hid (MapF y w1.heap.size (fun _ => .slice none 0 0)) := by rw [hy]; exact MapF.made w1
  have HL1 : Hid (y.ownsRow w.heap.size 4 1 (.slice (some ⟨w.heap.size, 0, none⟩) n n) n ((outN xs 0).map Value.bool)) := row_since HL0.out hs1y
  rw [← hy]
  clear hy HL0 hmm
  have hs0y := hsin.trans hs1y
  go_loopw [18] (fun i wr => ∃ (j : Nat) (f : Chg → Value), j ≤ n ∧ i = .int .i64 j ∧ Hid (wr.ownsRow w.heap.size 4 1 (.slice (some ⟨w.heap.size, 0, none⟩) n n) n ((outN xs j).map Value.bool)) ∧ Hid (MapF wr w1.heap.size f) ∧ Hid (PlcAt (w1.heap.size + 1) wr f xs (netP xs j)) ∧ Since w wr ∧ y.heap.size ≤ wr.heap.size) (fun i _ => n - (intOf i).toNat)
  case atStart => exact ⟨0, _, Nat.zero_le _, rfl, HL1.out, HM0.out, PlcAt.start _ _ _, hs0y, Nat.le_refl _⟩
  case round =>
    obtain ⟨j, f, hj, rfl, HL, HM, HP, hsw, hyw⟩ := hrel
    by_cases hlt : j < n
    · have hx : j < xs.length := by have := HN.out; omega
      obtain ⟨be, oe, rfl, hbe, d0, d1, d2, d3, d4⟩ := HC.out j hx
      have s1 := since_cells hsw hbe
      have d0 := (s1 _).trans d0
      have d1 := (s1 _).trans d1
      have d2 := (s1 _).trans d2
      have d3 := (s1 _).trans d3
      have d4 := (s1 _).trans d4
      clear s1
      have HLTN := Lib.hid (netP_lt xs j)
      have HE1 := Lib.hid (fun he => netP_none (cs := xs) (j := j) hx he)
      have HE2 := Lib.hid (fun he => outN_keep (cs := xs) (j := j) hx he)
      have HE3 := Lib.hid (fun p he => netP_some (cs := xs) (j := j) (p := p) hx he)
      have HE4 := Lib.hid (fun p he => outN_out (cs := xs) (j := j) (p := p) hx he)
      obtain ⟨c, hc⟩ : ∃ c, xs[j] = c := ⟨_, rfl⟩
      rw [hc] at d0 d1 d2 d3 d4 HE1 HE2 HE3 HE4
      have HCJ := Lib.hid hc
      clear hc
      have hO := HP.out.1 (turnC c)
      obtain ⟨oo, oc, hfo⟩ := hO.len
      have HO := Lib.hid hO
      clear hO
      have hPL : ∀ d, (plcI xs (netP xs j) d).length = (plcN xs (netP xs j) d).length := fun d => by unfold plcI; rw [List.length_map]
      rw [hPL] at hfo
      have HPLJ : Hid (∀ d, (plcN xs (netP xs j) d).length ≤ j) := by
        intro d
        have h1 : (plcN xs (netP xs j) d).length ≤ (netP xs j).length := List.length_filter_le _ _
        have h2 : (netP xs j).length ≤ j := by
          have h3 := netP_net xs j (by omega)
          have h4 := atP_len (cs := xs) (L := netP xs j) (fun i hi => (HLTN.out i hi).2)
          have h5 := netL_len xs j
          rw [← h3] at h5; omega
        omega
      clear hPL
      obtain ⟨CB, hCB⟩ : ∃ CB, CB = wr.heap.size := ⟨_, rfl⟩
      have kk0 : (0 : Int) ≤ (j : Int) := by omega
      have kk1 : (j : Int) < (n : Int) := by omega
      obtain ⟨y5, hy5⟩ : ∃ y5, y5 = wr.alloc (.cells #[.bool c.ins, .int .i64 c.ed.id, .int .i64 c.ed.fr, .int .i64 (Edg.to c.ed), .int .i64 c.ed.lb] 98) := ⟨_, rfl⟩
      have hs5 : Since wr y5 := by rw [hy5]; exact (Since.refl wr).alloc _
      have BC : Hid (Blk y5 CB 98 #[.bool c.ins, .int .i64 c.ed.id, .int .i64 c.ed.fr, .int .i64 (Edg.to c.ed), .int .i64 c.ed.lb]) := by rw [hy5]; exact Blk.new hCB _ _
      have hcb : y.heap.size ≤ CB := by omega
      obtain ⟨⟨p0, p1, p2, p3, p4⟩, _⟩ := BC.out.fiveC
      rw [hy5, hCB] at p0 p1 p2 p3 p4
      have hin : InI (j : Int) := by unfold InI; omega
      rcases hgl : (plcN xs (netP xs j) (turnC c)).getLast? with _ | p
      · have HNS := Lib.hid (HE1.out hgl)
        have HOS := Lib.hid (HE2.out hgl)
        have he0 : plcN xs (netP xs j) (turnC c) = [] := List.getLast?_eq_none_iff.1 hgl
        rw [he0] at hfo
        have hfo : f (turnC c) = .slice oo 0 oc := hfo
        clear he0 hgl HE1 HE2 HE3 HE4 HO
        go_wp2_with fail
        rw [← hy5, ← hCB]
        clear hy5 hCB p0 p1 p2 p3 p4 d0 d1 d2 d3 d4
        refine (inverse_any c _).mono ?_
        rintro en w6 ⟨rfl, hs6⟩
        have hs56 := hs5.trans hs6
        have hz6 := hs56.size
        obtain ⟨⟨p0, p1, p2, p3, p4⟩, _⟩ := (BC.out.since hs6).fiveC
        have HM6 := Lib.hid (HM.out.since hs56)
        have HM7 : Hid (MapF (w6.alloc (.cells #[.int .i64 (j : Int)] 3)) w1.heap.size f) := HM6.out.since ((Since.refl w6).alloc _)
        have HP7 : Hid (PlcAt (w1.heap.size + 1) (w6.alloc (.cells #[.int .i64 (j : Int)] 3)) f xs (netP xs j)) := (HP.out.since hs56).since ((Since.refl w6).alloc _)
        have HLI := Lib.hid (int_litN w6 (j : Int) hin)
        have hlen1 : (plcI xs (netP xs j) c).length + [(j : Int)].length ≤ 4194304 := by have := HPLJ.out c; unfold plcI; rw [List.length_map]; simp; omega
        have hbs : ∀ ob, w1.heap.size + 1 ≤ (setB (w6.alloc (.cells #[.int .i64 (j : Int)] 3)) w1.heap.size ob).heap.size := fun ob => by rw [setB_size]; simp; omega
        have HRW : Hid (∀ x, (f c).ownBlock = some x → w1.heap.size + 1 ≤ x) := fun x hx => ((HP7.out.1 c).2.lt x hx).1
        go_wp2_with (first
          | (at_lookup; go_must (refine wpList_lookup_chg rfl (.tmp 23) (.tmp 25) rfl w1.heap.size f (turnC c) rfl rfl HM6.out ?_; rw [hfo]))
          | (refine wpList_mapEntry_chg (o := ⟨some 35, _, _, _, _, _⟩) rfl (.tmp 30) (.tmp 31) rfl w1.heap.size f c rfl rfl HM7.out ?_; intro ob st hME)
          | (refine wpList_append_ints (o := ⟨some 36, _, _, _, _, _⟩) rfl (.tmp 32) (.tmp 34) rfl (w1.heap.size + 1) (f c) (plcI xs (netP xs j) c) rfl ((HP7.out.setB (by omega) _).1 c) (some ⟨w6.heap.size, 0, none⟩) 1 1 rfl [(j : Int)] (HLI.out.grown (setB_grown _ _ _) (.inr (fun e => by injection e with e; simp at e; omega))) hlen1 (hbs _) ?_; intro v3 w3 ho3 hg3 hb3)
          | (refine wpList_entryStore_chg (o := ⟨none, _, _, _, _, _⟩) rfl (.tmp 30) (.tmp 37) (.tmp 36) rfl w1.heap.size st f c v3 rfl rfl rfl (hME.block (hg3.block _ hME.lt (fun e => by have := HRW.out _ e.symm; omega))) ?_; intro ob2 hMF2))
        have HMF := Lib.hid hMF2
        have HP8 : Hid (PlcAt (w1.heap.size + 1) (setB w3 w1.heap.size ob2) (updF f c v3) xs (netP xs (j + 1))) := by
          unfold Hid
          rw [HNS.out]
          exact ((HP7.out.setB (by omega) ob).more hx HCJ.out ho3 hg3 hb3).setB (by omega) ob2
        have HL8 : Hid ((setB w3 w1.heap.size ob2).ownsRow w.heap.size 4 1 (.slice (some ⟨w.heap.size, 0, none⟩) n n) n ((outN xs (j + 1)).map Value.bool)) := by
          unfold Hid
          rw [HOS.out]
          refine row_keep HL.out (fun k hk => ?_)
          obtain rfl : w.heap.size = k := by simpa [Value.ownBlock] using hk
          rw [setB_block _ _ _ (by omega), hg3.block _ (by rw [setB_size]; simp; omega) (fun e => by have := HRW.out _ e.symm; omega), setB_block _ _ _ (by omega)]
          exact (hs56.trans ((Since.refl w6).alloc _)).block _ (by omega)
        have hsz : Since w (setB w3 w1.heap.size ob2) := ((((hsw.trans hs56).alloc (.cells #[.int .i64 (j : Int)] 3)).setB (by omega) ob).grown hg3 (fun k hk => by have := HRW.out _ hk; omega)).setB (by omega) ob2
        have hyz : y.heap.size ≤ (setB w3 w1.heap.size ob2).heap.size := by rw [setB_size]; have := hg3.size; rw [setB_size] at this; simp at this; omega
        have hyz2 : y.heap.size ≤ (w3.heap.setIfInBounds w1.heap.size ob2).size := hyz
        clear hMF2 hME ho3 hg3 hb3 HP7 HM7 HM6 HM HP HL HLI p0 p1 p2 p3 p4
        generalize setB w3 w1.heap.size ob2 = wz at HMF HP8 HL8 hsz hyz ⊢
        go_wp2
        go_roundw
        case rel => exact ⟨j + 1, _, by omega, by go_num, HL8.out, HMF.out, HP8.out, hsz, by first | exact hyz | exact hyz2⟩
        case measure => simp [intOf]; omega
      · have HNS := Lib.hid (HE3.out p hgl)
        have HOS := Lib.hid (HE4.out p hgl)
        have HLA := Lib.hid hgl
        have hpj : p < j := (HLTN.out p (plcN_last hgl).1).1
        have HPJ2 := HPLJ.out (turnC c)
        obtain ⟨m, hm⟩ : ∃ m, m = (plcN xs (netP xs j) (turnC c)).length := ⟨_, rfl⟩
        rw [← hm] at hfo HPJ2
        have HMQ := Lib.hid hm
        have hOo := HO.out
        rw [hfo] at hOo
        obtain ⟨g, q, rfl, hq, hbg, hgl2, hmo, e0⟩ := plc_last hOo hm hgl
        have HQ1 : Hid (m - 1 = q) := by unfold Hid; omega
        clear hOo HE1 HE2 HE3 HE4 HO hgl hm
        have hm0 : ((m : Int) == 0) = false := by simp; omega
        have hmq : (m : Int) - 1 = (q : Int) := by omega
        have qq0 : (0 : Int) ≤ (q : Int) := by omega
        have qq1 : (q : Int) < (m : Int) := by omega
        have hqo : q ≤ oc := by omega
        have pp0 : (0 : Int) ≤ (p : Int) := by omega
        have pp1 : (p : Int) < (n : Int) := by omega
        go_wp2_with fail
        rw [← hy5, ← hCB]
        clear hy5 hCB p0 p1 p2 p3 p4 d0 d1 d2 d3 d4
        refine (inverse_any c _).mono ?_
        rintro en w6 ⟨rfl, hs6⟩
        have hs56 := hs5.trans hs6
        have hz6 := hs56.size
        have HM6 := Lib.hid (HM.out.since hs56)
        have hL6 := row_since HL.out hs56
        have hol : ((outN xs j).map Value.bool).length = n := by rw [List.length_map, outN_len]; exact HN.out.symm
        have r1 := hL6.cellAt j (by omega)
        have r2 := hL6.cellAt p (by omega)
        rw [List.getElem?_eq_getElem (by omega)] at r1 r2
        have r3 := hL6.frozenAt j
        have r4 := hL6.frozenAt p
        have e0 := (since_cells hs56 hgl2 _).trans e0
        generalize ((outN xs j).map Value.bool)[j] = b1 at r1
        generalize ((outN xs j).map Value.bool)[p] = b2 at r2
        have HL6 := Lib.hid hL6
        clear hL6 hol
        go_wp2_with (at_lookup; go_must (refine wpList_lookup_chg rfl (.tmp 23) (.tmp 25) rfl w1.heap.size f (turnC c) rfl rfl HM6.out ?_; rw [hfo]))
        clear r1 r2 r3 r4 e0
        obtain ⟨w7, hw7⟩ : ∃ W, W = (w6.setCell ⟨w.heap.size, j, none⟩ (.bool true)).setCell ⟨w.heap.size, p, none⟩ (.bool true) := ⟨_, rfl⟩
        rw [← hw7]
        have hr1 := HL6.out.stored j (.bool true)
        have hr2 := hr1.1.stored p (.bool true)
        rw [← hw7] at hr2
        have HL7 : Hid (w7.ownsRow w.heap.size 4 1 (.slice (some ⟨w.heap.size, 0, none⟩) n n) n ((((outN xs j).set j true).set p true).map Value.bool)) := by
          unfold Hid; rw [List.map_set, List.map_set]; exact hr2.1
        have hk7 : ∀ k, k < w6.heap.size → k ≠ w.heap.size → w7.heap[k]? = w6.heap[k]? := fun k hk hne =>
          (hr2.2.block k (Nat.lt_of_lt_of_le hk hr1.2.size) (fun e => by injection e with e; omega)).trans (hr1.2.block k hk (fun e => by injection e with e; omega))
        have hz7 : w6.heap.size ≤ w7.heap.size := Nat.le_trans hr1.2.size hr2.2.size
        have hsw7 : Since w w7 := by rw [hw7]; exact ((hsw.trans hs56).setCell (Nat.le_refl _) _).setCell (Nat.le_refl _) _
        have HM7 : Hid (MapF w7 w1.heap.size f) := HM6.out.block (hk7 _ HM6.out.lt (by omega))
        have HP7 : Hid (PlcAt (w1.heap.size + 1) w7 f xs (netP xs j)) := (HP.out.since hs56).keep (fun k h1 h2 => hk7 k h2 (by omega))
        have BC7 : Hid (Blk w7 CB 98 #[.bool c.ins, .int .i64 c.ed.id, .int .i64 c.ed.fr, .int .i64 (Edg.to c.ed), .int .i64 c.ed.lb]) := (hk7 CB (by have := (BC.out.since hs6).lt; omega) (by omega)).trans (BC.out.since hs6)
        clear hr1 hr2 hk7 hw7 HM6 HL6 HP HM HL BC
        refine wp_region_held_drew (S := (fun w' => w'.cell? ⟨CB, 0, none⟩ = some (.bool c.ins) ∧ w'.cell? ⟨CB, 1, none⟩ = some (.int .i64 c.ed.id) ∧ w'.cell? ⟨CB, 2, none⟩ = some (.int .i64 c.ed.fr) ∧ w'.cell? ⟨CB, 3, none⟩ = some (.int .i64 (Edg.to c.ed)) ∧ w'.cell? ⟨CB, 4, none⟩ = some (.int .i64 c.ed.lb))) (by kernel_rfl) BC7.out.fiveC.1 (fun hHeld => ?_)
        refine take_yes 0 (some 50) (v := ?_) rfl (by kernel_rfl) (by kernel_rfl) (by kernel_rfl) (by kernel_rfl) (fun _ _ _ h => h) (by rfl) (by assumption) ?_ ?_
        rotate_left
        · (intro w' hSw; (try dsimp only at hSw); go_simp; try with_reducible rfl)
        try simp only [Act.put, List.setIfInBounds_toArray, List.set_cons_zero, List.set_cons_succ]
        refine take_yes 1 (some 51) (v := ?_) rfl (by kernel_rfl) (by kernel_rfl) (by kernel_rfl) (by kernel_rfl) (fun _ _ _ h => h) (by rfl) (by assumption) ?_ ?_
        rotate_left
        · (intro w' hSw; (try dsimp only at hSw); go_simp; try with_reducible rfl)
        try simp only [Act.put, List.setIfInBounds_toArray, List.set_cons_zero, List.set_cons_succ]
        refine take_yes 3 (some 53) (v := ?_) rfl (by kernel_rfl) (by kernel_rfl) (by kernel_rfl) (by kernel_rfl) (fun _ _ _ h => h) (by rfl) (by assumption) ?_ ?_
        rotate_left
        · (intro w' hSw; (try dsimp only at hSw); go_simp; try with_reducible rfl)
        try simp only [Act.put, List.setIfInBounds_toArray, List.set_cons_zero, List.set_cons_succ]
        refine take_yes 4 (some 54) (v := ?_) rfl (by kernel_rfl) (by kernel_rfl) (by kernel_rfl) (by kernel_rfl) (fun _ _ _ h => h) (by rfl) (by assumption) ?_ ?_
        rotate_left
        · (intro w' hSw; (try dsimp only at hSw); go_simp; try with_reducible rfl)
        try simp only [Act.put, List.setIfInBounds_toArray, List.set_cons_zero, List.set_cons_succ]
        refine take_yes 5 (some 55) (v := ?_) rfl (by kernel_rfl) (by kernel_rfl) (by kernel_rfl) (by kernel_rfl) (fun _ _ _ h => h) (by rfl) (by assumption) ?_ ?_
        rotate_left
        · (intro w' hSw; (try dsimp only at hSw); go_simp; try with_reducible rfl)
        try simp only [Act.put, List.setIfInBounds_toArray, List.set_cons_zero, List.set_cons_succ]
        refine take_run 2 rfl (by kernel_rfl) (by rfl) (fun K hK => ?_)
        go_simp
        refine (inverse_any c _).mono ?_
        rintro en w8 ⟨rfl, hs8⟩
        have hc8 : Since w7 w8 := (Since.refl w7).drew.trans hs8
        refine hK.out _ _ ((BC7.out.since hc8).fiveC.1) (fun hHeld1 => ?_)
        clear hK K hHeld
        try simp only [Act.put, List.setIfInBounds_toArray, List.set_cons_zero, List.set_cons_succ]
        refine take_run 6 rfl (by kernel_rfl) (by rfl) (fun K hK => ?_)
        refine wp_mapUpdate_chg (.tmp 50) (.tmp 52) (.tmp 55) rfl w1.heap.size f (turnC c) (.slice (some ⟨g, 0, none⟩) q oc) rfl rfl rfl (HM7.out.since hc8) ?_
        intro ob hMF
        have HMF := Lib.hid hMF
        clear hMF
        refine hK.out _ _ ((BC7.out.since hc8).grwC (setB_grown w8 w1.heap.size ob) (fun e => by injection e with e; omega)).fiveC.1 (fun hHeld2 => ?_)
        clear hK K hHeld1
        try simp only [Act.put, List.setIfInBounds_toArray, List.set_cons_zero, List.set_cons_succ]
        refine wpAnyH_done (by kernel_rfl) ?_ _
        clear hHeld2
        have HP8 : Hid (PlcAt (w1.heap.size + 1) (setB w8 w1.heap.size ob) (updF f (turnC c) (.slice (some ⟨g, 0, none⟩) q oc)) xs (netP xs (j + 1))) := by
          have h2 := PlcAt.less (HP7.out.since hc8) (netP_nodup xs j) HLA.out hfo HMQ.out
          rw [HQ1.out] at h2
          unfold Hid
          rw [HNS.out]
          exact h2.setB (by omega) _
        have HL8 : Hid ((setB w8 w1.heap.size ob).ownsRow w.heap.size 4 1 (.slice (some ⟨w.heap.size, 0, none⟩) n n) n ((outN xs (j + 1)).map Value.bool)) := by
          unfold Hid
          rw [HOS.out]
          refine row_keep HL7.out (fun k hk => ?_)
          obtain rfl : w.heap.size = k := by simpa [Value.ownBlock] using hk
          rw [setB_block _ _ _ (by omega)]
          exact hc8.block _ (by have := HL7.out.lt _ rfl; omega)
        have hsz : Since w (setB w8 w1.heap.size ob) := (hsw7.trans hc8).setB (by omega) ob
        have hyz : y.heap.size ≤ (setB w8 w1.heap.size ob).heap.size := by rw [setB_size]; have := hc8.size; omega
        clear HP7 HL7 HM7 hc8 hs8 BC7
        generalize setB w8 w1.heap.size ob = wz at HMF HP8 HL8 hsz hyz ⊢
        go_wp2
        go_roundw
        case rel => exact ⟨j + 1, _, by omega, by go_num, HL8.out, HMF.out, HP8.out, hsz, hyz⟩
        case measure => simp [intOf]; omega
    · obtain rfl : j = n := by omega
      obtain ⟨wq, hwq⟩ : ∃ W, W = wr := ⟨_, rfl⟩
      subst hwq
      have HK : Hid (∀ k (hk : k < xs.length), (wq.cell? ⟨w.heap.size, k, none⟩ = some (.bool (!decide (k ∈ netP xs xs.length)))) ∧ keptN xs (k + 1) = keptN xs k ++ (if k ∈ netP xs xs.length then [xs[k]] else [])) := by
        intro k hk
        refine ⟨?_, keptN_step hk⟩
        rw [HL.out.cellAt k (by have := HN.out; omega), List.getElem?_map, HN.out, List.getElem?_eq_getElem (by rw [outN_len]; exact hk), outN_kept hk]
        rfl
      have HKL : Hid (∀ k, k ≤ xs.length → (keptN xs k).length ≤ k) := by
        intro k hk
        have h1 : (keptN xs k).length ≤ ((List.range k).filter fun i => decide (i ∈ netP xs xs.length)).length := by unfold keptN atP; exact List.length_filterMap_le _ _
        have h2 := List.length_filter_le (fun i => decide (i ∈ netP xs xs.length)) (List.range k)
        rw [List.length_range] at h2
        omega
      have hk0 : keptN xs 0 = [] := by simp [keptN, atP]
      have hww : w.heap.size < wq.heap.size := by omega
      clear HL HM HP
      go_wp2_with fail
      go_loopw [9, 59] (fun v i wr => ∃ k : Nat, k ≤ j ∧ i = .int .i64 k ∧ Hid (OwnC wq.heap.size wr v (keptN xs k)) ∧ Since wq wr) (fun _ i _ => j - (intOf i).toNat)
      case atStart => exact ⟨0, Nat.zero_le _, rfl, ⟨fun x hx => by rw [hk0] at hx; simp at hx, by rw [hk0]; exact World.ownsRow_nil _ _ _ _⟩, Since.refl _⟩
      case round =>
        obtain ⟨k, hk, rfl, HO, hsz⟩ := hrel
        obtain ⟨vo, vc, rfl⟩ := HO.out.len
        have hs0z := hsw.trans hsz
        by_cases hlt2 : k < j
        · have hx : k < xs.length := by have := HN.out; omega
          obtain ⟨be, oe, rfl, hbe, d0, d1, d2, d3, d4⟩ := HC.out k hx
          obtain ⟨hkc, hks⟩ := HK.out k hx
          have e0 : wr.cell? ⟨w.heap.size, k, none⟩ = some (.bool (!decide (k ∈ netP xs xs.length))) := (since_cells hsz hww _).trans hkc
          obtain ⟨bb, hbb⟩ : ∃ bb, bb = !decide (k ∈ netP xs xs.length) := ⟨_, rfl⟩
          rw [← hbb] at e0
          have hwr : w.heap.size < wr.heap.size := by have := hsz.size; omega
          have e1 : ∀ o, (wr.alloc o).cell? ⟨w.heap.size, k, none⟩ = some (.bool bb) := fun o => (since_cells ((Since.refl wr).alloc o) hwr _).trans e0
          have s1 := since_cells hs0z hbe
          have d0 := (s1 _).trans d0
          have d1 := (s1 _).trans d1
          have d2 := (s1 _).trans d2
          have d3 := (s1 _).trans d3
          have d4 := (s1 _).trans d4
          have HCI : Hid (xs[k].ed.In) := HXI.out _ (List.getElem_mem hx)
          have HLE := HKL.out k (by omega)
          have kk0 : (0 : Int) ≤ (k : Int) := by omega
          have kk1 : (k : Int) < (j : Int) := by omega
          clear s1 hkc
          generalize xs[k] = c at d0 d1 d2 d3 d4 hks HCI
          by_cases hm : k ∈ netP xs xs.length
          · rw [if_pos hm] at hks
            rw [decide_eq_true hm] at hbb
            have HKS := Lib.hid hks
            obtain rfl : bb = false := hbb
            have e1 := e1 (.cells #[.bool c.ins, .int .i64 c.ed.id, .int .i64 c.ed.fr, .int .i64 (Edg.to c.ed), .int .i64 c.ed.lb] 98)
            clear hks hm
            have hLN : (keptN xs k).length + [c].length ≤ 4194304 := by simp; omega
            have hsb : Since wr (wr.alloc (.cells #[.bool c.ins, .int .i64 c.ed.id, .int .i64 c.ed.fr, .int .i64 (Edg.to c.ed), .int .i64 c.ed.lb] 98)) := (Since.refl wr).alloc _
            obtain ⟨⟨p0, p1, p2, p3, p4⟩, _⟩ := (Blk.new (w := wr) rfl (t := 98) #[.bool c.ins, .int .i64 c.ed.id, .int .i64 c.ed.fr, .int .i64 (Edg.to c.ed), .int .i64 c.ed.lb]).fiveC
            have HLI : Hid (ChgsAt ((wr.alloc (.cells #[.bool c.ins, .int .i64 c.ed.id, .int .i64 c.ed.fr, .int .i64 (Edg.to c.ed), .int .i64 c.ed.lb] 98)).alloc (.cells #[.bool c.ins, .int .i64 c.ed.id, .int .i64 c.ed.fr, .int .i64 (Edg.to c.ed), .int .i64 c.ed.lb] 98)) (.slice (some ⟨wr.heap.size + 1, 0, none⟩) 1 1) [c]) := by
              have h1 := chg_lit (wr.alloc (.cells #[.bool c.ins, .int .i64 c.ed.id, .int .i64 c.ed.fr, .int .i64 (Edg.to c.ed), .int .i64 c.ed.lb] 98)) c HCI.out
              rw [show (wr.alloc (.cells #[.bool c.ins, .int .i64 c.ed.id, .int .i64 c.ed.fr, .int .i64 (Edg.to c.ed), .int .i64 c.ed.lb] 98)).heap.size = wr.heap.size + 1 from by simp] at h1
              exact h1
            go_wp2_with (refine wpList_append_chgs (o := ⟨some 72, _, _, _, _, _⟩) rfl (.tmp 69) (.tmp 71) rfl wq.heap.size (.slice vo (keptN xs k).length vc) (keptN xs k) rfl ((HO.out.since hsb).since ((Since.refl _).alloc _)) _ 1 1 rfl [c] HLI.out hLN (by have := hsz.size; simp; omega) ?_; intro v3 w3 ho3 hg3 hb3)
            have HO3 : Hid (OwnC wq.heap.size w3 v3 (keptN xs (k + 1))) := by unfold Hid; rw [HKS.out]; exact ho3
            have hs3 : Since wq w3 := ((hsz.trans hsb).alloc _).grown hg3 (fun q hq => (HO.out.2.lt q hq).1)
            clear ho3 hg3 hb3 p0 p1 p2 p3 p4 d0 d1 d2 d3 d4 e0 e1 HO HLI
            go_wp2
            go_roundw
            case rel => exact ⟨k + 1, by omega, by go_num, HO3.out, hs3⟩
            case measure => simp [intOf]; omega
          · rw [if_neg hm, List.append_nil] at hks
            rw [decide_eq_false hm] at hbb
            have HKS := Lib.hid hks
            obtain rfl : bb = true := hbb
            have e1 := e1 (.cells #[.bool c.ins, .int .i64 c.ed.id, .int .i64 c.ed.fr, .int .i64 (Edg.to c.ed), .int .i64 c.ed.lb] 98)
            clear hks hm
            have HO3 : Hid (OwnC wq.heap.size (wr.alloc (.cells #[.bool c.ins, .int .i64 c.ed.id, .int .i64 c.ed.fr, .int .i64 (Edg.to c.ed), .int .i64 c.ed.lb] 98)) (.slice vo (keptN xs k).length vc) (keptN xs (k + 1))) := by unfold Hid; rw [HKS.out]; exact HO.out.since ((Since.refl wr).alloc _)
            have hs3 : Since wq (wr.alloc (.cells #[.bool c.ins, .int .i64 c.ed.id, .int .i64 c.ed.fr, .int .i64 (Edg.to c.ed), .int .i64 c.ed.lb] 98)) := hsz.alloc _
            generalize (keptN xs k).length = q at HO3 ⊢
            clear HO
            go_wp2
            go_roundw
            case rel => exact ⟨k + 1, by omega, by go_num, HO3.out, hs3⟩
            case measure => simp [intOf]; omega
        · obtain rfl : k = j := by omega
          have HOR : Hid (OwnC w.heap.size wr (.slice vo (keptN xs k).length vc) (netL xs)) := by
            have h1 := HO.out
            rw [HN.out, keptN_all] at h1 ⊢
            exact h1.mono (by omega)
          generalize (keptN xs k).length = q at HOR ⊢
          clear HO
          go_wp2
          go_ret
          exact ⟨_, rfl, HOR.out, hs0z⟩
end Go.Proofs.Ytgdeiecbkmhbeaa
