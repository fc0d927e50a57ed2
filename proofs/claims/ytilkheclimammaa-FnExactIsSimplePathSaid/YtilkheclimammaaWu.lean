/- The model's WalkWord, IsTrail, IsSimplePath. -/
import Derived.Test.YtilkheclimammaaWe
import Derived.Test.YtilkheclimammaaNaQ
namespace Go.Proofs.Ytilkheclimammaa
set_option maxRecDepth 100000
open Go.ChangeShapes Go.WideShapes Go.ChangeAt Go.RowKit
set_option linter.unusedVariables false
set_option linter.unusedSimpArgs false

theorem word_map {g : Grf} {x : Wlk} (h : validW g x = true) : wordW g x = x.ss.map (fun s => (tOf (travG g) s).le) ∧ ∀ s ∈ x.ss, InI (tOf (travG g) s).le := by
  unfold validW at h
  obtain ⟨ts, hts⟩ := Option.isSome_iff_exists.1 h
  obtain ⟨v1, v2, v3, v4⟩ := folG_some hts
  have e := fol_tof v1 v4
  refine ⟨?_, ?_⟩
  · rw [(endW_some hts).2.2.2, e, List.map_map]; rfl
  · intro s hs
    have := (fol_ini hts).2 (tOf (travG g) s) (by rw [e]; exact List.mem_map_of_mem hs)
    exact this.2.1
set_option maxHeartbeats 2000000 in
set_option maxRecDepth 100000 in
theorem specWW_any (v u : Value) (g : Grf) (x : Wlk) (w : World) (h : GrfAt w v g) (hu : WlkAt w u x) (h1 : g.vs.length ≤ 1048577) (h2 : g.es.length ≤ 1048577) (h3 : x.ss.length ≤ 1048577) :
    Calls Try.prog 43 #[v, u] w (OwnOut w (wordW g x)) := by
  have HG := Lib.hid h
  have HU := Lib.hid hu
  obtain ⟨a, b, rfl, ha, hb⟩ := h
  obtain ⟨ao, ac, rfl, _⟩ := ha.row
  obtain ⟨bo, bc, rfl⟩ := hb.len
  obtain ⟨so, rfl, hss⟩ := hu
  obtain ⟨sao, sac, rfl, HS⟩ := hss
  clear ha hb
  have hs0 : Since w ((w.alloc (.cells #[.slice ao g.vs.length ac, .slice bo g.es.length bc] 27)).alloc (.cells #[.int .i64 x.st, .slice sao x.ss.length sac] 53)) := ((Since.refl w).alloc _).alloc _
  have BG : Hid (Blk ((w.alloc (.cells #[.slice ao g.vs.length ac, .slice bo g.es.length bc] 27)).alloc (.cells #[.int .i64 x.st, .slice sao x.ss.length sac] 53)) w.heap.size 27 #[.slice ao g.vs.length ac, .slice bo g.es.length bc]) := (Blk.new rfl _ _).alloc _
  have BW : Hid (Blk ((w.alloc (.cells #[.slice ao g.vs.length ac, .slice bo g.es.length bc] 27)).alloc (.cells #[.int .i64 x.st, .slice sao x.ss.length sac] 53)) (w.heap.size + 1) 53 #[.int .i64 x.st, .slice sao x.ss.length sac]) := Blk.new (by simp) _ _
  have HIV := Lib.hid (fun V U W (k1 : GrfAt W V g) (k2 : WlkAt W U x) => specIVW_any V U g x W k1 k2 h1 h2 h3)
  obtain ⟨c, hc⟩ : ∃ c, validW g x = c := ⟨_, rfl⟩
  have HC := Lib.hid hc
  rw [hc] at HIV
  obtain ⟨q, hq⟩ : ∃ q, q = x.ss.length := ⟨_, rfl⟩
  rw [← hq] at HU BW hs0 BG ⊢
  have HQ := Lib.hid hq
  have hq9 : q ≤ 1048577 := by omega
  have HL4 : Hid (∀ W (s : Stp), GrfAt W (.agg #[.slice ao g.vs.length ac, .slice bo g.es.length bc]) g → Calls Try.prog 82 #[.agg #[.slice ao g.vs.length ac, .slice bo g.es.length bc], .agg #[.int .i64 s.id, .bool s.inv]] W fun en w' => en = .returned (.int .i64 (tOf (travG g) s).le) ∧ Since W w') := fun W s hu => specLtr_any _ g s W hu h1 h2
  clear hc hq
  go_enter Try.func43, Try.ntmps43
  go_wp2_with fail
  obtain ⟨y, hy⟩ : ∃ y, y = (w.alloc (.cells #[.slice ao g.vs.length ac, .slice bo g.es.length bc] 27)).alloc (.cells #[.int .i64 x.st, .slice sao q sac] 53) := ⟨_, rfl⟩
  rw [← hy] at hs0 BG BW ⊢
  have hol := own_lit y y (Since.refl y) y.heap.size rfl
  have hsl := (Since.refl y).alloc (.cells #[] 3)
  have hyz : Hid (w.heap.size + 1 + 1 = y.heap.size) := by rw [hy]; unfold Hid; simp
  clear hy
  try rw [hyz.out]
  cases c
  · have HW : Hid (wordW g x = []) := by
      cases hf : folG g x with
      | none => exact (endW_none hf).2.2.2
      | some ts => have := HC.out; rw [(endW_some hf).1] at this; cases this
    go_loopw [5, 6] (fun out i wr => i = .int .i64 0 ∧ Hid (Own y.heap.size wr out []) ∧ Since y wr) (fun _ _ _ => 0)
    case atStart => exact ⟨rfl, hol, hsl⟩
    case round =>
      obtain ⟨rfl, HOw, hsw⟩ := hrel
      have hs0w := hs0.trans hsw
      obtain ⟨p0, p1, _, _⟩ := (BG.out.since hsw).two
      obtain ⟨r0, r1, _, _⟩ := (BW.out.since hsw).two
      have HO := Lib.hid (HOw.out.mono hs0.size)
      by_cases hq0 : 0 < q
      · go_wp2_with fail
        refine (HIV.out _ _ _ (HG.out.since hs0w) (HU.out.since hs0w)).mono ?_
        rintro en w2 ⟨rfl, hs2⟩
        have HO2 := Lib.hid (HO.out.since hs2)
        have hs02 := hs0w.trans hs2
        go_wp2
        go_ret
        exact ⟨_, rfl, by rw [HW.out]; exact HO2.out, hs02⟩
      · go_wp2
        go_ret
        exact ⟨_, rfl, by rw [HW.out]; exact HO.out, hs0w⟩
  · obtain ⟨hwm, hin⟩ := word_map HC.out
    have HIN := Lib.hid hin
    have HWM := Lib.hid hwm
    clear hwm hin
    obtain ⟨F, hF⟩ : ∃ F : Stp → Int, F = fun s => (tOf (travG g) s).le := ⟨_, rfl⟩
    have HL4 : Hid (∀ W (s : Stp), GrfAt W (.agg #[.slice ao g.vs.length ac, .slice bo g.es.length bc]) g → Calls Try.prog 82 #[.agg #[.slice ao g.vs.length ac, .slice bo g.es.length bc], .agg #[.int .i64 s.id, .bool s.inv]] W fun en w' => en = .returned (.int .i64 (F s)) ∧ Since W w') := by subst hF; exact HL4
    have HIN : Hid (∀ s ∈ x.ss, InI (F s)) := by subst hF; exact HIN
    have HWM : Hid (wordW g x = x.ss.map F) := by subst hF; exact HWM
    clear hF
    go_loopw [5, 6] (fun out i wr => ∃ k : Nat, k ≤ q ∧ i = .int .i64 k ∧ Hid (Own y.heap.size wr out ((x.ss.take k).map F)) ∧ Since y wr) (fun _ i _ => q - (intOf i).toNat)
    case atStart => exact ⟨0, Nat.zero_le _, rfl, hol, hsl⟩
    case round =>
      obtain ⟨k, hk, rfl, HOw, hsw⟩ := hrel
      have hs0w := hs0.trans hsw
      obtain ⟨p0, p1, _, _⟩ := (BG.out.since hsw).two
      obtain ⟨r0, r1, _, _⟩ := (BW.out.since hsw).two
      by_cases hlt : k < q
      · have hx : k < x.ss.length := by have := HQ.out; omega
        obtain ⟨be, oe, rfl, hbe, d0, d1⟩ := HS.out k hx
        have HKC0 : Hid (∀ w', Since wr w' → w'.cell? ⟨w.heap.size, 0, none⟩ = some (.slice ao g.vs.length ac) ∧ w'.cell? ⟨w.heap.size, 1, none⟩ = some (.slice bo g.es.length bc) ∧ w'.cell? ⟨w.heap.size + 1, 0, none⟩ = some (.int .i64 x.st) ∧ w'.cell? ⟨w.heap.size + 1, 1, none⟩ = some (.slice (some ⟨be, oe, none⟩) q sac) ∧ w'.cell? ⟨be, oe + k * 2, none⟩ = some (.int .i64 x.ss[k].id) ∧ w'.cell? ⟨be, oe + k * 2 + 1, none⟩ = some (.bool x.ss[k].inv)) := by
          intro w' hs
          obtain ⟨x0, x1, _, _⟩ := (BG.out.since (hsw.trans hs)).two
          obtain ⟨y0, y1, _, _⟩ := (BW.out.since (hsw.trans hs)).two
          have s1 := since_cells (hs0w.trans hs) hbe
          exact ⟨x0, x1, y0, y1, (s1 _).trans d0, (s1 _).trans d1⟩
        have hki : (k : Int) < (q : Int) := by omega
        have hk0 : (0 : Int) ≤ (k : Int) := by omega
        have HT := Lib.hid (map_take F x.ss k hx)
        have HFI := Lib.hid (HIN.out _ (List.getElem_mem hx))
        have HZL : Hid (((x.ss.take k).map F).length + [F x.ss[k]].length ≤ 4194304) := by unfold Hid; simp; omega
        clear d0 d1
        go_wp2_with fail
        refine (HIV.out _ _ _ (HG.out.since hs0w) (HU.out.since hs0w)).mono ?_
        rintro en w2 ⟨rfl, hs2⟩
        have HO2 := Lib.hid (HOw.out.since hs2)
        have hs02 := hs0w.trans hs2
        have hsy2 := hsw.trans hs2
        have HKC : Hid (∀ w', Since w2 w' → w'.cell? ⟨w.heap.size, 0, none⟩ = some (.slice ao g.vs.length ac) ∧ w'.cell? ⟨w.heap.size, 1, none⟩ = some (.slice bo g.es.length bc) ∧ w'.cell? ⟨w.heap.size + 1, 0, none⟩ = some (.int .i64 x.st) ∧ w'.cell? ⟨w.heap.size + 1, 1, none⟩ = some (.slice (some ⟨be, oe, none⟩) q sac) ∧ w'.cell? ⟨be, oe + k * 2, none⟩ = some (.int .i64 x.ss[k].id) ∧ w'.cell? ⟨be, oe + k * 2 + 1, none⟩ = some (.bool x.ss[k].inv)) := fun w' hs => HKC0.out w' (hs2.trans hs)
        clear p0 p1 r0 r1
        go_wp2_with fail
        refine wp_region_held_drew (S := (fun w' => w'.cell? ⟨w.heap.size, 0, none⟩ = some (.slice ao g.vs.length ac) ∧ w'.cell? ⟨w.heap.size, 1, none⟩ = some (.slice bo g.es.length bc) ∧ w'.cell? ⟨w.heap.size + 1, 0, none⟩ = some (.int .i64 x.st) ∧ w'.cell? ⟨w.heap.size + 1, 1, none⟩ = some (.slice (some ⟨be, oe, none⟩) q sac) ∧ w'.cell? ⟨be, oe + k * 2, none⟩ = some (.int .i64 x.ss[k].id) ∧ w'.cell? ⟨be, oe + k * 2 + 1, none⟩ = some (.bool x.ss[k].inv))) (by kernel_rfl) (HKC.out _ (Since.refl _).drew) (fun hHeld => ?_)
        refine take_yes 0 (some 20) (v := ?_) rfl (by kernel_rfl) (by kernel_rfl) (by kernel_rfl) (by kernel_rfl) (fun _ _ _ h => h) (by rfl) (by assumption) ?_ ?_
        rotate_left
        · (intro w' hSw; (try dsimp only at hSw); go_simp; try with_reducible rfl)
        try simp only [Act.put, List.setIfInBounds_toArray, List.set_cons_zero, List.set_cons_succ]
        refine take_yes 1 (some 21) (v := ?_) rfl (by kernel_rfl) (by kernel_rfl) (by kernel_rfl) (by kernel_rfl) (fun _ _ _ h => h) (by rfl) (by assumption) ?_ ?_
        rotate_left
        · (intro w' hSw; (try dsimp only at hSw); go_simp; try with_reducible rfl)
        try simp only [Act.put, List.setIfInBounds_toArray, List.set_cons_zero, List.set_cons_succ]
        refine take_yes 2 (some 22) (v := ?_) rfl (by kernel_rfl) (by kernel_rfl) (by kernel_rfl) (by kernel_rfl) (fun _ _ _ h => h) (by rfl) (by assumption) ?_ ?_
        rotate_left
        · (intro w' hSw; (try dsimp only at hSw); go_simp; try with_reducible rfl)
        try simp only [Act.put, List.setIfInBounds_toArray, List.set_cons_zero, List.set_cons_succ]
        refine take_yes 3 (some 23) (v := ?_) rfl (by kernel_rfl) (by kernel_rfl) (by kernel_rfl) (by kernel_rfl) (fun _ _ _ h => h) (by rfl) (by assumption) ?_ ?_
        rotate_left
        · (intro w' hSw; (try dsimp only at hSw); go_simp; try with_reducible rfl)
        try simp only [Act.put, List.setIfInBounds_toArray, List.set_cons_zero, List.set_cons_succ]
        refine take_yes 4 (some 24) (v := ?_) rfl (by kernel_rfl) (by kernel_rfl) (by kernel_rfl) (by kernel_rfl) (fun _ _ _ h => h) (by rfl) (by assumption) ?_ ?_
        rotate_left
        · (intro w' hSw; (try dsimp only at hSw); go_simp; try with_reducible rfl)
        try simp only [Act.put, List.setIfInBounds_toArray, List.set_cons_zero, List.set_cons_succ]
        refine take_yes 5 (some 25) (v := ?_) rfl (by kernel_rfl) (by kernel_rfl) (by kernel_rfl) (by kernel_rfl) (fun _ _ _ h => h) (by rfl) (by assumption) ?_ ?_
        rotate_left
        · (intro w' hSw; (try dsimp only at hSw); go_simp; try with_reducible rfl)
        try simp only [Act.put, List.setIfInBounds_toArray, List.set_cons_zero, List.set_cons_succ]
        refine take_yes 6 (some 26) (v := ?_) rfl (by kernel_rfl) (by kernel_rfl) (by kernel_rfl) (by kernel_rfl) (fun _ _ _ h => h) (by rfl) (by assumption) ?_ ?_
        rotate_left
        · (intro w' hSw; (try dsimp only at hSw); go_simp; try with_reducible rfl)
        try simp only [Act.put, List.setIfInBounds_toArray, List.set_cons_zero, List.set_cons_succ]
        refine take_run 7 rfl (by kernel_rfl) (by rfl) (fun K hK => ?_)
        go_simp
        refine (HL4.out _ x.ss[k] (HG.out.since (hs02.trans (Since.refl w2).drew))).mono ?_
        rintro en w3 ⟨rfl, hq1⟩
        have hq2 := (Since.refl w2).drew.trans hq1
        refine hK.out _ _ (HKC.out _ hq2) (fun hHeld1 => ?_)
        clear hK K hHeld
        try simp only [Act.put, List.setIfInBounds_toArray, List.set_cons_zero, List.set_cons_succ]
        refine take_run 8 rfl (by kernel_rfl) (by rfl) (fun K hK => ?_)
        go_simp
        have hsa := hq2.alloc (.cells #[.int .i64 (F x.ss[k])] 3)
        have hlit := (own_one w3 w3 (Since.refl w3) (F x.ss[k]) HFI.out w3.heap.size rfl).at
        refine hK.out _ _ (HKC.out _ hsa) (fun hHeld2 => ?_)
        clear hK K hHeld1
        try simp only [Act.put, List.setIfInBounds_toArray, List.set_cons_zero, List.set_cons_succ]
        refine take_run 9 rfl (by kernel_rfl) (by rfl) (fun K hK => ?_)
        refine wp_append_ints (.tmp 20) (.tmp 28) rfl y.heap.size _ ((x.ss.take k).map F) rfl (HO2.out.since hsa) _ _ _ rfl [F x.ss[k]] hlit HZL.out (hsy2.trans hsa).size ?_
        intro v4 w4 ho4 hg4 _
        have hs24 : Since y w4 := (hsy2.trans hsa).grown hg4 (fun j hj => ((HO2.out.since hsa).2.lt j hj).1)
        have HO4 : Hid (Own y.heap.size w4 v4 ((x.ss.take (k + 1)).map F)) := by unfold Hid; rw [HT.out]; exact ho4
        have hS4 : w4.cell? ⟨w.heap.size, 0, none⟩ = some (.slice ao g.vs.length ac) ∧ w4.cell? ⟨w.heap.size, 1, none⟩ = some (.slice bo g.es.length bc) ∧ w4.cell? ⟨w.heap.size + 1, 0, none⟩ = some (.int .i64 x.st) ∧ w4.cell? ⟨w.heap.size + 1, 1, none⟩ = some (.slice (some ⟨be, oe, none⟩) q sac) ∧ w4.cell? ⟨be, oe + k * 2, none⟩ = some (.int .i64 x.ss[k].id) ∧ w4.cell? ⟨be, oe + k * 2 + 1, none⟩ = some (.bool x.ss[k].inv) := by
          obtain ⟨x0, x1, _, _⟩ := (BG.out.since hs24).two
          obtain ⟨y0, y1, _, _⟩ := (BW.out.since hs24).two
          have s0 := HKC.out _ (Since.refl w2)
          have s1 := since_cells (hs0.trans hs24) hbe
          have s2 := since_cells hs02 hbe
          exact ⟨x0, x1, y0, y1, ((s1 _).trans (s2 _).symm).trans s0.2.2.2.2.1, ((s1 _).trans (s2 _).symm).trans s0.2.2.2.2.2⟩
        refine hK.out _ _ hS4 (fun hHeld3 => ?_)
        clear hK K hHeld2 ho4 hg4
        try simp only [Act.put, List.setIfInBounds_toArray, List.set_cons_zero, List.set_cons_succ]
        refine take_yes 10 (some 5) (v := ?_) rfl (by kernel_rfl) (by kernel_rfl) (by kernel_rfl) (by kernel_rfl) (fun _ _ _ h => h) (by rfl) (by assumption) ?_ ?_
        rotate_left
        · (intro w' hSw; (try dsimp only at hSw); go_simp; try with_reducible rfl)
        try simp only [Act.put, List.setIfInBounds_toArray, List.set_cons_zero, List.set_cons_succ]
        refine wpAnyH_done (by kernel_rfl) ?_ _
        clear hHeld3 hS4
        go_wp2
        go_roundw
        case rel => exact ⟨k + 1, by omega, by go_num, HO4, hs24⟩
        case measure => simp [intOf]; omega
      · obtain rfl : k = q := by omega
        have HO : Hid (Own w.heap.size wr u5 (x.ss.map F)) := by
          have := HOw.out
          rw [List.take_of_length_le (by have := HQ.out; omega)] at this
          exact this.mono hs0.size
        clear HOw
        go_wp2
        go_ret
        exact ⟨_, rfl, by rw [HWM.out]; exact HO.out, hs0w⟩
theorem nodesW_small (g : Grf) (x : Wlk) : ∀ z ∈ nodesW g x, 0 ≤ z ∧ z < 5 := by
  intro z hz
  cases hf : folG g x with
  | none => rw [(endW_none hf).2.1] at hz; simp at hz
  | some ts =>
    rw [(endW_some hf).2.1] at hz
    obtain ⟨v1, v2, v3, v4⟩ := folG_some hf
    have hv := ((validB_iff g).1 v1).1
    rcases List.mem_cons.1 hz with rfl | hz
    · unfold inB at v2; simp at v2; omega
    · obtain ⟨t, ht, rfl⟩ := List.mem_map.1 hz
      have e := fol_tof v1 v4
      have hm : t ∈ travG g := by
        have key : ∀ {y : Int} {rr : List Stp} {us : List Trv}, fol (trvF g.es) y rr = some us → ∀ t ∈ us, t ∈ travL g.es := by
          intro y rr
          induction rr generalizing y with
          | nil => intro us k t ht; simp [fol] at k; subst k; cases ht
          | cons r rr ih =>
            intro us k t ht
            rw [fol_eq] at k
            cases e1 : trvF g.es y r with
            | none => rw [e1] at k; cases k
            | some t0 =>
              rw [e1] at k
              simp only [Option.bind_some] at k
              cases e2 : fol (trvF g.es) t0.dst rr with
              | none => rw [e2] at k; cases k
              | some us0 =>
                rw [e2] at k
                simp only [Option.map_some, Option.some.injEq] at k
                subst k
                rcases List.mem_cons.1 ht with rfl | ht
                · exact (trvF_mem e1).1
                · exact ih e2 t ht
        unfold travG; rw [if_pos v1]; exact key v4 t ht
      exact travG_dst hm
theorem nodup_snoc {xs : List Int} {z : Int} : (xs ++ [z]).Nodup ↔ xs.Nodup ∧ z ∉ xs := by
  rw [List.nodup_append]
  constructor
  · rintro ⟨a, _, c⟩; exact ⟨a, fun h => c z h z (by simp) rfl⟩
  · rintro ⟨a, b⟩; exact ⟨a, by simp, fun u hu v hv e => by simp at hv; subst hv; subst e; exact b hu⟩
set_option maxHeartbeats 1000000 in
set_option maxRecDepth 100000 in
theorem specSP_any (v u : Value) (g : Grf) (x : Wlk) (w : World) (h : GrfAt w v g) (hu : WlkAt w u x) (h1 : g.vs.length ≤ 1048577) (h2 : g.es.length ≤ 1048577) (h3 : x.ss.length ≤ 1048577) :
    Calls Try.prog 47 #[v, u] w fun e w' => e = .returned (.bool (simpleW g x)) ∧ Since w w' := by
  have HG := Lib.hid h
  have HU := Lib.hid hu
  obtain ⟨a, b, rfl, ha, hb⟩ := h
  obtain ⟨ao, ac, rfl, _⟩ := ha.row
  obtain ⟨bo, bc, rfl⟩ := hb.len
  obtain ⟨so, rfl, hss⟩ := hu
  obtain ⟨sao, sac, rfl, _⟩ := hss
  clear ha hb
  have hs0 : Since w ((w.alloc (.cells #[.slice ao g.vs.length ac, .slice bo g.es.length bc] 27)).alloc (.cells #[.int .i64 x.st, .slice sao x.ss.length sac] 53)) := ((Since.refl w).alloc _).alloc _
  have BG : Hid (Blk ((w.alloc (.cells #[.slice ao g.vs.length ac, .slice bo g.es.length bc] 27)).alloc (.cells #[.int .i64 x.st, .slice sao x.ss.length sac] 53)) w.heap.size 27 #[.slice ao g.vs.length ac, .slice bo g.es.length bc]) := (Blk.new rfl _ _).alloc _
  have BW : Hid (Blk ((w.alloc (.cells #[.slice ao g.vs.length ac, .slice bo g.es.length bc] 27)).alloc (.cells #[.int .i64 x.st, .slice sao x.ss.length sac] 53)) (w.heap.size + 1) 53 #[.int .i64 x.st, .slice sao x.ss.length sac]) := Blk.new (by simp) _ _
  have HNL := nodesW_len g x
  have HSM := Lib.hid (nodesW_small g x)
  have HL5 := Lib.hid (fun V U W (k1 : GrfAt W V g) (k2 : WlkAt W U x) => l5Nodes_any V U g x W k1 k2 h1 h2 h3)
  have HSW : Hid (simpleW g x = (validW g x && decide (nodesW g x).Nodup)) := rfl
  unfold NodOut at HL5
  rw [HSW.out]
  clear HSW
  generalize nodesW g x = xs at HNL HSM HL5 ⊢
  generalize validW g x = c at HL5 ⊢
  go_enter Try.func47, Try.ntmps47
  go_wp2_with fail
  refine (HL5.out _ _ _ (HG.out.since hs0) (HU.out.since hs0)).mono ?_
  rintro en w1 ⟨b1, rfl, ho1, hs1⟩
  have hs01 := hs0.trans hs1
  obtain ⟨lo, lc, rfl, HX⟩ := ho1.at.row
  obtain ⟨q, hq⟩ : ∃ q, q = xs.length := ⟨_, rfl⟩
  rw [← hq]
  have HQ := Lib.hid hq
  have hq9 : q ≤ 61 := by omega
  clear ho1 hq HNL
  go_wp2_with fail
  go_loopw [7, 8] (fun c i wr => ∃ k : Nat, k ≤ q ∧ i = .int .i64 k ∧ c = .int .i64 ((maskN (xs.take k) : Nat) : Int) ∧ Hid ((xs.take k).Nodup) ∧ Since w1 wr) (fun _ i _ => q - (intOf i).toNat)
  case atStart => exact ⟨0, Nat.zero_le _, rfl, rfl, List.nodup_nil, Since.refl _⟩
  case round =>
    obtain ⟨k, hk, rfl, rfl, HND, hsw⟩ := hrel
    have hs0w := hs01.trans hsw
    by_cases hlt : k < q
    · have hx : k < xs.length := by have := HQ.out; omega
      obtain ⟨be, oe, rfl, hbe, d0⟩ := HX.out k hx
      have s1 := since_cells hsw hbe
      rw [← s1] at d0
      clear s1
      have hr := HSM.out _ (List.getElem_mem hx)
      obtain ⟨d, hd⟩ : ∃ d : Nat, xs[k] = (d : Int) := ⟨(xs[k]).toNat, by omega⟩
      have hd5 : d < 5 := by omega
      have HTK : Hid (xs.take (k + 1) = xs.take k ++ [(d : Int)]) := by unfold Hid; rw [List.take_succ_eq_append_getElem hx, hd]
      rw [hd] at d0
      have hsm : ∀ z ∈ xs.take k, 0 ≤ z ∧ z < 5 := fun z hz => HSM.out z (List.mem_of_mem_take hz)
      have hMlt := maskN_lt (xs.take k) hsm
      have hT := maskN_test (xs.take k) (fun z hz => (hsm z hz).1) d
      have HMK : Hid (maskN (xs.take (k + 1)) = maskN (xs.take k) ||| 2 ^ d) := by unfold Hid; rw [HTK.out, maskN_snoc]
      have HDUP : Hid ((d : Int) ∈ xs.take k → decide xs.Nodup = false) := fun h => decide_eq_false (fun hn => by
        have h2 : (xs.take (k + 1)).Nodup := List.Nodup.sublist (List.take_sublist _ _) hn
        rw [HTK.out, nodup_snoc] at h2
        exact h2.2 h)
      have HNXT : Hid ((d : Int) ∉ xs.take k → (xs.take (k + 1)).Nodup) := fun h => by rw [HTK.out, nodup_snoc]; exact ⟨HND.out, h⟩
      obtain ⟨M, hM⟩ : ∃ M, M = maskN (xs.take k) := ⟨_, rfl⟩
      rw [← hM] at hMlt HMK hT ⊢
      have hor := or_two M d hMlt hd5
      have hwr := wrap_two d hd5
      have hd0 : (0 : Int) ≤ (d : Int) := by omega
      have hki : (k : Int) < (q : Int) := by omega
      have hk0 : (0 : Int) ≤ (k : Int) := by omega
      have hbt := bit_test M d (by omega)
      rw [hT] at hbt
      clear hM hr hd hsm hT
      by_cases hin : (d : Int) ∈ xs.take k
      · rw [decide_eq_true hin] at hbt
        have HD := Lib.hid (HDUP.out hin)
        clear hin
        go_wp2
        go_ret
        exact ⟨ret_bool (by rw [HD.out, Bool.and_false]), hs0w⟩
      · rw [decide_eq_false hin] at hbt
        have HN := Lib.hid (HNXT.out hin)
        clear hin
        go_wp2
        go_roundw
        case rel => exact ⟨k + 1, by omega, by go_num, by rw [HMK.out], HN, hsw⟩
        case measure => simp [intOf]; omega
    · obtain rfl : k = q := by omega
      have HN : Hid (decide xs.Nodup = true) := by
        have := HND.out
        rw [List.take_of_length_le (by have := HQ.out; omega)] at this
        exact decide_eq_true this
      go_wp2
      go_ret
      exact ⟨ret_bool (by rw [HN.out, Bool.and_true]), hs0w⟩
end Go.Proofs.Ytilkheclimammaa
