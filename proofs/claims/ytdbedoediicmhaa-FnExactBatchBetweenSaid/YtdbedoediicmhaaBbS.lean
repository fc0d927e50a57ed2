/- The model's l6Has and BatchBetween. -/
import Derived.Test.YtdbedoediicmhaaCon
import Derived.Test.YtdbedoediicmhaaK2
import Derived.Test.YtdbedoediicmhaaEqG2
namespace Go.Proofs.Ytdbedoediicmhaa
set_option maxRecDepth 100000
open Go.ChangeShapes Go.WideShapes Go.ChangeAt Go.RowKit
set_option linter.unusedVariables false
set_option linter.unusedSimpArgs false

theorem bb_noS {w w1 : World} {xs : List Chg} {C : Bool} {B : Nat} (hc : C = false) (hx : xs = []) (hB : w.heap.size ≤ B) (hs : Since w w1) (u : Value) :
    BBOut w xs C (.returned (.tuple #[.agg #[.slice none 0 0], .bool false])) (w1.setCell ⟨B, 0, none⟩ u) := by
  subst hc; subst hx
  exact ⟨_, rfl, OwnB.mk ⟨fun x hx => by simp at hx, World.ownsRow_nil _ _ _ _⟩, hs.setCell hB u⟩
theorem bb_yesS {w w1 : World} {xs : List Chg} {C : Bool} {B : Nat} {v : Value} {lo : Nat} (hc : C = true) (ho : OwnC lo w1 v xs) (hlo : w.heap.size ≤ lo) (hB2 : B < lo) (hB : w.heap.size ≤ B) (hs : Since w w1) (u : Value) :
    BBOut w xs C (.returned (.tuple #[.agg #[v], .bool true])) (w1.setCell ⟨B, 0, none⟩ u) := by
  subst hc
  exact ⟨_, rfl, OwnB.mk ((ho.far (p := ⟨B, 0, none⟩) hB2 u).mono hlo), hs.setCell hB u⟩
theorem bet_noS {g h : Grf} (hc : betC g h = false) : betC g h = false ∧ betB g h = [] := ⟨hc, by unfold betB; rw [hc]; rfl⟩
theorem bet_yesS {g h : Grf} (hc : betC g h = true) : betC g h = true ∧ betB g h = betL g h := ⟨hc, by unfold betB; rw [if_pos hc]⟩
theorem grf_cellsS {w : World} {a : Value} {bo : Option Addr} {bc m : Nat} {g : Grf} (h : GrfAt w (.agg #[a, .slice bo m bc]) g) (j : Nat) (hj : j < g.es.length) :
    ∃ b off, bo = some ⟨b, off, none⟩ ∧ b < w.heap.size ∧ w.cell? ⟨b, off + j * 4, none⟩ = some (.int .i64 g.es[j].id) ∧ w.cell? ⟨b, off + j * 4 + 1, none⟩ = some (.int .i64 g.es[j].fr) ∧ w.cell? ⟨b, off + j * 4 + 2, none⟩ = some (.int .i64 g.es[j].to) ∧ w.cell? ⟨b, off + j * 4 + 3, none⟩ = some (.int .i64 g.es[j].lb) := by
  obtain ⟨a', b', e, _, hb⟩ := h
  obtain ⟨ao, cap, rfl, HE⟩ := hb.row
  injection e with e; injection e with e; injection e with _ e; injection e with e; injection e with e1 e2 e3
  subst e1
  exact HE.out j hj
set_option maxHeartbeats 1000000 in
set_option maxRecDepth 100000 in
theorem l6Has_any (v : Value) (g : Grf) (e : Edg) (w : World) (h : GrfAt w v g) (h1 : g.vs.length ≤ 1048577) (h2 : g.es.length ≤ 1048577) :
    Calls Try.prog 58 #[v, ev e] w fun en w' => en = .returned (.bool (hasE g e)) ∧ Since w w' := by
  have HG := Lib.hid h
  obtain ⟨a, b, rfl, ha, hb⟩ := h
  obtain ⟨ao, ac, rfl, _⟩ := ha.row
  obtain ⟨bo, bc, rfl⟩ := hb.len
  clear ha hb
  have hge := guard_edge
  obtain ⟨y, hy⟩ : ∃ y, y = (w.alloc (.cells #[.slice ao g.vs.length ac, .slice bo g.es.length bc] 33)).alloc (.cells #[.int .i64 e.id, .int .i64 e.fr, .int .i64 (Edg.to e), .int .i64 e.lb] 62) := ⟨_, rfl⟩
  have hs0 : Since w y := by rw [hy]; exact ((Since.refl w).alloc _).alloc _
  have BG : Hid (Blk y w.heap.size 33 #[.slice ao g.vs.length ac, .slice bo g.es.length bc]) := by rw [hy]; exact (Blk.new rfl _ _).alloc _
  have BE : Hid (Blk y (w.heap.size + 1) 62 #[.int .i64 e.id, .int .i64 e.fr, .int .i64 (Edg.to e), .int .i64 e.lb]) := by rw [hy]; exact Blk.new (by simp) _ _
  unfold ev
  go_enter Try.func58, Try.ntmps58
  go_wp2_with fail
  rw [← hy]
  clear hy
  refine (specEI_any _ g e.id _ (HG.out.since hs0) h2).mono ?_
  rintro en w6 ⟨rfl, hs6⟩
  obtain ⟨m0, m1, m2, m3, _⟩ := (BE.out.since hs6).four
  obtain ⟨q0, q1, _, _⟩ := (BG.out.since hs6).two
  have hs06 := hs0.trans hs6
  rcases idxE_cases g.es e.id with ⟨j, hj, hji, hjid, _⟩ | ⟨hji, _⟩
  · rw [hji]
    obtain ⟨xb, xo, rfl, hxb, c0, c1, c2, c3⟩ := grf_cellsS (HG.out.since hs06) j hj
    have jj0 : decide ((0 : Int) ≤ (j : Int)) = true := by simp
    have jj1 : (0 : Int) ≤ (j : Int) := by omega
    have jj2 : (j : Int) < (g.es.length : Int) := by omega
    by_cases heq : g.es[j] = e
    · have hnq : ∀ W : World, (binOp .eql 62 (ev g.es[j]) (ev e)).run Try.prog W = .ok (.bool true) W := fun W => by rw [eql_edge, decide_eq_true heq]
      unfold ev at hnq
      have HR : Hid (hasE g e = true) := by unfold Hid hasE; rw [hji]; simp [heq, hj]
      clear heq hji hjid
      generalize g.es[j] = ej at c0 c1 c2 c3 hnq
      go_wp2_with fail
      go_quiet (fail)
      go_wp2
      go_ret
      exact ⟨ret_bool HR.out.symm, hs06.drewN _⟩
    · have hnq : ∀ W : World, (binOp .eql 62 (ev g.es[j]) (ev e)).run Try.prog W = .ok (.bool false) W := fun W => by rw [eql_edge, decide_eq_false heq]
      unfold ev at hnq
      have HR : Hid (hasE g e = false) := by unfold Hid hasE; rw [hji]; simp [heq, hj]
      clear heq hji hjid
      generalize g.es[j] = ej at c0 c1 c2 c3 hnq
      go_wp2_with fail
      go_quiet (fail)
      go_wp2
      go_ret
      exact ⟨ret_bool HR.out.symm, hs06.drewN _⟩
  · rw [hji]
    have HR : Hid (hasE g e = false) := by unfold Hid hasE; rw [hji]; simp
    have jj0 : decide ((0 : Int) ≤ -1) = false := by decide
    clear hji
    go_wp2_with fail
    go_quiet (fail)
    go_wp2
    go_ret
    exact ⟨ret_bool HR.out.symm, hs06.drewN _⟩
set_option maxHeartbeats 4000000 in
set_option maxRecDepth 100000 in
theorem specBB_any (v u : Value) (g h : Grf) (w : World) (kg : GrfAt w v g) (kh : GrfAt w u h) (g1 : g.vs.length ≤ 1048577) (g2 : g.es.length ≤ 1048577) (h1 : h.vs.length ≤ 1048577) (h2 : h.es.length ≤ 1048577) :
    Calls Try.prog 27 #[v, u] w (BBOut w (betB g h) (betC g h)) := by
  have HG := Lib.hid kg
  have HH := Lib.hid kh
  obtain ⟨a, b, rfl, ha, hb⟩ := kg
  have HGV := Lib.hid ha
  have HCGI := Lib.hid hb.1
  obtain ⟨ao, ac, rfl, _⟩ := ha.row
  obtain ⟨bo, bc, rfl, HCG⟩ := hb.row
  obtain ⟨a', b', rfl, ha', hb'⟩ := kh
  have HHV := Lib.hid ha'
  have HCHI := Lib.hid hb'.1
  obtain ⟨co, cc, rfl, _⟩ := ha'.row
  obtain ⟨dO, dc, rfl, HCH⟩ := hb'.row
  clear ha hb ha' hb'
  obtain ⟨n, hn⟩ : ∃ n, n = g.es.length := ⟨_, rfl⟩
  obtain ⟨m, hm⟩ : ∃ m, m = h.es.length := ⟨_, rfl⟩
  have hn9 : n ≤ 1048577 := by omega
  have hm9 : m ≤ 1048577 := by omega
  rw [← hn] at HG ⊢
  rw [← hm] at HH ⊢
  have HN := Lib.hid hn
  have HM := Lib.hid hm
  clear hn hm
  obtain ⟨y, hy⟩ : ∃ y, y = ((w.alloc (.cells #[.slice ao g.vs.length ac, .slice bo n bc] 33)).alloc (.cells #[.slice co h.vs.length cc, .slice dO m dc] 33)).alloc (.cells #[.slice none 0 0] 39) := ⟨_, rfl⟩
  have hs0 : Since w y := by rw [hy]; exact (((Since.refl w).alloc _).alloc _).alloc _
  have hz : w.heap.size + 1 + 1 + 1 = y.heap.size := by rw [hy]; simp
  have BG : Hid (Blk y w.heap.size 33 #[.slice ao g.vs.length ac, .slice bo n bc]) := by rw [hy]; exact ((Blk.new rfl _ _).alloc _).alloc _
  have BH : Hid (Blk y (w.heap.size + 1) 33 #[.slice co h.vs.length cc, .slice dO m dc]) := by rw [hy]; exact (Blk.new (by simp) _ _).alloc _
  have BR : Hid (Blk y (w.heap.size + 1 + 1) 39 #[.slice none 0 0]) := by rw [hy]; exact Blk.new (by simp) _ _
  obtain ⟨yx, hyx⟩ : ∃ yx, yx = y.alloc (.cells #[.slice none 0 0] 39) := ⟨_, rfl⟩
  have hsx : Since y yx := by rw [hyx]; exact (Since.refl y).alloc _
  have BX : Hid (Blk yx y.heap.size 39 #[.slice none 0 0]) := by rw [hyx]; exact Blk.new rfl _ _
  rcases Bool.eq_false_or_eq_true (validB g) with hv | hv
  rotate_left
  · have HV := Lib.hid hv
    have HA := Lib.hid (bet_noS (g := g) (h := h) (by unfold betC; rw [hv]; rfl))
    clear hv
    go_enter Try.func27, Try.ntmps27
    go_wp2_with fail
    rw [← hy]
    clear hy
    obtain ⟨p0, p1, _, _⟩ := (BG.out.alloc (.cells #[.slice none 0 0] 39)).two
    go_wp2_with fail
    rw [← hyx]
    clear hyx p0 p1
    refine (specVG_any _ g _ (HG.out.since (hs0.trans hsx)) g1 g2).mono ?_
    rintro en w1 ⟨rfl, hs1⟩
    rw [HV.out]
    have hs01 := hsx.trans hs1
    have hsq := hs1
    have hs0q := hs0.trans hs01
    obtain ⟨r0, r1⟩ := (BR.out.since hs01).one
    obtain ⟨s0, s1⟩ := (BX.out.since hsq).one
    go_wp2_with fail
    refine bodyPost_ret (v := .tuple #[.agg #[.slice none 0 0], .bool false]) (by simp [results, Try.results27, go_sem, *]) rfl ?_
    exact bb_noS HA.out.1 HA.out.2 (by omega) hs0q _
  have HV := Lib.hid hv
  rcases Bool.eq_false_or_eq_true (validB h) with hv2 | hv2
  rotate_left
  · have HV2 := Lib.hid hv2
    have HA := Lib.hid (bet_noS (g := g) (h := h) (by unfold betC; rw [hv, hv2]; rfl))
    clear hv hv2
    go_enter Try.func27, Try.ntmps27
    go_wp2_with fail
    rw [← hy]
    clear hy
    obtain ⟨p0, p1, _, _⟩ := (BG.out.alloc (.cells #[.slice none 0 0] 39)).two
    go_wp2_with fail
    rw [← hyx]
    clear hyx p0 p1
    refine (specVG_any _ g _ (HG.out.since (hs0.trans hsx)) g1 g2).mono ?_
    rintro en w1 ⟨rfl, hs1⟩
    rw [HV.out]
    have hs01 := hsx.trans hs1
    obtain ⟨p0, p1, _, _⟩ := (BH.out.since hs01).two
    go_wp2_with fail
    clear p0 p1
    refine (specVG_any _ h _ (HH.out.since (hs0.trans hs01)) h1 h2).mono ?_
    rintro en w2 ⟨rfl, hs2⟩
    rw [HV2.out]
    have hs02 := hs01.trans hs2
    have hsq := hs1.trans hs2
    have hs0q := hs0.trans hs02
    obtain ⟨r0, r1⟩ := (BR.out.since hs02).one
    obtain ⟨s0, s1⟩ := (BX.out.since hsq).one
    go_wp2_with fail
    refine bodyPost_ret (v := .tuple #[.agg #[.slice none 0 0], .bool false]) (by simp [results, Try.results27, go_sem, *]) rfl ?_
    exact bb_noS HA.out.1 HA.out.2 (by omega) hs0q _
  have HV2 := Lib.hid hv2
  by_cases hvs : g.vs = h.vs
  rotate_left
  · have HA := Lib.hid (bet_noS (g := g) (h := h) (by unfold betC; rw [hv, hv2, decide_eq_false hvs]; rfl))
    have hne : (lexC g.vs h.vs != 0) = true := by simp; intro e; exact hvs (lexC_zero e)
    clear hv hv2 hvs
    go_enter Try.func27, Try.ntmps27
    go_wp2_with fail
    rw [← hy]
    clear hy
    obtain ⟨p0, p1, _, _⟩ := (BG.out.alloc (.cells #[.slice none 0 0] 39)).two
    go_wp2_with fail
    rw [← hyx]
    clear hyx p0 p1
    refine (specVG_any _ g _ (HG.out.since (hs0.trans hsx)) g1 g2).mono ?_
    rintro en w1 ⟨rfl, hs1⟩
    rw [HV.out]
    have hs01 := hsx.trans hs1
    obtain ⟨p0, p1, _, _⟩ := (BH.out.since hs01).two
    go_wp2_with fail
    clear p0 p1
    refine (specVG_any _ h _ (HH.out.since (hs0.trans hs01)) h1 h2).mono ?_
    rintro en w2 ⟨rfl, hs2⟩
    rw [HV2.out]
    have hs02 := hs01.trans hs2
    obtain ⟨p0, p1, _, _⟩ := (BG.out.since hs02).two
    obtain ⟨q0, q1, _, _⟩ := (BH.out.since hs02).two
    go_wp2_with fail
    clear p0 p1 q0 q1
    refine (l2Cmp_any _ _ g.vs h.vs _ (HGV.out.since (hs0.trans hs02)) (HHV.out.since (hs0.trans hs02)) (by omega) (by omega)).mono ?_
    rintro en w3 ⟨rfl, hs3⟩
    have hs03 := hs02.trans hs3
    have hsq := (hs1.trans hs2).trans hs3
    have hs0q := hs0.trans hs03
    obtain ⟨r0, r1⟩ := (BR.out.since hs03).one
    obtain ⟨s0, s1⟩ := (BX.out.since hsq).one
    go_wp2_with fail
    refine bodyPost_ret (v := .tuple #[.agg #[.slice none 0 0], .bool false]) (by simp [results, Try.results27, go_sem, *]) rfl ?_
    exact bb_noS HA.out.1 HA.out.2 (by omega) hs0q _
  have HQ := Lib.hid (show lexC g.vs h.vs = 0 by rw [hvs]; exact lexC_self _)
  have HCC : Hid (betC g h = decide ((betL g h).length ≤ 6)) := by unfold Hid betC; rw [hv, hv2, decide_eq_true hvs]; rfl
  clear hv hv2 hvs
  go_enter Try.func27, Try.ntmps27
  go_wp2_with fail
  rw [← hy]
  clear hy
  obtain ⟨p0, p1, _, _⟩ := (BG.out.alloc (.cells #[.slice none 0 0] 39)).two
  go_wp2_with fail
  rw [← hyx]
  clear hyx p0 p1
  refine (specVG_any _ g _ (HG.out.since (hs0.trans hsx)) g1 g2).mono ?_
  rintro en w1 ⟨rfl, hs1⟩
  rw [HV.out]
  have hs01 := hsx.trans hs1
  obtain ⟨p0, p1, _, _⟩ := (BH.out.since hs01).two
  go_wp2_with fail
  clear p0 p1
  refine (specVG_any _ h _ (HH.out.since (hs0.trans hs01)) h1 h2).mono ?_
  rintro en w2 ⟨rfl, hs2⟩
  rw [HV2.out]
  have hs02 := hs01.trans hs2
  obtain ⟨p0, p1, _, _⟩ := (BG.out.since hs02).two
  obtain ⟨q0, q1, _, _⟩ := (BH.out.since hs02).two
  go_wp2_with fail
  clear p0 p1 q0 q1
  refine (l2Cmp_any _ _ g.vs h.vs _ (HGV.out.since (hs0.trans hs02)) (HHV.out.since (hs0.trans hs02)) (by omega) (by omega)).mono ?_
  rintro en w3 ⟨rfl, hs3⟩
  have hs03 := hs02.trans hs3
  rw [HQ.out]
  have B3 := Lib.hid (BX.out.since ((hs1.trans hs2).trans hs3))
  clear BX
  go_wp2_with fail
  go_loopw [7] (fun i wr => ∃ (k : Nat) (v : Value), k ≤ n ∧ i = .int .i64 k ∧ Hid (Blk wr y.heap.size 39 #[v]) ∧ Hid (OwnC (y.heap.size + 1) wr v (missB (g.es.take k) h.es false)) ∧ Since y wr) (fun i _ => n - (intOf i).toNat)
  case atStart => exact ⟨0, _, Nat.zero_le _, rfl, B3.out, ⟨fun x hx => by simp [missB] at hx, by simp [missB, ccells]; exact World.ownsRow_nil _ _ _ _⟩, hs03⟩
  case round =>
    obtain ⟨k, v, hk, rfl, HB, HOw, hsw⟩ := hrel
    obtain ⟨vo, vc, rfl⟩ := HOw.out.len
    have hs0w := hs0.trans hsw
    by_cases hlt : k < n
    · have hx : k < g.es.length := by have := HN.out; omega
      obtain ⟨be, oe, rfl, hbe, d0, d1, d2, d3⟩ := HCG.out k hx
      have HST := Lib.hid (missB_step g.es h.es false k hx)
      have HEI : Hid (g.es[k].In) := HCGI.out _ (List.getElem_mem hx)
      have HML : Hid (((missB (g.es.take k) h.es false)).length + 1 ≤ 4194304) := by
        have l1 := missB_len g.es h.es false
        have l2 := missB_len (g.es.take k) h.es false
        rw [List.length_take] at l2
        have := HN.out; have := HM.out
        unfold Hid; simp; omega
      generalize g.es[k] = e at d0 d1 d2 d3 HST HEI
      have HKW : Hid (∀ w', Since y w' → w'.cell? ⟨w.heap.size, 0, none⟩ = some (.slice ao g.vs.length ac) ∧ w'.cell? ⟨w.heap.size, 1, none⟩ = some (.slice (some ⟨be, oe, none⟩) n bc) ∧ w'.cell? ⟨w.heap.size + 1, 0, none⟩ = some (.slice co h.vs.length cc) ∧ w'.cell? ⟨w.heap.size + 1, 1, none⟩ = some (.slice dO m dc) ∧ w'.cell? ⟨be, oe + k * 4, none⟩ = some (.int .i64 e.id) ∧ w'.cell? ⟨be, oe + k * 4 + 1, none⟩ = some (.int .i64 e.fr) ∧ w'.cell? ⟨be, oe + k * 4 + 2, none⟩ = some (.int .i64 (Edg.to e)) ∧ w'.cell? ⟨be, oe + k * 4 + 3, none⟩ = some (.int .i64 e.lb)) := by
        intro w' hs
        obtain ⟨x0, x1, _, _⟩ := (BG.out.since hs).two
        obtain ⟨x2, x3, _, _⟩ := (BH.out.since hs).two
        have s1 := since_cells (hs0.trans hs) hbe
        exact ⟨x0, x1, x2, x3, (s1 _).trans d0, (s1 _).trans d1, (s1 _).trans d2, (s1 _).trans d3⟩
      have HKC : Hid (∀ w', Since wr w' → w'.cell? ⟨w.heap.size, 0, none⟩ = some (.slice ao g.vs.length ac) ∧ w'.cell? ⟨w.heap.size, 1, none⟩ = some (.slice (some ⟨be, oe, none⟩) n bc) ∧ w'.cell? ⟨w.heap.size + 1, 0, none⟩ = some (.slice co h.vs.length cc) ∧ w'.cell? ⟨w.heap.size + 1, 1, none⟩ = some (.slice dO m dc) ∧ w'.cell? ⟨be, oe + k * 4, none⟩ = some (.int .i64 e.id) ∧ w'.cell? ⟨be, oe + k * 4 + 1, none⟩ = some (.int .i64 e.fr) ∧ w'.cell? ⟨be, oe + k * 4 + 2, none⟩ = some (.int .i64 (Edg.to e)) ∧ w'.cell? ⟨be, oe + k * 4 + 3, none⟩ = some (.int .i64 e.lb)) := fun w' hs => HKW.out w' (hsw.trans hs)
      have kk0 : (0 : Int) ≤ (k : Int) := by omega
      have kk1 : (k : Int) < (n : Int) := by omega
      obtain ⟨cell0, cell1, cell2, cell3, _⟩ := HKC.out _ (Since.refl _)
      clear d0 d1 d2 d3
      by_cases hm : e ∈ h.es
      · have HHX : Hid (hasE h e = true) := by unfold Hid; rw [hasE_iff HV2.out, decide_eq_true hm]
        rw [if_pos hm, List.append_nil] at HST
        clear hm
        go_wp2_with fail
        clear cell0 cell1 cell2 cell3
        refine wp_region_held_drew (S := (fun w' => w'.cell? ⟨w.heap.size, 0, none⟩ = some (.slice ao g.vs.length ac) ∧ w'.cell? ⟨w.heap.size, 1, none⟩ = some (.slice (some ⟨be, oe, none⟩) n bc) ∧ w'.cell? ⟨w.heap.size + 1, 0, none⟩ = some (.slice co h.vs.length cc) ∧ w'.cell? ⟨w.heap.size + 1, 1, none⟩ = some (.slice dO m dc) ∧ w'.cell? ⟨be, oe + k * 4, none⟩ = some (.int .i64 e.id) ∧ w'.cell? ⟨be, oe + k * 4 + 1, none⟩ = some (.int .i64 e.fr) ∧ w'.cell? ⟨be, oe + k * 4 + 2, none⟩ = some (.int .i64 (Edg.to e)) ∧ w'.cell? ⟨be, oe + k * 4 + 3, none⟩ = some (.int .i64 e.lb))) (by kernel_rfl) (HKC.out _ (Since.refl _).drew) (fun hHeld => ?_)
        refine take_yes 0 (some 34) (v := ?_) rfl (by kernel_rfl) (by kernel_rfl) (by kernel_rfl) (by kernel_rfl) (fun _ _ _ h => h) (by rfl) (by assumption) ?_ ?_
        rotate_left
        · (intro w' hSw; (try dsimp only at hSw); go_simp; try with_reducible rfl)
        try simp only [Act.put, List.setIfInBounds_toArray, List.set_cons_zero, List.set_cons_succ]
        refine take_yes 1 (some 35) (v := ?_) rfl (by kernel_rfl) (by kernel_rfl) (by kernel_rfl) (by kernel_rfl) (fun _ _ _ h => h) (by rfl) (by assumption) ?_ ?_
        rotate_left
        · (intro w' hSw; (try dsimp only at hSw); go_simp; try with_reducible rfl)
        try simp only [Act.put, List.setIfInBounds_toArray, List.set_cons_zero, List.set_cons_succ]
        refine take_yes 2 (some 36) (v := ?_) rfl (by kernel_rfl) (by kernel_rfl) (by kernel_rfl) (by kernel_rfl) (fun _ _ _ h => h) (by rfl) (by assumption) ?_ ?_
        rotate_left
        · (intro w' hSw; (try dsimp only at hSw); go_simp; try with_reducible rfl)
        try simp only [Act.put, List.setIfInBounds_toArray, List.set_cons_zero, List.set_cons_succ]
        refine take_yes 3 (some 37) (v := ?_) rfl (by kernel_rfl) (by kernel_rfl) (by kernel_rfl) (by kernel_rfl) (fun _ _ _ h => h) (by rfl) (by assumption) ?_ ?_
        rotate_left
        · (intro w' hSw; (try dsimp only at hSw); go_simp; try with_reducible rfl)
        try simp only [Act.put, List.setIfInBounds_toArray, List.set_cons_zero, List.set_cons_succ]
        refine take_yes 4 (some 38) (v := ?_) rfl (by kernel_rfl) (by kernel_rfl) (by kernel_rfl) (by kernel_rfl) (fun _ _ _ h => h) (by rfl) (by assumption) ?_ ?_
        rotate_left
        · (intro w' hSw; (try dsimp only at hSw); go_simp; try with_reducible rfl)
        try simp only [Act.put, List.setIfInBounds_toArray, List.set_cons_zero, List.set_cons_succ]
        refine take_yes 5 (some 39) (v := ?_) rfl (by kernel_rfl) (by kernel_rfl) (by kernel_rfl) (by kernel_rfl) (fun _ _ _ h => h) (by rfl) (by assumption) ?_ ?_
        rotate_left
        · (intro w' hSw; (try dsimp only at hSw); go_simp; try with_reducible rfl)
        try simp only [Act.put, List.setIfInBounds_toArray, List.set_cons_zero, List.set_cons_succ]
        refine take_run 6 rfl (by kernel_rfl) (by rfl) (fun K hK => ?_)
        go_simp
        refine (l6Has_any _ h e _ (HH.out.since (hs0w.trans (Since.refl wr).drew)) h1 h2).mono ?_
        rintro en w6 ⟨rfl, hs6⟩
        have hc6 := (Since.refl wr).drew.trans hs6
        rw [HHX.out]
        refine hK.out _ _ (HKC.out _ hc6) (fun hHeld1 => ?_)
        clear hK K hHeld
        try simp only [Act.put, List.setIfInBounds_toArray, List.set_cons_zero, List.set_cons_succ]
        refine take_yes 7 (some 41) (v := ?_) rfl (by kernel_rfl) (by kernel_rfl) (by kernel_rfl) (by kernel_rfl) (fun _ _ _ h => h) (by rfl) (by assumption) ?_ ?_
        rotate_left
        · (intro w' hSw; (try dsimp only at hSw); go_simp; try with_reducible rfl)
        try simp only [Act.put, List.setIfInBounds_toArray, List.set_cons_zero, List.set_cons_succ]
        refine wpAnyH_done (by kernel_rfl) ?_ _
        clear hHeld1
        have HB6 := Lib.hid (HB.out.since hc6)
        have HO6 : Hid (OwnC (y.heap.size + 1) w6 (.slice vo ((missB (g.es.take k) h.es false)).length vc) (missB (g.es.take (k + 1)) h.es false)) := by unfold Hid; rw [HST.out]; exact HOw.out.since hc6
        have hsw6 := hsw.trans hc6
        generalize ((missB (g.es.take k) h.es false)).length = q at HB6 HO6
        clear HB HOw HKC HKW hc6 hs6
        go_wp2
        go_roundw
        case rel => exact ⟨k + 1, _, by omega, by go_num, HB6.out, HO6.out, hsw6⟩
        case measure => simp [intOf]; omega
      · have HHX : Hid (hasE h e = false) := by unfold Hid; rw [hasE_iff HV2.out, decide_eq_false hm]
        rw [if_neg hm] at HST
        clear hm
        generalize hvv : Value.slice vo ((missB (g.es.take k) h.es false)).length vc = v at HB HOw
        go_wp2_with fail
        clear cell0 cell1 cell2 cell3
        refine wp_region_held_drew (S := (fun w' => w'.cell? ⟨w.heap.size, 0, none⟩ = some (.slice ao g.vs.length ac) ∧ w'.cell? ⟨w.heap.size, 1, none⟩ = some (.slice (some ⟨be, oe, none⟩) n bc) ∧ w'.cell? ⟨w.heap.size + 1, 0, none⟩ = some (.slice co h.vs.length cc) ∧ w'.cell? ⟨w.heap.size + 1, 1, none⟩ = some (.slice dO m dc) ∧ w'.cell? ⟨be, oe + k * 4, none⟩ = some (.int .i64 e.id) ∧ w'.cell? ⟨be, oe + k * 4 + 1, none⟩ = some (.int .i64 e.fr) ∧ w'.cell? ⟨be, oe + k * 4 + 2, none⟩ = some (.int .i64 (Edg.to e)) ∧ w'.cell? ⟨be, oe + k * 4 + 3, none⟩ = some (.int .i64 e.lb))) (by kernel_rfl) (HKC.out _ (Since.refl _).drew) (fun hHeld => ?_)
        refine take_yes 0 (some 34) (v := ?_) rfl (by kernel_rfl) (by kernel_rfl) (by kernel_rfl) (by kernel_rfl) (fun _ _ _ h => h) (by rfl) (by assumption) ?_ ?_
        rotate_left
        · (intro w' hSw; (try dsimp only at hSw); go_simp; try with_reducible rfl)
        try simp only [Act.put, List.setIfInBounds_toArray, List.set_cons_zero, List.set_cons_succ]
        refine take_yes 1 (some 35) (v := ?_) rfl (by kernel_rfl) (by kernel_rfl) (by kernel_rfl) (by kernel_rfl) (fun _ _ _ h => h) (by rfl) (by assumption) ?_ ?_
        rotate_left
        · (intro w' hSw; (try dsimp only at hSw); go_simp; try with_reducible rfl)
        try simp only [Act.put, List.setIfInBounds_toArray, List.set_cons_zero, List.set_cons_succ]
        refine take_yes 2 (some 36) (v := ?_) rfl (by kernel_rfl) (by kernel_rfl) (by kernel_rfl) (by kernel_rfl) (fun _ _ _ h => h) (by rfl) (by assumption) ?_ ?_
        rotate_left
        · (intro w' hSw; (try dsimp only at hSw); go_simp; try with_reducible rfl)
        try simp only [Act.put, List.setIfInBounds_toArray, List.set_cons_zero, List.set_cons_succ]
        refine take_yes 3 (some 37) (v := ?_) rfl (by kernel_rfl) (by kernel_rfl) (by kernel_rfl) (by kernel_rfl) (fun _ _ _ h => h) (by rfl) (by assumption) ?_ ?_
        rotate_left
        · (intro w' hSw; (try dsimp only at hSw); go_simp; try with_reducible rfl)
        try simp only [Act.put, List.setIfInBounds_toArray, List.set_cons_zero, List.set_cons_succ]
        refine take_yes 4 (some 38) (v := ?_) rfl (by kernel_rfl) (by kernel_rfl) (by kernel_rfl) (by kernel_rfl) (fun _ _ _ h => h) (by rfl) (by assumption) ?_ ?_
        rotate_left
        · (intro w' hSw; (try dsimp only at hSw); go_simp; try with_reducible rfl)
        try simp only [Act.put, List.setIfInBounds_toArray, List.set_cons_zero, List.set_cons_succ]
        refine take_yes 5 (some 39) (v := ?_) rfl (by kernel_rfl) (by kernel_rfl) (by kernel_rfl) (by kernel_rfl) (fun _ _ _ h => h) (by rfl) (by assumption) ?_ ?_
        rotate_left
        · (intro w' hSw; (try dsimp only at hSw); go_simp; try with_reducible rfl)
        try simp only [Act.put, List.setIfInBounds_toArray, List.set_cons_zero, List.set_cons_succ]
        refine take_run 6 rfl (by kernel_rfl) (by rfl) (fun K hK => ?_)
        go_simp
        refine (l6Has_any _ h e _ (HH.out.since (hs0w.trans (Since.refl wr).drew)) h1 h2).mono ?_
        rintro en w6 ⟨rfl, hs6⟩
        have hc6 := (Since.refl wr).drew.trans hs6
        rw [HHX.out]
        refine hK.out _ _ (HKC.out _ hc6) (fun hHeld1 => ?_)
        clear hK K hHeld
        try simp only [Act.put, List.setIfInBounds_toArray, List.set_cons_zero, List.set_cons_succ]
        refine take_yes 7 (some 41) (v := ?_) rfl (by kernel_rfl) (by kernel_rfl) (by kernel_rfl) (by kernel_rfl) (fun _ _ _ h => h) (by rfl) (by assumption) ?_ ?_
        rotate_left
        · (intro w' hSw; (try dsimp only at hSw); go_simp; try with_reducible rfl)
        try simp only [Act.put, List.setIfInBounds_toArray, List.set_cons_zero, List.set_cons_succ]
        refine wpAnyH_done (by kernel_rfl) ?_ _
        clear hHeld1
        have HB6 := Lib.hid (HB.out.since hc6)
        have HO6 := Lib.hid (HOw.out.since hc6)
        have hsw6 := hsw.trans hc6
        have HKD : Hid (∀ w', Since w6 w' → w'.cell? ⟨w.heap.size, 0, none⟩ = some (.slice ao g.vs.length ac) ∧ w'.cell? ⟨w.heap.size, 1, none⟩ = some (.slice (some ⟨be, oe, none⟩) n bc) ∧ w'.cell? ⟨w.heap.size + 1, 0, none⟩ = some (.slice co h.vs.length cc) ∧ w'.cell? ⟨w.heap.size + 1, 1, none⟩ = some (.slice dO m dc) ∧ w'.cell? ⟨be, oe + k * 4, none⟩ = some (.int .i64 e.id) ∧ w'.cell? ⟨be, oe + k * 4 + 1, none⟩ = some (.int .i64 e.fr) ∧ w'.cell? ⟨be, oe + k * 4 + 2, none⟩ = some (.int .i64 (Edg.to e)) ∧ w'.cell? ⟨be, oe + k * 4 + 3, none⟩ = some (.int .i64 e.lb)) := fun w' hs => HKW.out w' (hsw6.trans hs)
        clear HB HOw HKC hc6 hs6
        go_wp2_with fail
        refine wp_region_held_drew (S := (fun w' => w'.cell? ⟨w.heap.size, 0, none⟩ = some (.slice ao g.vs.length ac) ∧ w'.cell? ⟨w.heap.size, 1, none⟩ = some (.slice (some ⟨be, oe, none⟩) n bc) ∧ w'.cell? ⟨w.heap.size + 1, 0, none⟩ = some (.slice co h.vs.length cc) ∧ w'.cell? ⟨w.heap.size + 1, 1, none⟩ = some (.slice dO m dc) ∧ w'.cell? ⟨be, oe + k * 4, none⟩ = some (.int .i64 e.id) ∧ w'.cell? ⟨be, oe + k * 4 + 1, none⟩ = some (.int .i64 e.fr) ∧ w'.cell? ⟨be, oe + k * 4 + 2, none⟩ = some (.int .i64 (Edg.to e)) ∧ w'.cell? ⟨be, oe + k * 4 + 3, none⟩ = some (.int .i64 e.lb))) (by kernel_rfl) (HKD.out _ (Since.refl _).drew) (fun hHeld => ?_)
        refine take_yes 0 (some 42) (v := ?_) rfl (by kernel_rfl) (by kernel_rfl) (by kernel_rfl) (by kernel_rfl) (fun _ _ _ h => h) (by rfl) (by assumption) ?_ ?_
        rotate_left
        · (intro w' hSw; (try dsimp only at hSw); go_simp; try with_reducible rfl)
        try simp only [Act.put, List.setIfInBounds_toArray, List.set_cons_zero, List.set_cons_succ]
        refine take_yes 2 (some 44) (v := ?_) rfl (by kernel_rfl) (by kernel_rfl) (by kernel_rfl) (by kernel_rfl) (fun _ _ _ h => h) (by rfl) (by assumption) ?_ ?_
        rotate_left
        · (intro w' hSw; (try dsimp only at hSw); go_simp; try with_reducible rfl)
        try simp only [Act.put, List.setIfInBounds_toArray, List.set_cons_zero, List.set_cons_succ]
        refine take_yes 3 (some 45) (v := ?_) rfl (by kernel_rfl) (by kernel_rfl) (by kernel_rfl) (by kernel_rfl) (fun _ _ _ h => h) (by rfl) (by assumption) ?_ ?_
        rotate_left
        · (intro w' hSw; (try dsimp only at hSw); go_simp; try with_reducible rfl)
        try simp only [Act.put, List.setIfInBounds_toArray, List.set_cons_zero, List.set_cons_succ]
        refine take_yes 4 (some 46) (v := ?_) rfl (by kernel_rfl) (by kernel_rfl) (by kernel_rfl) (by kernel_rfl) (fun _ _ _ h => h) (by rfl) (by assumption) ?_ ?_
        rotate_left
        · (intro w' hSw; (try dsimp only at hSw); go_simp; try with_reducible rfl)
        try simp only [Act.put, List.setIfInBounds_toArray, List.set_cons_zero, List.set_cons_succ]
        refine take_yes 5 (some 47) (v := ?_) rfl (by kernel_rfl) (by kernel_rfl) (by kernel_rfl) (by kernel_rfl) (fun _ _ _ h => h) (by rfl) (by assumption) ?_ ?_
        rotate_left
        · (intro w' hSw; (try dsimp only at hSw); go_simp; try with_reducible rfl)
        try simp only [Act.put, List.setIfInBounds_toArray, List.set_cons_zero, List.set_cons_succ]
        refine take_yes 6 (some 48) (v := ?_) rfl (by kernel_rfl) (by kernel_rfl) (by kernel_rfl) (by kernel_rfl) (fun _ _ _ h => h) (by rfl) (by assumption) ?_ ?_
        rotate_left
        · (intro w' hSw; (try dsimp only at hSw); go_simp; try with_reducible rfl)
        try simp only [Act.put, List.setIfInBounds_toArray, List.set_cons_zero, List.set_cons_succ]
        refine take_yes 7 (some 49) (v := ?_) rfl (by kernel_rfl) (by kernel_rfl) (by kernel_rfl) (by kernel_rfl) (fun _ _ _ h => h) (by rfl) (by assumption) ?_ ?_
        rotate_left
        · (intro w' hSw; (try dsimp only at hSw); go_simp; try with_reducible rfl)
        try simp only [Act.put, List.setIfInBounds_toArray, List.set_cons_zero, List.set_cons_succ]
        refine take_two 1 8 rfl rfl (by kernel_rfl) (by rfl) (by rfl) (fun K hK => ?_) (fun K hK => ?_)
        · skip
          obtain ⟨q0, q1⟩ := (HB6.out.drew).one
          go_simp
          clear q0 q1
          refine hK.out _ _ (HKD.out _ ((Since.refl w6).drew)) (fun hHeld1 => ?_)
          clear hK K hHeld
          try simp only [Act.put, List.setIfInBounds_toArray, List.set_cons_zero, List.set_cons_succ]
          refine take_run 8 rfl (by kernel_rfl) (by rfl) (fun K hK => ?_)
          go_simp
          have hsb : Since w6 (w6.alloc (.cells #[.bool false, .int .i64 e.id, .int .i64 e.fr, .int .i64 (Edg.to e), .int .i64 e.lb] 64)).drew := ((Since.refl w6).alloc (.cells #[.bool false, .int .i64 e.id, .int .i64 e.fr, .int .i64 (Edg.to e), .int .i64 e.lb] 64)).drew
          refine hK.out _ _ (HKD.out _ (hsb)) (fun hHeld2 => ?_)
          clear hK K hHeld1
          try simp only [Act.put, List.setIfInBounds_toArray, List.set_cons_zero, List.set_cons_succ]
          refine take_run 9 rfl (by kernel_rfl) (by rfl) (fun K hK => ?_)
          refine wp_append_chgs (.tmp 43) (.tmp 50) rfl (y.heap.size + 1) _ ((missB (g.es.take k) h.es false)) rfl (HO6.out.since hsb) _ _ _ rfl [⟨false, e⟩] ((chg_lit w6 ⟨false, e⟩ HEI.out).since (Since.refl _).drew) (by have := HML.out; simp at this ⊢; omega) (by have := hsb.size; have := HB6.out.lt; omega) ?_
          intro v4 w4 ho4 hg4 hb4
          have ho5 : Hid (OwnC (y.heap.size + 1) w4 v4 (missB (g.es.take (k + 1)) h.es false)) := by unfold Hid; rw [HST.out]; exact ho4
          clear ho4
          have hc4 : Since y w4 := (hsw6.trans hsb).grown hg4 (fun q hq => by have := (HO6.out.since hsb).2.lt q hq; omega)
          have HB4 : Hid (Blk w4 y.heap.size 39 #[v]) := (HB6.out.since hsb).grwC hg4 (fun e => by have := (HO6.out.since hsb).2.lt y.heap.size e.symm; omega)
          obtain ⟨o4, c4, hv4⟩ := ho5.out.len
          obtain ⟨n4, hn4⟩ : ∃ n, ((missB (g.es.take (k + 1)) h.es false)).length = n := ⟨_, rfl⟩
          rw [hn4] at hv4
          subst hv4
          clear hn4
          have hS4 := HKW.out _ hc4
          refine hK.out _ _ hS4 (fun hHeld3 => ?_)
          clear hK K hHeld2
          try simp only [Act.put, List.setIfInBounds_toArray, List.set_cons_zero, List.set_cons_succ]
          refine take_yes 10 (some 52) (v := ?_) rfl (by kernel_rfl) (by kernel_rfl) (by kernel_rfl) (by kernel_rfl) (fun _ _ _ h => h) (by rfl) (by assumption) ?_ ?_
          rotate_left
          · (intro w' hSw; (try dsimp only at hSw); go_simp; try with_reducible rfl)
          try simp only [Act.put, List.setIfInBounds_toArray, List.set_cons_zero, List.set_cons_succ]
          refine take_run 11 rfl (by kernel_rfl) (by rfl) (fun K hK => ?_)
          obtain ⟨q0, q1⟩ := HB4.out.one
          go_simp
          clear q0 q1
          have hcz : Since y (w4.setCell ⟨y.heap.size, 0, none⟩ (.slice o4 n4 c4)) := hc4.setCell (Nat.le_refl _) _
          refine hK.out _ _ (HKW.out _ hcz) (fun hHeld4 => ?_)
          clear hK K hHeld3
          try simp only [Act.put, List.setIfInBounds_toArray, List.set_cons_zero, List.set_cons_succ]
          refine wpAnyH_done (by kernel_rfl) ?_ _
          clear hHeld4
          have HB5 : Hid (Blk (w4.setCell ⟨y.heap.size, 0, none⟩ (.slice o4 n4 c4)) y.heap.size 39 #[.slice o4 n4 c4]) := HB4.out.set 0 (.slice o4 n4 c4)
          have HO5 := Lib.hid (ho5.out.far (p := ⟨y.heap.size, 0, none⟩) (by simp) (.slice o4 n4 c4))
          clear hc4 HB4 hsb hb4 hg4
          go_wp2
          go_roundw
          case rel => exact ⟨k + 1, _, by omega, by go_num, HB5.out, HO5.out, hcz⟩
          case measure => simp [intOf]; omega
        · skip
          go_simp
          have hsb : Since w6 (w6.alloc (.cells #[.bool false, .int .i64 e.id, .int .i64 e.fr, .int .i64 (Edg.to e), .int .i64 e.lb] 64)).drew := ((Since.refl w6).alloc (.cells #[.bool false, .int .i64 e.id, .int .i64 e.fr, .int .i64 (Edg.to e), .int .i64 e.lb] 64)).drew
          refine hK.out _ _ (HKD.out _ (hsb)) (fun hHeld1 => ?_)
          clear hK K hHeld
          try simp only [Act.put, List.setIfInBounds_toArray, List.set_cons_zero, List.set_cons_succ]
          refine take_run 1 rfl (by kernel_rfl) (by rfl) (fun K hK => ?_)
          obtain ⟨q0, q1⟩ := (HB6.out.since hsb).one
          go_simp
          clear q0 q1
          refine hK.out _ _ (HKD.out _ (hsb)) (fun hHeld2 => ?_)
          clear hK K hHeld1
          try simp only [Act.put, List.setIfInBounds_toArray, List.set_cons_zero, List.set_cons_succ]
          refine take_run 9 rfl (by kernel_rfl) (by rfl) (fun K hK => ?_)
          refine wp_append_chgs (.tmp 43) (.tmp 50) rfl (y.heap.size + 1) _ ((missB (g.es.take k) h.es false)) rfl (HO6.out.since hsb) _ _ _ rfl [⟨false, e⟩] ((chg_lit w6 ⟨false, e⟩ HEI.out).since (Since.refl _).drew) (by have := HML.out; simp at this ⊢; omega) (by have := hsb.size; have := HB6.out.lt; omega) ?_
          intro v4 w4 ho4 hg4 hb4
          have ho5 : Hid (OwnC (y.heap.size + 1) w4 v4 (missB (g.es.take (k + 1)) h.es false)) := by unfold Hid; rw [HST.out]; exact ho4
          clear ho4
          have hc4 : Since y w4 := (hsw6.trans hsb).grown hg4 (fun q hq => by have := (HO6.out.since hsb).2.lt q hq; omega)
          have HB4 : Hid (Blk w4 y.heap.size 39 #[v]) := (HB6.out.since hsb).grwC hg4 (fun e => by have := (HO6.out.since hsb).2.lt y.heap.size e.symm; omega)
          obtain ⟨o4, c4, hv4⟩ := ho5.out.len
          obtain ⟨n4, hn4⟩ : ∃ n, ((missB (g.es.take (k + 1)) h.es false)).length = n := ⟨_, rfl⟩
          rw [hn4] at hv4
          subst hv4
          clear hn4
          have hS4 := HKW.out _ hc4
          refine hK.out _ _ hS4 (fun hHeld3 => ?_)
          clear hK K hHeld2
          try simp only [Act.put, List.setIfInBounds_toArray, List.set_cons_zero, List.set_cons_succ]
          refine take_yes 10 (some 52) (v := ?_) rfl (by kernel_rfl) (by kernel_rfl) (by kernel_rfl) (by kernel_rfl) (fun _ _ _ h => h) (by rfl) (by assumption) ?_ ?_
          rotate_left
          · (intro w' hSw; (try dsimp only at hSw); go_simp; try with_reducible rfl)
          try simp only [Act.put, List.setIfInBounds_toArray, List.set_cons_zero, List.set_cons_succ]
          refine take_run 11 rfl (by kernel_rfl) (by rfl) (fun K hK => ?_)
          obtain ⟨q0, q1⟩ := HB4.out.one
          go_simp
          clear q0 q1
          have hcz : Since y (w4.setCell ⟨y.heap.size, 0, none⟩ (.slice o4 n4 c4)) := hc4.setCell (Nat.le_refl _) _
          refine hK.out _ _ (HKW.out _ hcz) (fun hHeld4 => ?_)
          clear hK K hHeld3
          try simp only [Act.put, List.setIfInBounds_toArray, List.set_cons_zero, List.set_cons_succ]
          refine wpAnyH_done (by kernel_rfl) ?_ _
          clear hHeld4
          have HB5 : Hid (Blk (w4.setCell ⟨y.heap.size, 0, none⟩ (.slice o4 n4 c4)) y.heap.size 39 #[.slice o4 n4 c4]) := HB4.out.set 0 (.slice o4 n4 c4)
          have HO5 := Lib.hid (ho5.out.far (p := ⟨y.heap.size, 0, none⟩) (by simp) (.slice o4 n4 c4))
          clear hc4 HB4 hsb hb4 hg4
          go_wp2
          go_roundw
          case rel => exact ⟨k + 1, _, by omega, by go_num, HB5.out, HO5.out, hcz⟩
          case measure => simp [intOf]; omega
    · have hkn : n = k := by omega
      subst hkn
      obtain ⟨cg0, cg1, _, _⟩ := (BG.out.since hsw).two
      obtain ⟨ch0, ch1, _, _⟩ := (BH.out.since hsw).two
      have HOF : Hid (OwnC (y.heap.size + 1) wr (.slice vo ((missB (g.es.take n) h.es false)).length vc) (missB g.es h.es false)) := by
        have := HOw.out
        rw [List.take_of_length_le (by have := HN.out; omega)] at this ⊢
        exact this
      have B1 := HB
      have O1 : Hid (OwnC (y.heap.size + 1) wr (.slice vo (missB (g.es.take n) h.es false).length vc) (missB g.es h.es false ++ missB (h.es.take 0) g.es true)) := by
        unfold Hid; simp only [List.take_zero]; rw [show missB [] g.es true = [] from rfl, List.append_nil]; exact HOF.out
      generalize (missB (g.es.take n) h.es false).length = q at B1 O1
      clear HB HOw HOF
      obtain ⟨W, hW⟩ : ∃ W, W = wr := ⟨_, rfl⟩
      go_wp2_with fail
      clear cg0 cg1 ch0 ch1
      go_loopw [8] (fun i wr => ∃ (k : Nat) (v : Value), k ≤ m ∧ i = .int .i64 k ∧ Hid (Blk wr y.heap.size 39 #[v]) ∧ Hid (OwnC (y.heap.size + 1) wr v (missB g.es h.es false ++ missB (h.es.take k) g.es true)) ∧ Since y wr) (fun i _ => m - (intOf i).toNat)
      case atStart => exact ⟨0, _, Nat.zero_le _, rfl, B1.out, O1.out, hsw⟩
      case round =>
        obtain ⟨k, v, hk, rfl, HB, HOw, hsw⟩ := hrel
        obtain ⟨vo, vc, rfl⟩ := HOw.out.len
        have hs0w := hs0.trans hsw
        by_cases hlt : k < m
        · have hx : k < h.es.length := by have := HM.out; omega
          obtain ⟨be, oe, rfl, hbe, d0, d1, d2, d3⟩ := HCH.out k hx
          have HST := Lib.hid (missB_step h.es g.es true k hx)
          have HEI : Hid (h.es[k].In) := HCHI.out _ (List.getElem_mem hx)
          have HML : Hid (((missB g.es h.es false ++ missB (h.es.take k) g.es true)).length + 1 ≤ 4194304) := by
            have l1 := missB_len g.es h.es false
            have l2 := missB_len (h.es.take k) g.es true
            rw [List.length_take] at l2
            have := HN.out; have := HM.out
            unfold Hid; simp; omega
          generalize h.es[k] = e at d0 d1 d2 d3 HST HEI
          have HKW : Hid (∀ w', Since y w' → w'.cell? ⟨w.heap.size, 0, none⟩ = some (.slice ao g.vs.length ac) ∧ w'.cell? ⟨w.heap.size, 1, none⟩ = some (.slice bo n bc) ∧ w'.cell? ⟨w.heap.size + 1, 0, none⟩ = some (.slice co h.vs.length cc) ∧ w'.cell? ⟨w.heap.size + 1, 1, none⟩ = some (.slice (some ⟨be, oe, none⟩) m dc) ∧ w'.cell? ⟨be, oe + k * 4, none⟩ = some (.int .i64 e.id) ∧ w'.cell? ⟨be, oe + k * 4 + 1, none⟩ = some (.int .i64 e.fr) ∧ w'.cell? ⟨be, oe + k * 4 + 2, none⟩ = some (.int .i64 (Edg.to e)) ∧ w'.cell? ⟨be, oe + k * 4 + 3, none⟩ = some (.int .i64 e.lb)) := by
            intro w' hs
            obtain ⟨x0, x1, _, _⟩ := (BG.out.since hs).two
            obtain ⟨x2, x3, _, _⟩ := (BH.out.since hs).two
            have s1 := since_cells (hs0.trans hs) hbe
            exact ⟨x0, x1, x2, x3, (s1 _).trans d0, (s1 _).trans d1, (s1 _).trans d2, (s1 _).trans d3⟩
          have HKC : Hid (∀ w', Since wr w' → w'.cell? ⟨w.heap.size, 0, none⟩ = some (.slice ao g.vs.length ac) ∧ w'.cell? ⟨w.heap.size, 1, none⟩ = some (.slice bo n bc) ∧ w'.cell? ⟨w.heap.size + 1, 0, none⟩ = some (.slice co h.vs.length cc) ∧ w'.cell? ⟨w.heap.size + 1, 1, none⟩ = some (.slice (some ⟨be, oe, none⟩) m dc) ∧ w'.cell? ⟨be, oe + k * 4, none⟩ = some (.int .i64 e.id) ∧ w'.cell? ⟨be, oe + k * 4 + 1, none⟩ = some (.int .i64 e.fr) ∧ w'.cell? ⟨be, oe + k * 4 + 2, none⟩ = some (.int .i64 (Edg.to e)) ∧ w'.cell? ⟨be, oe + k * 4 + 3, none⟩ = some (.int .i64 e.lb)) := fun w' hs => HKW.out w' (hsw.trans hs)
          have kk0 : (0 : Int) ≤ (k : Int) := by omega
          have kk1 : (k : Int) < (m : Int) := by omega
          obtain ⟨cell0, cell1, cell2, cell3, _⟩ := HKC.out _ (Since.refl _)
          clear d0 d1 d2 d3
          by_cases hm : e ∈ g.es
          · have HHX : Hid (hasE g e = true) := by unfold Hid; rw [hasE_iff HV.out, decide_eq_true hm]
            rw [if_pos hm, List.append_nil] at HST
            clear hm
            go_wp2_with fail
            clear cell0 cell1 cell2 cell3
            refine wp_region_held_drew (S := (fun w' => w'.cell? ⟨w.heap.size, 0, none⟩ = some (.slice ao g.vs.length ac) ∧ w'.cell? ⟨w.heap.size, 1, none⟩ = some (.slice bo n bc) ∧ w'.cell? ⟨w.heap.size + 1, 0, none⟩ = some (.slice co h.vs.length cc) ∧ w'.cell? ⟨w.heap.size + 1, 1, none⟩ = some (.slice (some ⟨be, oe, none⟩) m dc) ∧ w'.cell? ⟨be, oe + k * 4, none⟩ = some (.int .i64 e.id) ∧ w'.cell? ⟨be, oe + k * 4 + 1, none⟩ = some (.int .i64 e.fr) ∧ w'.cell? ⟨be, oe + k * 4 + 2, none⟩ = some (.int .i64 (Edg.to e)) ∧ w'.cell? ⟨be, oe + k * 4 + 3, none⟩ = some (.int .i64 e.lb))) (by kernel_rfl) (HKC.out _ (Since.refl _).drew) (fun hHeld => ?_)
            refine take_yes 0 (some 60) (v := ?_) rfl (by kernel_rfl) (by kernel_rfl) (by kernel_rfl) (by kernel_rfl) (fun _ _ _ h => h) (by rfl) (by assumption) ?_ ?_
            rotate_left
            · (intro w' hSw; (try dsimp only at hSw); go_simp; try with_reducible rfl)
            try simp only [Act.put, List.setIfInBounds_toArray, List.set_cons_zero, List.set_cons_succ]
            refine take_yes 1 (some 61) (v := ?_) rfl (by kernel_rfl) (by kernel_rfl) (by kernel_rfl) (by kernel_rfl) (fun _ _ _ h => h) (by rfl) (by assumption) ?_ ?_
            rotate_left
            · (intro w' hSw; (try dsimp only at hSw); go_simp; try with_reducible rfl)
            try simp only [Act.put, List.setIfInBounds_toArray, List.set_cons_zero, List.set_cons_succ]
            refine take_yes 2 (some 62) (v := ?_) rfl (by kernel_rfl) (by kernel_rfl) (by kernel_rfl) (by kernel_rfl) (fun _ _ _ h => h) (by rfl) (by assumption) ?_ ?_
            rotate_left
            · (intro w' hSw; (try dsimp only at hSw); go_simp; try with_reducible rfl)
            try simp only [Act.put, List.setIfInBounds_toArray, List.set_cons_zero, List.set_cons_succ]
            refine take_yes 3 (some 63) (v := ?_) rfl (by kernel_rfl) (by kernel_rfl) (by kernel_rfl) (by kernel_rfl) (fun _ _ _ h => h) (by rfl) (by assumption) ?_ ?_
            rotate_left
            · (intro w' hSw; (try dsimp only at hSw); go_simp; try with_reducible rfl)
            try simp only [Act.put, List.setIfInBounds_toArray, List.set_cons_zero, List.set_cons_succ]
            refine take_yes 4 (some 64) (v := ?_) rfl (by kernel_rfl) (by kernel_rfl) (by kernel_rfl) (by kernel_rfl) (fun _ _ _ h => h) (by rfl) (by assumption) ?_ ?_
            rotate_left
            · (intro w' hSw; (try dsimp only at hSw); go_simp; try with_reducible rfl)
            try simp only [Act.put, List.setIfInBounds_toArray, List.set_cons_zero, List.set_cons_succ]
            refine take_yes 5 (some 65) (v := ?_) rfl (by kernel_rfl) (by kernel_rfl) (by kernel_rfl) (by kernel_rfl) (fun _ _ _ h => h) (by rfl) (by assumption) ?_ ?_
            rotate_left
            · (intro w' hSw; (try dsimp only at hSw); go_simp; try with_reducible rfl)
            try simp only [Act.put, List.setIfInBounds_toArray, List.set_cons_zero, List.set_cons_succ]
            refine take_run 6 rfl (by kernel_rfl) (by rfl) (fun K hK => ?_)
            go_simp
            refine (l6Has_any _ g e _ (HG.out.since (hs0w.trans (Since.refl wr).drew)) g1 g2).mono ?_
            rintro en w6 ⟨rfl, hs6⟩
            have hc6 := (Since.refl wr).drew.trans hs6
            rw [HHX.out]
            refine hK.out _ _ (HKC.out _ hc6) (fun hHeld1 => ?_)
            clear hK K hHeld
            try simp only [Act.put, List.setIfInBounds_toArray, List.set_cons_zero, List.set_cons_succ]
            refine take_yes 7 (some 67) (v := ?_) rfl (by kernel_rfl) (by kernel_rfl) (by kernel_rfl) (by kernel_rfl) (fun _ _ _ h => h) (by rfl) (by assumption) ?_ ?_
            rotate_left
            · (intro w' hSw; (try dsimp only at hSw); go_simp; try with_reducible rfl)
            try simp only [Act.put, List.setIfInBounds_toArray, List.set_cons_zero, List.set_cons_succ]
            refine wpAnyH_done (by kernel_rfl) ?_ _
            clear hHeld1
            have HB6 := Lib.hid (HB.out.since hc6)
            have HO6 : Hid (OwnC (y.heap.size + 1) w6 (.slice vo ((missB g.es h.es false ++ missB (h.es.take k) g.es true)).length vc) (missB g.es h.es false ++ missB (h.es.take (k + 1)) g.es true)) := by unfold Hid; rw [HST.out]; exact HOw.out.since hc6
            have hsw6 := hsw.trans hc6
            generalize ((missB g.es h.es false ++ missB (h.es.take k) g.es true)).length = q at HB6 HO6
            clear HB HOw HKC HKW hc6 hs6
            go_wp2
            go_roundw
            case rel => exact ⟨k + 1, _, by omega, by go_num, HB6.out, HO6.out, hsw6⟩
            case measure => simp [intOf]; omega
          · have HHX : Hid (hasE g e = false) := by unfold Hid; rw [hasE_iff HV.out, decide_eq_false hm]
            rw [if_neg hm] at HST
            clear hm
            generalize hvv : Value.slice vo ((missB g.es h.es false ++ missB (h.es.take k) g.es true)).length vc = v at HB HOw
            go_wp2_with fail
            clear cell0 cell1 cell2 cell3
            refine wp_region_held_drew (S := (fun w' => w'.cell? ⟨w.heap.size, 0, none⟩ = some (.slice ao g.vs.length ac) ∧ w'.cell? ⟨w.heap.size, 1, none⟩ = some (.slice bo n bc) ∧ w'.cell? ⟨w.heap.size + 1, 0, none⟩ = some (.slice co h.vs.length cc) ∧ w'.cell? ⟨w.heap.size + 1, 1, none⟩ = some (.slice (some ⟨be, oe, none⟩) m dc) ∧ w'.cell? ⟨be, oe + k * 4, none⟩ = some (.int .i64 e.id) ∧ w'.cell? ⟨be, oe + k * 4 + 1, none⟩ = some (.int .i64 e.fr) ∧ w'.cell? ⟨be, oe + k * 4 + 2, none⟩ = some (.int .i64 (Edg.to e)) ∧ w'.cell? ⟨be, oe + k * 4 + 3, none⟩ = some (.int .i64 e.lb))) (by kernel_rfl) (HKC.out _ (Since.refl _).drew) (fun hHeld => ?_)
            refine take_yes 0 (some 60) (v := ?_) rfl (by kernel_rfl) (by kernel_rfl) (by kernel_rfl) (by kernel_rfl) (fun _ _ _ h => h) (by rfl) (by assumption) ?_ ?_
            rotate_left
            · (intro w' hSw; (try dsimp only at hSw); go_simp; try with_reducible rfl)
            try simp only [Act.put, List.setIfInBounds_toArray, List.set_cons_zero, List.set_cons_succ]
            refine take_yes 1 (some 61) (v := ?_) rfl (by kernel_rfl) (by kernel_rfl) (by kernel_rfl) (by kernel_rfl) (fun _ _ _ h => h) (by rfl) (by assumption) ?_ ?_
            rotate_left
            · (intro w' hSw; (try dsimp only at hSw); go_simp; try with_reducible rfl)
            try simp only [Act.put, List.setIfInBounds_toArray, List.set_cons_zero, List.set_cons_succ]
            refine take_yes 2 (some 62) (v := ?_) rfl (by kernel_rfl) (by kernel_rfl) (by kernel_rfl) (by kernel_rfl) (fun _ _ _ h => h) (by rfl) (by assumption) ?_ ?_
            rotate_left
            · (intro w' hSw; (try dsimp only at hSw); go_simp; try with_reducible rfl)
            try simp only [Act.put, List.setIfInBounds_toArray, List.set_cons_zero, List.set_cons_succ]
            refine take_yes 3 (some 63) (v := ?_) rfl (by kernel_rfl) (by kernel_rfl) (by kernel_rfl) (by kernel_rfl) (fun _ _ _ h => h) (by rfl) (by assumption) ?_ ?_
            rotate_left
            · (intro w' hSw; (try dsimp only at hSw); go_simp; try with_reducible rfl)
            try simp only [Act.put, List.setIfInBounds_toArray, List.set_cons_zero, List.set_cons_succ]
            refine take_yes 4 (some 64) (v := ?_) rfl (by kernel_rfl) (by kernel_rfl) (by kernel_rfl) (by kernel_rfl) (fun _ _ _ h => h) (by rfl) (by assumption) ?_ ?_
            rotate_left
            · (intro w' hSw; (try dsimp only at hSw); go_simp; try with_reducible rfl)
            try simp only [Act.put, List.setIfInBounds_toArray, List.set_cons_zero, List.set_cons_succ]
            refine take_yes 5 (some 65) (v := ?_) rfl (by kernel_rfl) (by kernel_rfl) (by kernel_rfl) (by kernel_rfl) (fun _ _ _ h => h) (by rfl) (by assumption) ?_ ?_
            rotate_left
            · (intro w' hSw; (try dsimp only at hSw); go_simp; try with_reducible rfl)
            try simp only [Act.put, List.setIfInBounds_toArray, List.set_cons_zero, List.set_cons_succ]
            refine take_run 6 rfl (by kernel_rfl) (by rfl) (fun K hK => ?_)
            go_simp
            refine (l6Has_any _ g e _ (HG.out.since (hs0w.trans (Since.refl wr).drew)) g1 g2).mono ?_
            rintro en w6 ⟨rfl, hs6⟩
            have hc6 := (Since.refl wr).drew.trans hs6
            rw [HHX.out]
            refine hK.out _ _ (HKC.out _ hc6) (fun hHeld1 => ?_)
            clear hK K hHeld
            try simp only [Act.put, List.setIfInBounds_toArray, List.set_cons_zero, List.set_cons_succ]
            refine take_yes 7 (some 67) (v := ?_) rfl (by kernel_rfl) (by kernel_rfl) (by kernel_rfl) (by kernel_rfl) (fun _ _ _ h => h) (by rfl) (by assumption) ?_ ?_
            rotate_left
            · (intro w' hSw; (try dsimp only at hSw); go_simp; try with_reducible rfl)
            try simp only [Act.put, List.setIfInBounds_toArray, List.set_cons_zero, List.set_cons_succ]
            refine wpAnyH_done (by kernel_rfl) ?_ _
            clear hHeld1
            have HB6 := Lib.hid (HB.out.since hc6)
            have HO6 := Lib.hid (HOw.out.since hc6)
            have hsw6 := hsw.trans hc6
            have HKD : Hid (∀ w', Since w6 w' → w'.cell? ⟨w.heap.size, 0, none⟩ = some (.slice ao g.vs.length ac) ∧ w'.cell? ⟨w.heap.size, 1, none⟩ = some (.slice bo n bc) ∧ w'.cell? ⟨w.heap.size + 1, 0, none⟩ = some (.slice co h.vs.length cc) ∧ w'.cell? ⟨w.heap.size + 1, 1, none⟩ = some (.slice (some ⟨be, oe, none⟩) m dc) ∧ w'.cell? ⟨be, oe + k * 4, none⟩ = some (.int .i64 e.id) ∧ w'.cell? ⟨be, oe + k * 4 + 1, none⟩ = some (.int .i64 e.fr) ∧ w'.cell? ⟨be, oe + k * 4 + 2, none⟩ = some (.int .i64 (Edg.to e)) ∧ w'.cell? ⟨be, oe + k * 4 + 3, none⟩ = some (.int .i64 e.lb)) := fun w' hs => HKW.out w' (hsw6.trans hs)
            clear HB HOw HKC hc6 hs6
            go_wp2_with fail
            refine wp_region_held_drew (S := (fun w' => w'.cell? ⟨w.heap.size, 0, none⟩ = some (.slice ao g.vs.length ac) ∧ w'.cell? ⟨w.heap.size, 1, none⟩ = some (.slice bo n bc) ∧ w'.cell? ⟨w.heap.size + 1, 0, none⟩ = some (.slice co h.vs.length cc) ∧ w'.cell? ⟨w.heap.size + 1, 1, none⟩ = some (.slice (some ⟨be, oe, none⟩) m dc) ∧ w'.cell? ⟨be, oe + k * 4, none⟩ = some (.int .i64 e.id) ∧ w'.cell? ⟨be, oe + k * 4 + 1, none⟩ = some (.int .i64 e.fr) ∧ w'.cell? ⟨be, oe + k * 4 + 2, none⟩ = some (.int .i64 (Edg.to e)) ∧ w'.cell? ⟨be, oe + k * 4 + 3, none⟩ = some (.int .i64 e.lb))) (by kernel_rfl) (HKD.out _ (Since.refl _).drew) (fun hHeld => ?_)
            refine take_yes 0 (some 68) (v := ?_) rfl (by kernel_rfl) (by kernel_rfl) (by kernel_rfl) (by kernel_rfl) (fun _ _ _ h => h) (by rfl) (by assumption) ?_ ?_
            rotate_left
            · (intro w' hSw; (try dsimp only at hSw); go_simp; try with_reducible rfl)
            try simp only [Act.put, List.setIfInBounds_toArray, List.set_cons_zero, List.set_cons_succ]
            refine take_yes 2 (some 70) (v := ?_) rfl (by kernel_rfl) (by kernel_rfl) (by kernel_rfl) (by kernel_rfl) (fun _ _ _ h => h) (by rfl) (by assumption) ?_ ?_
            rotate_left
            · (intro w' hSw; (try dsimp only at hSw); go_simp; try with_reducible rfl)
            try simp only [Act.put, List.setIfInBounds_toArray, List.set_cons_zero, List.set_cons_succ]
            refine take_yes 3 (some 71) (v := ?_) rfl (by kernel_rfl) (by kernel_rfl) (by kernel_rfl) (by kernel_rfl) (fun _ _ _ h => h) (by rfl) (by assumption) ?_ ?_
            rotate_left
            · (intro w' hSw; (try dsimp only at hSw); go_simp; try with_reducible rfl)
            try simp only [Act.put, List.setIfInBounds_toArray, List.set_cons_zero, List.set_cons_succ]
            refine take_yes 4 (some 72) (v := ?_) rfl (by kernel_rfl) (by kernel_rfl) (by kernel_rfl) (by kernel_rfl) (fun _ _ _ h => h) (by rfl) (by assumption) ?_ ?_
            rotate_left
            · (intro w' hSw; (try dsimp only at hSw); go_simp; try with_reducible rfl)
            try simp only [Act.put, List.setIfInBounds_toArray, List.set_cons_zero, List.set_cons_succ]
            refine take_yes 5 (some 73) (v := ?_) rfl (by kernel_rfl) (by kernel_rfl) (by kernel_rfl) (by kernel_rfl) (fun _ _ _ h => h) (by rfl) (by assumption) ?_ ?_
            rotate_left
            · (intro w' hSw; (try dsimp only at hSw); go_simp; try with_reducible rfl)
            try simp only [Act.put, List.setIfInBounds_toArray, List.set_cons_zero, List.set_cons_succ]
            refine take_yes 6 (some 74) (v := ?_) rfl (by kernel_rfl) (by kernel_rfl) (by kernel_rfl) (by kernel_rfl) (fun _ _ _ h => h) (by rfl) (by assumption) ?_ ?_
            rotate_left
            · (intro w' hSw; (try dsimp only at hSw); go_simp; try with_reducible rfl)
            try simp only [Act.put, List.setIfInBounds_toArray, List.set_cons_zero, List.set_cons_succ]
            refine take_yes 7 (some 75) (v := ?_) rfl (by kernel_rfl) (by kernel_rfl) (by kernel_rfl) (by kernel_rfl) (fun _ _ _ h => h) (by rfl) (by assumption) ?_ ?_
            rotate_left
            · (intro w' hSw; (try dsimp only at hSw); go_simp; try with_reducible rfl)
            try simp only [Act.put, List.setIfInBounds_toArray, List.set_cons_zero, List.set_cons_succ]
            refine take_two 1 8 rfl rfl (by kernel_rfl) (by rfl) (by rfl) (fun K hK => ?_) (fun K hK => ?_)
            · skip
              obtain ⟨q0, q1⟩ := (HB6.out.drew).one
              go_simp
              clear q0 q1
              refine hK.out _ _ (HKD.out _ ((Since.refl w6).drew)) (fun hHeld1 => ?_)
              clear hK K hHeld
              try simp only [Act.put, List.setIfInBounds_toArray, List.set_cons_zero, List.set_cons_succ]
              refine take_run 8 rfl (by kernel_rfl) (by rfl) (fun K hK => ?_)
              go_simp
              have hsb : Since w6 (w6.alloc (.cells #[.bool true, .int .i64 e.id, .int .i64 e.fr, .int .i64 (Edg.to e), .int .i64 e.lb] 64)).drew := ((Since.refl w6).alloc (.cells #[.bool true, .int .i64 e.id, .int .i64 e.fr, .int .i64 (Edg.to e), .int .i64 e.lb] 64)).drew
              refine hK.out _ _ (HKD.out _ (hsb)) (fun hHeld2 => ?_)
              clear hK K hHeld1
              try simp only [Act.put, List.setIfInBounds_toArray, List.set_cons_zero, List.set_cons_succ]
              refine take_run 9 rfl (by kernel_rfl) (by rfl) (fun K hK => ?_)
              refine wp_append_chgs (.tmp 69) (.tmp 76) rfl (y.heap.size + 1) _ ((missB g.es h.es false ++ missB (h.es.take k) g.es true)) rfl (HO6.out.since hsb) _ _ _ rfl [⟨true, e⟩] ((chg_lit w6 ⟨true, e⟩ HEI.out).since (Since.refl _).drew) (by have := HML.out; simp at this ⊢; omega) (by have := hsb.size; have := HB6.out.lt; omega) ?_
              intro v4 w4 ho4 hg4 hb4
              have ho5 : Hid (OwnC (y.heap.size + 1) w4 v4 (missB g.es h.es false ++ missB (h.es.take (k + 1)) g.es true)) := by unfold Hid; rw [HST.out, ← List.append_assoc]; exact ho4
              clear ho4
              have hc4 : Since y w4 := (hsw6.trans hsb).grown hg4 (fun q hq => by have := (HO6.out.since hsb).2.lt q hq; omega)
              have HB4 : Hid (Blk w4 y.heap.size 39 #[v]) := (HB6.out.since hsb).grwC hg4 (fun e => by have := (HO6.out.since hsb).2.lt y.heap.size e.symm; omega)
              obtain ⟨o4, c4, hv4⟩ := ho5.out.len
              obtain ⟨n4, hn4⟩ : ∃ n, ((missB g.es h.es false ++ missB (h.es.take (k + 1)) g.es true)).length = n := ⟨_, rfl⟩
              rw [hn4] at hv4
              subst hv4
              clear hn4
              have hS4 := HKW.out _ hc4
              refine hK.out _ _ hS4 (fun hHeld3 => ?_)
              clear hK K hHeld2
              try simp only [Act.put, List.setIfInBounds_toArray, List.set_cons_zero, List.set_cons_succ]
              refine take_yes 10 (some 78) (v := ?_) rfl (by kernel_rfl) (by kernel_rfl) (by kernel_rfl) (by kernel_rfl) (fun _ _ _ h => h) (by rfl) (by assumption) ?_ ?_
              rotate_left
              · (intro w' hSw; (try dsimp only at hSw); go_simp; try with_reducible rfl)
              try simp only [Act.put, List.setIfInBounds_toArray, List.set_cons_zero, List.set_cons_succ]
              refine take_run 11 rfl (by kernel_rfl) (by rfl) (fun K hK => ?_)
              obtain ⟨q0, q1⟩ := HB4.out.one
              go_simp
              clear q0 q1
              have hcz : Since y (w4.setCell ⟨y.heap.size, 0, none⟩ (.slice o4 n4 c4)) := hc4.setCell (Nat.le_refl _) _
              refine hK.out _ _ (HKW.out _ hcz) (fun hHeld4 => ?_)
              clear hK K hHeld3
              try simp only [Act.put, List.setIfInBounds_toArray, List.set_cons_zero, List.set_cons_succ]
              refine wpAnyH_done (by kernel_rfl) ?_ _
              clear hHeld4
              have HB5 : Hid (Blk (w4.setCell ⟨y.heap.size, 0, none⟩ (.slice o4 n4 c4)) y.heap.size 39 #[.slice o4 n4 c4]) := HB4.out.set 0 (.slice o4 n4 c4)
              have HO5 := Lib.hid (ho5.out.far (p := ⟨y.heap.size, 0, none⟩) (by simp) (.slice o4 n4 c4))
              clear hc4 HB4 hsb hb4 hg4
              go_wp2
              go_roundw
              case rel => exact ⟨k + 1, _, by omega, by go_num, HB5.out, HO5.out, hcz⟩
              case measure => simp [intOf]; omega
            · skip
              go_simp
              have hsb : Since w6 (w6.alloc (.cells #[.bool true, .int .i64 e.id, .int .i64 e.fr, .int .i64 (Edg.to e), .int .i64 e.lb] 64)).drew := ((Since.refl w6).alloc (.cells #[.bool true, .int .i64 e.id, .int .i64 e.fr, .int .i64 (Edg.to e), .int .i64 e.lb] 64)).drew
              refine hK.out _ _ (HKD.out _ (hsb)) (fun hHeld1 => ?_)
              clear hK K hHeld
              try simp only [Act.put, List.setIfInBounds_toArray, List.set_cons_zero, List.set_cons_succ]
              refine take_run 1 rfl (by kernel_rfl) (by rfl) (fun K hK => ?_)
              obtain ⟨q0, q1⟩ := (HB6.out.since hsb).one
              go_simp
              clear q0 q1
              refine hK.out _ _ (HKD.out _ (hsb)) (fun hHeld2 => ?_)
              clear hK K hHeld1
              try simp only [Act.put, List.setIfInBounds_toArray, List.set_cons_zero, List.set_cons_succ]
              refine take_run 9 rfl (by kernel_rfl) (by rfl) (fun K hK => ?_)
              refine wp_append_chgs (.tmp 69) (.tmp 76) rfl (y.heap.size + 1) _ ((missB g.es h.es false ++ missB (h.es.take k) g.es true)) rfl (HO6.out.since hsb) _ _ _ rfl [⟨true, e⟩] ((chg_lit w6 ⟨true, e⟩ HEI.out).since (Since.refl _).drew) (by have := HML.out; simp at this ⊢; omega) (by have := hsb.size; have := HB6.out.lt; omega) ?_
              intro v4 w4 ho4 hg4 hb4
              have ho5 : Hid (OwnC (y.heap.size + 1) w4 v4 (missB g.es h.es false ++ missB (h.es.take (k + 1)) g.es true)) := by unfold Hid; rw [HST.out, ← List.append_assoc]; exact ho4
              clear ho4
              have hc4 : Since y w4 := (hsw6.trans hsb).grown hg4 (fun q hq => by have := (HO6.out.since hsb).2.lt q hq; omega)
              have HB4 : Hid (Blk w4 y.heap.size 39 #[v]) := (HB6.out.since hsb).grwC hg4 (fun e => by have := (HO6.out.since hsb).2.lt y.heap.size e.symm; omega)
              obtain ⟨o4, c4, hv4⟩ := ho5.out.len
              obtain ⟨n4, hn4⟩ : ∃ n, ((missB g.es h.es false ++ missB (h.es.take (k + 1)) g.es true)).length = n := ⟨_, rfl⟩
              rw [hn4] at hv4
              subst hv4
              clear hn4
              have hS4 := HKW.out _ hc4
              refine hK.out _ _ hS4 (fun hHeld3 => ?_)
              clear hK K hHeld2
              try simp only [Act.put, List.setIfInBounds_toArray, List.set_cons_zero, List.set_cons_succ]
              refine take_yes 10 (some 78) (v := ?_) rfl (by kernel_rfl) (by kernel_rfl) (by kernel_rfl) (by kernel_rfl) (fun _ _ _ h => h) (by rfl) (by assumption) ?_ ?_
              rotate_left
              · (intro w' hSw; (try dsimp only at hSw); go_simp; try with_reducible rfl)
              try simp only [Act.put, List.setIfInBounds_toArray, List.set_cons_zero, List.set_cons_succ]
              refine take_run 11 rfl (by kernel_rfl) (by rfl) (fun K hK => ?_)
              obtain ⟨q0, q1⟩ := HB4.out.one
              go_simp
              clear q0 q1
              have hcz : Since y (w4.setCell ⟨y.heap.size, 0, none⟩ (.slice o4 n4 c4)) := hc4.setCell (Nat.le_refl _) _
              refine hK.out _ _ (HKW.out _ hcz) (fun hHeld4 => ?_)
              clear hK K hHeld3
              try simp only [Act.put, List.setIfInBounds_toArray, List.set_cons_zero, List.set_cons_succ]
              refine wpAnyH_done (by kernel_rfl) ?_ _
              clear hHeld4
              have HB5 : Hid (Blk (w4.setCell ⟨y.heap.size, 0, none⟩ (.slice o4 n4 c4)) y.heap.size 39 #[.slice o4 n4 c4]) := HB4.out.set 0 (.slice o4 n4 c4)
              have HO5 := Lib.hid (ho5.out.far (p := ⟨y.heap.size, 0, none⟩) (by simp) (.slice o4 n4 c4))
              clear hc4 HB4 hsb hb4 hg4
              go_wp2
              go_roundw
              case rel => exact ⟨k + 1, _, by omega, by go_num, HB5.out, HO5.out, hcz⟩
              case measure => simp [intOf]; omega
        · obtain rfl : k = m := by omega
          obtain ⟨cg0, cg1, _, _⟩ := (BG.out.since hsw).two
          obtain ⟨ch0, ch1, _, _⟩ := (BH.out.since hsw).two
          have HOF : Hid (OwnC (y.heap.size + 1) wr (.slice vo ((missB g.es h.es false ++ missB (h.es.take k) g.es true)).length vc) (missB g.es h.es false ++ missB h.es g.es true)) := by
            have := HOw.out
            rw [List.take_of_length_le (by have := HM.out; omega)] at this ⊢
            exact this
          have HCL : Hid ((missB g.es h.es false ++ missB (h.es.take k) g.es true).length = (betL g h).length) := by
            unfold Hid betL; rw [List.take_of_length_le (by have := HM.out; omega)]
          have HOL : Hid (OwnC (y.heap.size + 1) wr (.slice vo (betL g h).length vc) (betL g h)) := by
            have := HOF.out
            rw [HCL.out] at this
            exact this
          rw [HCL.out] at HB
          have hllb : (betL g h).length ≤ 4194304 := by
            have := (missB_len g.es h.es false); have := (missB_len h.es g.es true)
            unfold betL; rw [List.length_append]; have := HN.out; have := HM.out; omega
          clear HOw HOF HCL
          obtain ⟨s0, s1⟩ := HB.out.one
          obtain ⟨r0, r1⟩ := (BR.out.since hsw).one
          have hzy : y.heap.size + 1 ≤ wr.heap.size := HB.out.lt
          by_cases hlen : 6 < (betL g h).length
          · have hgt : (6 : Int) < ((betL g h).length : Int) := by omega
            have HA := Lib.hid (bet_noS (g := g) (h := h) (by rw [HCC.out]; exact decide_eq_false (by omega)))
            go_wp2_with fail
            refine bodyPost_ret (v := .tuple #[.agg #[.slice none 0 0], .bool false]) (by simp [results, Try.results27, go_sem, *]) rfl ?_
            exact bb_noS HA.out.1 HA.out.2 (by omega) hs0w _
          · have hgt : ¬ (6 : Int) < ((betL g h).length : Int) := by omega
            have HA := Lib.hid (bet_yesS (g := g) (h := h) (by rw [HCC.out]; exact decide_eq_true (by omega)))
            go_wp2_with fail
            refine bodyPost_ret (v := .tuple #[.agg #[.slice vo (betL g h).length vc], .bool true]) (by simp [results, Try.results27, go_sem, *]) rfl ?_
            rw [HA.out.2]
            exact bb_yesS HA.out.1 HOL.out (by omega) (by omega) (by omega) hs0w _
end Go.Proofs.Ytdbedoediicmhaa
