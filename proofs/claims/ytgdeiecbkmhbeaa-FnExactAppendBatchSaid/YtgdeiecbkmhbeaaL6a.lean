/- The model's l6Apply and ApplyBatch. -/
import Derived.Test.YtgdeiecbkmhbeaaCtn
import Derived.Test.YtgdeiecbkmhbeaaBchM
import Derived.Test.YtgdeiecbkmhbeaaIeS
import Derived.Test.YtgdeiecbkmhbeaaDeS
import Derived.Test.YtgdeiecbkmhbeaaChgL
namespace Go.Proofs.Ytgdeiecbkmhbeaa
set_option maxRecDepth 100000
open Go.ChangeShapes Go.WideShapes Go.ChangeAt Go.RowKit
set_option linter.unusedVariables false
set_option linter.unusedSimpArgs false

def l6R (g : Grf) (cs : List Chg) : Option Grf := runC g (cs.take 7)
def l6G (g : Grf) (cs : List Chg) : Grf := (l6R g cs).getD g
def l6C (g : Grf) (cs : List Chg) : Bool := (l6R g cs).isSome
theorem l6_some {g x : Grf} {cs : List Chg} (h : runC g (cs.take 7) = some x) : l6G g cs = x ∧ l6C g cs = true := by
  unfold l6G l6C l6R; rw [h]; exact ⟨rfl, rfl⟩
theorem l6_none {g : Grf} {cs : List Chg} (h : runC g (cs.take 7) = none) : l6G g cs = g ∧ l6C g cs = false := by
  unfold l6G l6C l6R; rw [h]; exact ⟨rfl, rfl⟩
theorem stepC_size {g x : Grf} {c : Chg} (h : stepC g c = some x) : x.vs.length ≤ 1048577 ∧ x.es.length ≤ 1048577 := by
  obtain ⟨⟨_, a, b⟩, _⟩ := (validB_iff x).1 (stepC_valid h)
  omega
theorem runC_size2 {g x : Grf} {cs : List Chg} (h1 : g.vs.length ≤ 1048577) (h2 : g.es.length ≤ 1048577) (h : runC g cs = some x) : x.vs.length ≤ 1048577 ∧ x.es.length ≤ 1048577 := by
  induction cs generalizing g with
  | nil => injection h with h; subst h; exact ⟨h1, h2⟩
  | cons c cs ih =>
    unfold runC at h
    cases h3 : stepC g c with
    | none => rw [h3] at h; cases h
    | some z => rw [h3] at h; exact ih (stepC_size h3).1 (stepC_size h3).2 h
theorem since_mid {a b c : World} (h : Since a b) (k : Since b c) : a.heap.size ≤ b.heap.size ∧ Since a c := ⟨h.size, h.trans k⟩
theorem grf_cells {w : World} {a : Value} {bo : Option Addr} {bc m : Nat} {g : Grf} (h : GrfAt w (.agg #[a, .slice bo m bc]) g) (j : Nat) (hj : j < g.es.length) :
    ∃ b off, bo = some ⟨b, off, none⟩ ∧ b < w.heap.size ∧ w.cell? ⟨b, off + j * 4, none⟩ = some (.int .i64 g.es[j].id) ∧ w.cell? ⟨b, off + j * 4 + 1, none⟩ = some (.int .i64 g.es[j].fr) ∧ w.cell? ⟨b, off + j * 4 + 2, none⟩ = some (.int .i64 g.es[j].to) ∧ w.cell? ⟨b, off + j * 4 + 3, none⟩ = some (.int .i64 g.es[j].lb) := by
  obtain ⟨a', b', e, _, hb⟩ := h
  obtain ⟨ao, cap, rfl, HE⟩ := hb.row
  injection e with e; injection e with e; injection e with _ e; injection e with e; injection e with e1 e2 e3
  subst e1
  exact HE.out j hj
theorem OwnG.far2S {lo hi B : Nat} {w : World} {v : Value} {g : Grf} (h : OwnG lo hi w v g) (hB : B < lo ∨ hi ≤ B) {i j : Nat} {u u' : Value} : OwnG lo hi ((w.setCell ⟨B, i, none⟩ u).setCell ⟨B, j, none⟩ u') v g := by
  have k : ∀ (w0 : World) (i : Nat) (u : Value), Within B (B + 1) w0 (w0.setCell ⟨B, i, none⟩ u) := fun w0 i u => Within.cell w0 ⟨B, i, none⟩ u
  exact (h.within (k _ i u) (by omega)).within (k _ j u') (by omega)
theorem gb_stored2S {w w1 : World} {lo hi B : Nat} {v : Value} {R : Grf} {C : Bool} (hO : OwnG lo hi w1 v R) (hB : B < lo ∨ hi ≤ B) (hlo : w.heap.size ≤ lo) (hhi : hi ≤ w1.heap.size) (hB2 : w.heap.size ≤ B) (hs : Since w w1) (u0 u1 : Value) :
    GBOut w R C (.returned (.tuple #[v, .bool C])) ((w1.setCell ⟨B, 0, none⟩ u0).setCell ⟨B, 1, none⟩ u1) :=
  ⟨v, rfl, ((hO.far2S hB).wider hlo (by simpa using hhi)), (hs.setCell (a := ⟨B, 0, none⟩) hB2 u0).setCell (a := ⟨B, 1, none⟩) hB2 u1⟩
theorem gb_storedS {w w1 : World} {lo hi B : Nat} {v : Value} {R : Grf} {C : Bool} (hO : OwnG lo hi w1 v R) (hB : B < lo) (hlo : w.heap.size ≤ lo) (hhi : hi ≤ w1.heap.size) (hB2 : w.heap.size ≤ B) (hs : Since w w1) (u0 u1 : Value) :
    GBOut w R C (.returned (.tuple #[v, .bool C])) ((w1.setCell ⟨B, 0, none⟩ u0).setCell ⟨B, 1, none⟩ u1) := gb_stored2S hO (.inl hB) hlo hhi hB2 hs u0 u1
set_option maxHeartbeats 4000000 in
set_option maxRecDepth 100000 in
theorem l6Apply_any (v u : Value) (g : Grf) (cs : List Chg) (w : World) (h : GrfAt w v g) (hu : BchAt w u cs) (h1 : g.vs.length ≤ 1048577) (h2 : g.es.length ≤ 1048577) (h3 : cs.length ≤ 1048577) :
    Calls Try.prog 65 #[v, u] w (GBOut w (l6G g cs) (l6C g cs)) := by
  have HG := Lib.hid h
  obtain ⟨a, b, rfl, ha, hb⟩ := h
  obtain ⟨ao, ac, rfl, _⟩ := ha.row
  obtain ⟨bo, bc, rfl⟩ := hb.len
  obtain ⟨s, rfl, hin, so, sc, rfl, HS⟩ := hu
  have HXI := Lib.hid hin
  clear ha hb hin
  obtain ⟨n, hn⟩ : ∃ n, n = cs.length := ⟨_, rfl⟩
  have hn9 : n ≤ 1048577 := by omega
  have HN := Lib.hid hn
  rw [← hn]
  obtain ⟨y, hy⟩ : ∃ y, y = ((w.alloc (.cells #[.slice ao g.vs.length ac, .slice bo g.es.length bc] 39)).alloc (.cells #[.slice so n sc] 29)).alloc (.cells #[.slice none 0 0, .slice none 0 0] 39) := ⟨_, rfl⟩
  have hs0 : Since w y := by rw [hy]; exact (((Since.refl w).alloc _).alloc _).alloc _
  have hz : w.heap.size + 1 + 1 + 1 = y.heap.size := by rw [hy]; simp
  have BG : Hid (Blk y w.heap.size 39 #[.slice ao g.vs.length ac, .slice bo g.es.length bc]) := by rw [hy]; exact ((Blk.new rfl _ _).alloc _).alloc _
  have BB : Hid (Blk y (w.heap.size + 1) 29 #[.slice so n sc]) := by rw [hy]; exact (Blk.new (by simp) _ _).alloc _
  have BR : Hid (Blk y (w.heap.size + 1 + 1) 39 #[.slice none 0 0, .slice none 0 0]) := by rw [hy]; exact Blk.new (by simp) _ _
  have hge := guard_edge
  clear hn
  go_enter Try.func65, Try.ntmps65
  go_wp2_with fail
  rw [← hy]
  clear hy
  refine (l3Copy_any _ g _ (HG.out.since hs0) h1 h2).mono ?_
  rintro en w1 ⟨v1, rfl, ho1, hs1⟩
  have GO := Lib.hid ho1
  obtain ⟨ga, gb, rfl, ka, _, kb, _⟩ := ho1
  obtain ⟨gao, gac, rfl⟩ := ka.len
  obtain ⟨gbo, gbc, rfl⟩ := kb.len
  clear ka kb
  have hz1 := hs1.size
  obtain ⟨y1, hy1⟩ : ∃ y1, y1 = w1.alloc (.cells #[.slice gao g.vs.length gac, .slice gbo g.es.length gbc] 39) := ⟨_, rfl⟩
  have hs1y : Since w1 y1 := by rw [hy1]; exact (Since.refl w1).alloc _
  have hzb : w1.heap.size + 1 = y1.heap.size := by rw [hy1]; simp
  have BX1 : Hid (Blk y1 w1.heap.size 39 #[.slice gao g.vs.length gac, .slice gbo g.es.length gbc]) := by rw [hy1]; exact Blk.new rfl _ _
  have GO1 := Lib.hid (GO.out.since hs1y)
  have hcy := hs1.trans hs1y
  have BG1 := Lib.hid (BG.out.since hcy)
  have BB1 := Lib.hid (BB.out.since hcy)
  have BR1 := Lib.hid (BR.out.since hcy)
  have hs01 := hs0.trans hcy
  clear GO hs1 hs1y BG BB BR hcy hs0
  go_wp2_with fail
  rw [← hy1]
  clear hy1
  go_loopw [7] (fun i wr => ∃ k : Nat, k ≤ n ∧ k ≤ 7 ∧ i = .int .i64 k ∧ Hid (∃ x xao xac xbo xbc lo hi, runC g ((cs.take 7).take k) = some x ∧ Blk wr w1.heap.size 39 #[.slice xao x.vs.length xac, .slice xbo x.es.length xbc] ∧ OwnG lo hi wr (.agg #[.slice xao x.vs.length xac, .slice xbo x.es.length xbc]) x ∧ y.heap.size ≤ lo ∧ hi ≤ wr.heap.size ∧ (w1.heap.size < lo ∨ hi ≤ w1.heap.size)) ∧ Hid (Blk wr w.heap.size 39 #[.slice ao g.vs.length ac, .slice bo g.es.length bc]) ∧ Hid (Blk wr (w.heap.size + 1 + 1) 39 #[.slice none 0 0, .slice none 0 0]) ∧ Hid (Blk wr (w.heap.size + 1) 29 #[.slice so n sc]) ∧ Since w wr ∧ w1.heap.size + 1 ≤ wr.heap.size) (fun i _ => n - (intOf i).toNat)
  case atStart => exact ⟨0, Nat.zero_le _, by omega, rfl, ⟨g, gao, gac, gbo, gbc, y.heap.size, w1.heap.size, rfl, BX1.out, GO1.out, Nat.le_refl _, by omega, .inr (Nat.le_refl _)⟩, BG1.out, BR1.out, BB1.out, hs01, by omega⟩
  case round =>
    obtain ⟨k, hk, hk7, rfl, HX, HBG, HBR, HBB, hsw, hzr⟩ := hrel
    obtain ⟨x, xao, xac, xbo, xbc, lo, hi, hrun, hbx, hox, hlo, hhi, hdj⟩ := HX.out
    have BXr := Lib.hid hbx
    have OXr := Lib.hid hox
    have HRUN := Lib.hid hrun
    have hdj2 : (w.heap.size + 1 + 1 < lo ∨ hi ≤ w.heap.size + 1 + 1) := .inl (by omega)
    obtain ⟨x1, x2⟩ := runC_size2 h1 h2 hrun
    clear HX hbx hox hrun
    by_cases hlt : k < n
    · by_cases hk6 : k ≤ 6
      · have hxc : k < cs.length := by have := HN.out; omega
        have hx7 : k < (cs.take 7).length := by rw [List.length_take]; omega
        obtain ⟨be, oe, rfl, hbe, d0, d1, d2, d3, d4⟩ := HS.out k hxc
        have s1 := since_cells hsw hbe
        rw [← s1] at d0 d1 d2 d3 d4
        clear s1
        have HCI : Hid (cs[k].ed.In) := HXI.out cs[k] (List.getElem_mem hxc)
        have HSTEP := Lib.hid (runC_step hx7 HRUN.out)
        have HSTOP := Lib.hid (fun hn => runC_stop hx7 HRUN.out hn)
        have e7 : (cs.take 7)[k] = cs[k] := List.getElem_take
        rw [e7] at HSTEP HSTOP
        clear e7
        have kk0 : (0 : Int) ≤ (k : Int) := by omega
        have kk1 : (k : Int) < (n : Int) := by omega
        have kk6 : (k : Int) ≤ 6 := by omega
        obtain ⟨c, hc⟩ : ∃ c, c = cs[k] := ⟨_, rfl⟩
        rw [← hc] at d0 d1 d2 d3 d4 HCI HSTEP HSTOP
        clear hc
        obtain ⟨ci, e⟩ := c
        dsimp only at d0 d1 d2 d3 d4 HCI
        obtain ⟨b0, _⟩ := HBB.out.one
        obtain ⟨y5, hy5⟩ : ∃ y5, y5 = wr.alloc (.cells #[.int .i64 e.id, .int .i64 e.fr, .int .i64 (Edg.to e), .int .i64 e.lb] 93) := ⟨_, rfl⟩
        have hs5 : Since wr y5 := by rw [hy5]; exact (Since.refl wr).alloc _
        have hz5 : wr.heap.size + 1 = y5.heap.size := by rw [hy5]; simp
        have BE : Hid (Blk y5 wr.heap.size 93 #[.int .i64 e.id, .int .i64 e.fr, .int .i64 (Edg.to e), .int .i64 e.lb]) := by rw [hy5]; exact Blk.new rfl _ _
        have pBX := Lib.hid (BXr.out.since hs5)
        have OX := Lib.hid (OXr.out.since hs5)
        have pBG := Lib.hid (HBG.out.since hs5)
        have pBR := Lib.hid (HBR.out.since hs5)
        have pBB := Lib.hid (HBB.out.since hs5)
        have phs := hsw.trans hs5
        obtain ⟨f0, _⟩ := pBB.out.one
        have s5 := since_cells phs hbe
        have s6 := since_cells hsw hbe
        have g0 := (s5 (oe + k * 5)).trans ((s6 (oe + k * 5)).symm.trans d0)
        obtain ⟨m0, m1, m2, m3, _⟩ := BE.out.four
        obtain ⟨q0, q1, _, _⟩ := pBX.out.two
        rw [hy5] at f0 g0 m0 m1 m2 m3 q0 q1
        clear s5 s6
        cases ci with
        | true =>
          have HI := Lib.hid (fun V W (k1 : GrfAt W V x) (k2 : CapE V) => specIE_any V x e W k1 k2 x1 x2 HCI.out)
          have HAPS : Hid (stepC x ⟨true, e⟩ = if canIns x e = true then some (insG x e) else none) := by unfold Hid stepC; simp only [if_pos]
          generalize insG x e = R at HI HAPS
          generalize canIns x e = C at HI HAPS
          unfold ev at HI
          go_wp2_with fail
          rw [← hy5]
          clear hy5 d0 d1 d2 d3 d4 b0 f0 g0 m0 m1 m2 m3 q0 q1 BXr OXr HBG HBR
          refine (HI.out _ _ (OX.out.at) (OX.out.cap)).mono ?_
          rintro en wA ⟨vA, rfl, hoA, hsA0⟩
          obtain ⟨zq, hsA⟩ := since_mid (Since.refl _) hsA0
          have RO := Lib.hid hoA
          obtain ⟨ra, rb, rfl, ka, _, kb, _⟩ := hoA
          obtain ⟨rao, rac, rfl⟩ := ka.len
          obtain ⟨rbo, rbc, rfl⟩ := kb.len
          clear ka kb
          have zA := hsA.size
          obtain ⟨yA, hyA⟩ : ∃ y, y = wA.alloc (.cells #[.slice rao R.vs.length rac, .slice rbo R.es.length rbc] 39) := ⟨_, rfl⟩
          have hsAy : Since wA yA := by rw [hyA]; exact (Since.refl wA).alloc _
          have zAy : wA.heap.size + 1 = yA.heap.size := by rw [hyA]; simp
          have RK : Hid (Blk yA wA.heap.size 39 #[.slice rao R.vs.length rac, .slice rbo R.es.length rbc]) := by rw [hyA]; exact Blk.new rfl _ _
          have ROA := Lib.hid (RO.out.since hsAy)
          have hsAA := hsA.trans hsAy
          have BGA := Lib.hid (pBG.out.since hsAA)
          have BRA := Lib.hid (pBR.out.since hsAA)
          have BXA := Lib.hid (pBX.out.since hsAA)
          have hs0A := phs.trans hsAA
          have hsAB := hsAA
          clear RO hsA hsAy hsAA
          cases C with
          | false =>
            obtain ⟨g0, g1, _, _⟩ := BGA.out.two
            rw [hyA] at g0 g1
            have HA := Lib.hid (l6_none (HSTOP.out (by rw [HAPS.out]; rfl)))
            go_wp2_with fail
            rw [← hyA]
            clear g0 g1 hyA HAPS HSTEP HSTOP
            refine (l3Copy_any _ g _ (HG.out.since hs0A) h1 h2).mono ?_
            rintro en w9 ⟨v9, rfl, ho9, hs9⟩
            have GO9 := Lib.hid ho9
            obtain ⟨ha, hb, rfl, ka, _, kb, _⟩ := ho9
            obtain ⟨hao, hac, rfl⟩ := ka.len
            obtain ⟨hbo, hbc, rfl⟩ := kb.len
            clear ka kb
            have hs09 := hs0A.trans hs9
            have hz9 := hs0A.size
            obtain ⟨t0, t1, t2, t3⟩ := (BRA.out.since hs9).two
            go_wp2_with fail
            refine bodyPost_ret (v := .tuple #[.agg #[.slice hao g.vs.length hac, .slice hbo g.es.length hbc], .bool false]) (by simp [results, Try.results65, go_sem, *]) rfl ?_
            rw [HA.out.1, HA.out.2]
            exact gb_storedS GO9.out (by omega) (by omega) (Nat.le_refl _) (by omega) hs09 _ _
          | true =>
            have HNX : Hid (runC g ((cs.take 7).take (k + 1)) = some R) := by
              unfold Hid; rw [HSTEP.out, HAPS.out]; rfl
            clear HAPS HSTEP HSTOP
            obtain ⟨g0, g1, _, _⟩ := RK.out.two
            obtain ⟨t0, t1, t2, t3⟩ := BXA.out.two
            rw [hyA] at g0 g1 t0 t1 t2 t3
            have ROz := Lib.hid (ROA.out.far2S (B := w1.heap.size) (i := 0) (j := 1) (u := (.slice rao R.vs.length rac)) (u' := (.slice rbo R.es.length rbc)) (by omega))
            have BXz := Lib.hid ((BXA.out.set 0 (.slice rao R.vs.length rac)).set 1 (.slice rbo R.es.length rbc))
            have BGz := Lib.hid ((BGA.out.far (p := ⟨w1.heap.size, 0, none⟩) (by simp; omega) (.slice rao R.vs.length rac)).far (p := ⟨w1.heap.size, 1, none⟩) (by simp; omega) (.slice rbo R.es.length rbc))
            have BRz := Lib.hid ((BRA.out.far (p := ⟨w1.heap.size, 0, none⟩) (by simp; omega) (.slice rao R.vs.length rac)).far (p := ⟨w1.heap.size, 1, none⟩) (by simp; omega) (.slice rbo R.es.length rbc))
            have BBz := Lib.hid (((pBB.out.since hsAB).far (p := ⟨w1.heap.size, 0, none⟩) (by simp; omega) (.slice rao R.vs.length rac)).far (p := ⟨w1.heap.size, 1, none⟩) (by simp; omega) (.slice rbo R.es.length rbc))
            have hsz := (hs0A.setCell (a := ⟨w1.heap.size, 0, none⟩) (by simp; omega) (.slice rao R.vs.length rac)).setCell (a := ⟨w1.heap.size, 1, none⟩) (by simp; omega) (.slice rbo R.es.length rbc)
            have hzz : ((yA.setCell ⟨w1.heap.size, 0, none⟩ (.slice rao R.vs.length rac)).setCell ⟨w1.heap.size, 1, none⟩ (.slice rbo R.es.length rbc)).heap.size = yA.heap.size := by simp
            have HREL : Hid (∃ x xao xac xbo xbc lo hi, runC g ((cs.take 7).take (k + 1)) = some x ∧ Blk ((yA.setCell ⟨w1.heap.size, 0, none⟩ (.slice rao R.vs.length rac)).setCell ⟨w1.heap.size, 1, none⟩ (.slice rbo R.es.length rbc)) w1.heap.size 39 #[.slice xao x.vs.length xac, .slice xbo x.es.length xbc] ∧ OwnG lo hi ((yA.setCell ⟨w1.heap.size, 0, none⟩ (.slice rao R.vs.length rac)).setCell ⟨w1.heap.size, 1, none⟩ (.slice rbo R.es.length rbc)) (.agg #[.slice xao x.vs.length xac, .slice xbo x.es.length xbc]) x ∧ y.heap.size ≤ lo ∧ hi ≤ ((yA.setCell ⟨w1.heap.size, 0, none⟩ (.slice rao R.vs.length rac)).setCell ⟨w1.heap.size, 1, none⟩ (.slice rbo R.es.length rbc)).heap.size ∧ (w1.heap.size < lo ∨ hi ≤ w1.heap.size)) :=
              ⟨R, rao, rac, rbo, rbc, _, _, HNX.out, BXz.out, ROz.out, by omega, by rw [hzz]; omega, .inl (by omega)⟩
            have hzq : w1.heap.size + 1 ≤ ((yA.setCell ⟨w1.heap.size, 0, none⟩ (.slice rao R.vs.length rac)).setCell ⟨w1.heap.size, 1, none⟩ (.slice rbo R.es.length rbc)).heap.size := by rw [hzz]; omega
            clear hzz
            rw [hyA] at HREL BGz BRz BBz hsz hzq
            clear hyA
            go_wp2
            go_roundw
            case rel => exact ⟨k + 1, by omega, by omega, by go_num, HREL, BGz.out, BRz.out, BBz.out, hsz, hzq⟩
            case measure => simp [intOf]; omega
        | false =>
          have HIX := Lib.hid (fun V W (k1 : GrfAt W V x) => specEI_any V x e.id W k1 x2)
          go_wp2_with fail
          rw [← hy5]
          clear hy5 d0 d1 d2 d3 d4 b0 f0 g0 m0 m1 m2 m3 q0 q1 BXr OXr HBG HBR
          refine (HIX.out _ _ OX.out.at).mono ?_
          rintro en w6 ⟨rfl, hs6⟩
          obtain ⟨m0, m1, m2, m3, _⟩ := (BE.out.since hs6).four
          obtain ⟨q0, q1, _, _⟩ := (pBX.out.since hs6).two
          obtain ⟨r0, r1, _, _⟩ := (pBG.out.since hs6).two
          rcases idxE_cases x.es e.id with ⟨j, hj, hji, hjid, _⟩ | ⟨hji, _⟩
          · rw [hji]
            obtain ⟨xb, xo, rfl, hxb, c0, c1, c2, c3⟩ := grf_cells (OX.out.since hs6).at j hj
            have jj0 : decide ((j : Int) < 0) = false := by simp
            have jj1 : (0 : Int) ≤ (j : Int) := by omega
            have jj2 : (j : Int) < (x.es.length : Int) := by omega
            by_cases heq : x.es[j] = e
            · have hnq : ∀ W : World, (binOp .neq 93 (ev x.es[j]) (ev e)).run Try.prog W = .ok (.bool false) W := fun W => by rw [neq_edge, decide_eq_true heq]; rfl
              unfold ev at hnq
              have HI := Lib.hid (fun V W (k1 : GrfAt W V x) (k2 : CapE V) => specDE_any V x e.id W k1 k2 x1 x2)
              have HAPS : Hid (stepC x ⟨false, e⟩ = if canDel x e.id = true then some (delG x e.id) else none) := by
                have hh : hasE x e = true := by unfold hasE; rw [hji]; simp [heq, hj]
                unfold Hid stepC; simp [hh]
              generalize delG x e.id = R at HI HAPS
              generalize canDel x e.id = C at HI HAPS
              clear heq hji hjid
              generalize x.es[j] = ej at c0 c1 c2 c3 hnq
              go_wp2_with fail
              go_quiet (fail)
              go_wp2_with fail
              clear c0 c1 c2 c3 m0 m1 m2 m3 q0 q1 r0 r1
              refine (HI.out _ _ ((OX.out.since (hs6.drewN _)).at) (OX.out.cap)).mono ?_
              rintro en wA ⟨vA, rfl, hoA, hsA0⟩
              obtain ⟨zq, hsA⟩ := since_mid (hs6.drewN _) hsA0
              have RO := Lib.hid hoA
              obtain ⟨ra, rb, rfl, ka, _, kb, _⟩ := hoA
              obtain ⟨rao, rac, rfl⟩ := ka.len
              obtain ⟨rbo, rbc, rfl⟩ := kb.len
              clear ka kb
              have zA := hsA.size
              obtain ⟨yA, hyA⟩ : ∃ y, y = wA.alloc (.cells #[.slice rao R.vs.length rac, .slice rbo R.es.length rbc] 39) := ⟨_, rfl⟩
              have hsAy : Since wA yA := by rw [hyA]; exact (Since.refl wA).alloc _
              have zAy : wA.heap.size + 1 = yA.heap.size := by rw [hyA]; simp
              have RK : Hid (Blk yA wA.heap.size 39 #[.slice rao R.vs.length rac, .slice rbo R.es.length rbc]) := by rw [hyA]; exact Blk.new rfl _ _
              have ROA := Lib.hid (RO.out.since hsAy)
              have hsAA := hsA.trans hsAy
              have BGA := Lib.hid (pBG.out.since hsAA)
              have BRA := Lib.hid (pBR.out.since hsAA)
              have BXA := Lib.hid (pBX.out.since hsAA)
              have hs0A := phs.trans hsAA
              have hsAB := hsAA
              clear RO hsA hsAy hsAA
              cases C with
              | false =>
                obtain ⟨g0, g1, _, _⟩ := BGA.out.two
                rw [hyA] at g0 g1
                have HA := Lib.hid (l6_none (HSTOP.out (by rw [HAPS.out]; rfl)))
                go_wp2_with fail
                rw [← hyA]
                clear g0 g1 hyA HAPS HSTEP HSTOP
                refine (l3Copy_any _ g _ (HG.out.since hs0A) h1 h2).mono ?_
                rintro en w9 ⟨v9, rfl, ho9, hs9⟩
                have GO9 := Lib.hid ho9
                obtain ⟨ha, hb, rfl, ka, _, kb, _⟩ := ho9
                obtain ⟨hao, hac, rfl⟩ := ka.len
                obtain ⟨hbo, hbc, rfl⟩ := kb.len
                clear ka kb
                have hs09 := hs0A.trans hs9
                have hz9 := hs0A.size
                obtain ⟨t0, t1, t2, t3⟩ := (BRA.out.since hs9).two
                go_wp2_with fail
                refine bodyPost_ret (v := .tuple #[.agg #[.slice hao g.vs.length hac, .slice hbo g.es.length hbc], .bool false]) (by simp [results, Try.results65, go_sem, *]) rfl ?_
                rw [HA.out.1, HA.out.2]
                exact gb_storedS GO9.out (by omega) (by omega) (Nat.le_refl _) (by omega) hs09 _ _
              | true =>
                have HNX : Hid (runC g ((cs.take 7).take (k + 1)) = some R) := by
                  unfold Hid; rw [HSTEP.out, HAPS.out]; rfl
                clear HAPS HSTEP HSTOP
                obtain ⟨g0, g1, _, _⟩ := RK.out.two
                obtain ⟨t0, t1, t2, t3⟩ := BXA.out.two
                rw [hyA] at g0 g1 t0 t1 t2 t3
                have ROz := Lib.hid (ROA.out.far2S (B := w1.heap.size) (i := 0) (j := 1) (u := (.slice rao R.vs.length rac)) (u' := (.slice rbo R.es.length rbc)) (by omega))
                have BXz := Lib.hid ((BXA.out.set 0 (.slice rao R.vs.length rac)).set 1 (.slice rbo R.es.length rbc))
                have BGz := Lib.hid ((BGA.out.far (p := ⟨w1.heap.size, 0, none⟩) (by simp; omega) (.slice rao R.vs.length rac)).far (p := ⟨w1.heap.size, 1, none⟩) (by simp; omega) (.slice rbo R.es.length rbc))
                have BRz := Lib.hid ((BRA.out.far (p := ⟨w1.heap.size, 0, none⟩) (by simp; omega) (.slice rao R.vs.length rac)).far (p := ⟨w1.heap.size, 1, none⟩) (by simp; omega) (.slice rbo R.es.length rbc))
                have BBz := Lib.hid (((pBB.out.since hsAB).far (p := ⟨w1.heap.size, 0, none⟩) (by simp; omega) (.slice rao R.vs.length rac)).far (p := ⟨w1.heap.size, 1, none⟩) (by simp; omega) (.slice rbo R.es.length rbc))
                have hsz := (hs0A.setCell (a := ⟨w1.heap.size, 0, none⟩) (by simp; omega) (.slice rao R.vs.length rac)).setCell (a := ⟨w1.heap.size, 1, none⟩) (by simp; omega) (.slice rbo R.es.length rbc)
                have hzz : ((yA.setCell ⟨w1.heap.size, 0, none⟩ (.slice rao R.vs.length rac)).setCell ⟨w1.heap.size, 1, none⟩ (.slice rbo R.es.length rbc)).heap.size = yA.heap.size := by simp
                have HREL : Hid (∃ x xao xac xbo xbc lo hi, runC g ((cs.take 7).take (k + 1)) = some x ∧ Blk ((yA.setCell ⟨w1.heap.size, 0, none⟩ (.slice rao R.vs.length rac)).setCell ⟨w1.heap.size, 1, none⟩ (.slice rbo R.es.length rbc)) w1.heap.size 39 #[.slice xao x.vs.length xac, .slice xbo x.es.length xbc] ∧ OwnG lo hi ((yA.setCell ⟨w1.heap.size, 0, none⟩ (.slice rao R.vs.length rac)).setCell ⟨w1.heap.size, 1, none⟩ (.slice rbo R.es.length rbc)) (.agg #[.slice xao x.vs.length xac, .slice xbo x.es.length xbc]) x ∧ y.heap.size ≤ lo ∧ hi ≤ ((yA.setCell ⟨w1.heap.size, 0, none⟩ (.slice rao R.vs.length rac)).setCell ⟨w1.heap.size, 1, none⟩ (.slice rbo R.es.length rbc)).heap.size ∧ (w1.heap.size < lo ∨ hi ≤ w1.heap.size)) :=
                  ⟨R, rao, rac, rbo, rbc, _, _, HNX.out, BXz.out, ROz.out, by omega, by rw [hzz]; omega, .inl (by omega)⟩
                have hzq : w1.heap.size + 1 ≤ ((yA.setCell ⟨w1.heap.size, 0, none⟩ (.slice rao R.vs.length rac)).setCell ⟨w1.heap.size, 1, none⟩ (.slice rbo R.es.length rbc)).heap.size := by rw [hzz]; omega
                clear hzz
                rw [hyA] at HREL BGz BRz BBz hsz hzq
                clear hyA
                go_wp2
                go_roundw
                case rel => exact ⟨k + 1, by omega, by omega, by go_num, HREL, BGz.out, BRz.out, BBz.out, hsz, hzq⟩
                case measure => simp [intOf]; omega
            · have hnq : ∀ W : World, (binOp .neq 93 (ev x.es[j]) (ev e)).run Try.prog W = .ok (.bool true) W := fun W => by rw [neq_edge, decide_eq_false heq]; rfl
              unfold ev at hnq
              have HA := Lib.hid (l6_none (HSTOP.out (stepC_nodel rfl (.inl (by unfold hasE; rw [hji]; simp [heq, hj])))))
              clear heq hji hjid HSTEP HSTOP
              generalize x.es[j] = ej at c0 c1 c2 c3 hnq
              go_wp2_with fail
              go_quiet (fail)
              go_wp2_with fail
              refine (l3Copy_any _ g _ (HG.out.since (phs.trans (hs6.drewN _))) h1 h2).mono ?_
              rintro en w9 ⟨v9, rfl, ho9, hs90⟩
              obtain ⟨zq9, hs9⟩ := since_mid (hs6.drewN _) hs90
              have GO9 := Lib.hid ho9
              obtain ⟨ha, hb, rfl, ka, _, kb, _⟩ := ho9
              obtain ⟨hao, hac, rfl⟩ := ka.len
              obtain ⟨hbo, hbc, rfl⟩ := kb.len
              clear ka kb
              have hs09 := phs.trans hs9
              obtain ⟨t0, t1, t2, t3⟩ := (pBR.out.since hs9).two
              have hz0w := phs.size
              go_wp2_with fail
              refine bodyPost_ret (v := .tuple #[.agg #[.slice hao g.vs.length hac, .slice hbo g.es.length hbc], .bool false]) (by simp [results, Try.results65, go_sem, *]) rfl ?_
              rw [HA.out.1, HA.out.2]
              exact gb_storedS GO9.out (by omega) (by omega) (Nat.le_refl _) (by omega) hs09 _ _
          · rw [hji]
            have HA := Lib.hid (l6_none (HSTOP.out (stepC_nodel rfl (.inl (by unfold hasE; rw [hji]; simp)))))
            have jj0 : decide ((-1 : Int) < 0) = true := by decide
            clear hji HSTEP HSTOP
            go_wp2_with fail
            go_quiet (fail)
            go_wp2_with fail
            refine (l3Copy_any _ g _ (HG.out.since (phs.trans (hs6.drewN _))) h1 h2).mono ?_
            rintro en w9 ⟨v9, rfl, ho9, hs90⟩
            obtain ⟨zq9, hs9⟩ := since_mid (hs6.drewN _) hs90
            have GO9 := Lib.hid ho9
            obtain ⟨ha, hb, rfl, ka, _, kb, _⟩ := ho9
            obtain ⟨hao, hac, rfl⟩ := ka.len
            obtain ⟨hbo, hbc, rfl⟩ := kb.len
            clear ka kb
            have hs09 := phs.trans hs9
            obtain ⟨t0, t1, t2, t3⟩ := (pBR.out.since hs9).two
            have hz0w := phs.size
            go_wp2_with fail
            refine bodyPost_ret (v := .tuple #[.agg #[.slice hao g.vs.length hac, .slice hbo g.es.length hbc], .bool false]) (by simp [results, Try.results65, go_sem, *]) rfl ?_
            rw [HA.out.1, HA.out.2]
            exact gb_storedS GO9.out (by omega) (by omega) (Nat.le_refl _) (by omega) hs09 _ _
      · obtain rfl : k = 7 := by omega
        have kk1 : ((7 : Nat) : Int) < (n : Int) := by omega
        obtain ⟨b0, _⟩ := HBB.out.one
        have HA := Lib.hid (l6_some (x := x) (by have := HRUN.out; rw [List.take_of_length_le (by rw [List.length_take]; have := HN.out; omega)] at this; exact this))
        obtain ⟨q0, q1, _, _⟩ := BXr.out.two
        obtain ⟨t0, t1, t2, t3⟩ := HBR.out.two
        go_wp2_with fail
        refine bodyPost_ret (v := .tuple #[.agg #[.slice xao x.vs.length xac, .slice xbo x.es.length xbc], .bool true]) (by simp [results, Try.results65, go_sem, *]) rfl ?_
        rw [HA.out.1, HA.out.2]
        exact gb_stored2S OXr.out hdj2 (by omega) hhi (by omega) hsw _ _
    · obtain rfl : k = n := by omega
      obtain ⟨b0, _⟩ := HBB.out.one
      have HA := Lib.hid (l6_some (x := x) (by have := HRUN.out; rw [List.take_of_length_le (by rw [List.length_take]; have := HN.out; omega)] at this; exact this))
      obtain ⟨q0, q1, _, _⟩ := BXr.out.two
      obtain ⟨t0, t1, t2, t3⟩ := HBR.out.two
      go_wp2_with fail
      refine bodyPost_ret (v := .tuple #[.agg #[.slice xao x.vs.length xac, .slice xbo x.es.length xbc], .bool true]) (by simp [results, Try.results65, go_sem, *]) rfl ?_
      rw [HA.out.1, HA.out.2]
      exact gb_stored2S OXr.out hdj2 (by omega) hhi (by omega) hsw _ _
end Go.Proofs.Ytgdeiecbkmhbeaa
