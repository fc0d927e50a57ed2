/- The program's kinds of changes: what each makes of a graph. -/
import Derived.Test.YtgdeiecbkmhbeaaCtn
import Derived.Test.YtgdeiecbkmhbeaaBchM
import Derived.Test.YtgdeiecbkmhbeaaIeI
import Derived.Test.YtgdeiecbkmhbeaaDeI
namespace Go.Proofs.Ytgdeiecbkmhbeaa
set_option maxRecDepth 100000
open Go.ChangeShapes Go.WideShapes Go.ChangeAt Go.RowKit
set_option linter.unusedVariables false
set_option linter.unusedSimpArgs false

def apT (g : Grf) (c : Chg) : Grf := if c.ins = true then insG g c.ed else if c.ed ∈ g.es then delG g c.ed.id else g
def apC (g : Grf) (c : Chg) : Bool := if c.ins = true then canIns g c.ed else (decide (c.ed ∈ g.es) && canDel g c.ed.id)
theorem stepC_ap {g : Grf} (hv : validB g = true) (c : Chg) : stepC g c = if apC g c = true then some (apT g c) else none := by
  unfold stepC apC apT
  by_cases h : c.ins = true
  · simp only [if_pos h]
  · simp only [if_neg h]
    by_cases h2 : c.ed ∈ g.es
    · have h3 : hasE g c.ed = true := by rw [hasE_iff hv, decide_eq_true h2]
      rw [h3, if_pos h2, decide_eq_true h2, Bool.true_and]
      simp
    · have h3 : hasE g c.ed = false := by rw [hasE_iff hv, decide_eq_false h2]
      rw [h3, if_neg h2, decide_eq_false h2, Bool.false_and]
      simp
/-- A graph that a call gave, stored into the cells of a result. -/
theorem gb_stored {w w1 : World} {lo hi B : Nat} {v : Value} {R : Grf} {C : Bool} (hO : OwnG lo hi w1 v R) (hB : B < lo) (hlo : w.heap.size ≤ lo) (hhi : hi ≤ w1.heap.size) (hB2 : w.heap.size ≤ B) (hs : Since w w1) (u0 u1 : Value) :
    GBOut w R C (.returned (.tuple #[v, .bool C])) ((w1.setCell ⟨B, 0, none⟩ u0).setCell ⟨B, 1, none⟩ u1) :=
  ⟨v, rfl, (((hO.far (p := ⟨B, 0, none⟩) hB u0).far (p := ⟨B, 1, none⟩) hB u1).wider hlo (by simpa using hhi)), (hs.setCell (a := ⟨B, 0, none⟩) hB2 u0).setCell (a := ⟨B, 1, none⟩) hB2 u1⟩
set_option maxRecDepth 100000 in
theorem effect_any (c : Chg) (w : World) : Calls Try.prog 96 #[cv c] w fun en w' => en = .returned (.iface (if c.ins = true then 144 else 145) (ev c.ed)) ∧ Since w w' := by
  obtain ⟨ci, ⟨d0, d1, d2, d3⟩⟩ := c
  unfold cv ev
  dsimp only
  have hs0 : Since w (w.alloc (.cells #[.bool ci, .int .i64 d0, .int .i64 d1, .int .i64 d2, .int .i64 d3] 98)) := (Since.refl w).alloc _
  cases ci
  all_goals
    go_enter Try.func96, Try.ntmps96
    go_wp2
    go_ret
    exact ⟨rfl, hs0⟩
set_option maxHeartbeats 1000000 in
set_option maxRecDepth 100000 in
theorem insTo_any (v : Value) (g : Grf) (e : Edg) (w : World) (h : GrfAt w v g) (h1 : g.vs.length ≤ 1048577) (h2 : g.es.length ≤ 1048577) (hei : e.In) :
    Calls Try.prog 133 #[ev e, v] w (GBOut w (insG g e) (canIns g e)) := by
  have HG := Lib.hid h
  obtain ⟨a, b, rfl, ha, hb⟩ := h
  obtain ⟨ao, ac, rfl, _⟩ := ha.row
  obtain ⟨bo, bc, rfl⟩ := hb.len
  clear ha hb
  have HI := Lib.hid (fun V W (k : GrfAt W V g) => implIE_any V g e W k h1 h2 hei)
  generalize insG g e = R at HI ⊢
  generalize canIns g e = C at HI ⊢
  obtain ⟨y, hy⟩ : ∃ y, y = ((w.alloc (.cells #[.int .i64 e.id, .int .i64 e.fr, .int .i64 (Edg.to e), .int .i64 e.lb] 144)).alloc (.cells #[.slice ao g.vs.length ac, .slice bo g.es.length bc] 39)).alloc (.cells #[.slice none 0 0, .slice none 0 0] 39) := ⟨_, rfl⟩
  have hs0 : Since w y := by rw [hy]; exact (((Since.refl w).alloc _).alloc _).alloc _
  have hz : w.heap.size + 1 + 1 + 1 = y.heap.size := by rw [hy]; simp
  have BR : Hid (Blk y (w.heap.size + 1 + 1) 39 #[.slice none 0 0, .slice none 0 0]) := by rw [hy]; exact Blk.new (by simp) _ _
  unfold ev
  unfold ev at HI
  go_enter Try.func133, Try.ntmps133
  go_wp2_with fail
  rw [← hy]
  clear hy
  refine (HI.out _ _ (HG.out.since hs0)).mono ?_
  rintro en w1 ⟨v1, rfl, ho1, hs1⟩
  have GO := Lib.hid ho1
  obtain ⟨ga, gb, rfl, ka, _, kb, _⟩ := ho1
  obtain ⟨gao, gac, rfl⟩ := ka.len
  obtain ⟨gbo, gbc, rfl⟩ := kb.len
  clear ka kb
  have hs01 := hs0.trans hs1
  obtain ⟨r0, r1, r2, r3⟩ := (BR.out.since hs1).two
  go_wp2_with fail
  refine bodyPost_ret (v := .tuple #[.agg #[.slice gao R.vs.length gac, .slice gbo R.es.length gbc], .bool C]) (by simp [results, Try.results133, go_sem, *]) rfl ?_
  exact gb_stored GO.out (by omega) (by omega) (Nat.le_refl _) (by omega) hs01 _ _
set_option maxHeartbeats 1000000 in
set_option maxRecDepth 100000 in
theorem delTo_any (v : Value) (g : Grf) (e : Edg) (w : World) (h : GrfAt w v g) (h1 : g.vs.length ≤ 1048577) (h2 : g.es.length ≤ 1048577) :
    Calls Try.prog 146 #[ev e, v] w (GBOut w (if e ∈ g.es then delG g e.id else g) (decide (e ∈ g.es) && canDel g e.id)) := by
  have HG := Lib.hid h
  obtain ⟨a, b, rfl, ha, hb⟩ := h
  obtain ⟨ao, ac, rfl, _⟩ := ha.row
  have HB := Lib.hid hb
  obtain ⟨bo, bc, rfl⟩ := hb.len
  clear ha hb
  have HI := Lib.hid (fun V W (k : GrfAt W V g) => implDE_any V g e.id W k h1 h2)
  obtain ⟨y, hy⟩ : ∃ y, y = ((w.alloc (.cells #[.int .i64 e.id, .int .i64 e.fr, .int .i64 (Edg.to e), .int .i64 e.lb] 145)).alloc (.cells #[.slice ao g.vs.length ac, .slice bo g.es.length bc] 39)).alloc (.cells #[.slice none 0 0, .slice none 0 0] 39) := ⟨_, rfl⟩
  have hs0 : Since w y := by rw [hy]; exact (((Since.refl w).alloc _).alloc _).alloc _
  have hz : w.heap.size + 1 + 1 + 1 = y.heap.size := by rw [hy]; simp
  have BE : Hid (Blk y w.heap.size 145 #[.int .i64 e.id, .int .i64 e.fr, .int .i64 (Edg.to e), .int .i64 e.lb]) := by rw [hy]; exact ((Blk.new rfl _ _).alloc _).alloc _
  have BG : Hid (Blk y (w.heap.size + 1) 39 #[.slice ao g.vs.length ac, .slice bo g.es.length bc]) := by rw [hy]; exact (Blk.new (by simp) _ _).alloc _
  have BR : Hid (Blk y (w.heap.size + 1 + 1) 39 #[.slice none 0 0, .slice none 0 0]) := by rw [hy]; exact Blk.new (by simp) _ _
  by_cases hm : e ∈ g.es
  · have HD := Lib.hid (show decide (e ∈ g.es) = true from decide_eq_true hm)
    rw [if_pos hm, HD.out, Bool.true_and]
    clear hm
    generalize delG g e.id = R at HI ⊢
    generalize canDel g e.id = C at HI ⊢
    unfold ev
    go_enter Try.func146, Try.ntmps146
    go_wp2_with fail
    rw [← hy]
    clear hy
    refine (containsE_any _ g.es e _ (HB.out.since hs0) h2).mono ?_
    rintro en w1 ⟨rfl, hs1⟩
    rw [HD.out]
    have hs01 := hs0.trans hs1
    obtain ⟨p0, p1, p2, p3, _⟩ := (BE.out.since hs1).four
    obtain ⟨q0, q1, _, _⟩ := (BG.out.since hs1).two
    go_wp2_with fail
    clear p0 p1 p2 p3 q0 q1
    refine (HI.out _ _ (HG.out.since hs01)).mono ?_
    rintro en w2 ⟨v2, rfl, ho2, hs2⟩
    have GO := Lib.hid ho2
    obtain ⟨ga, gb, rfl, ka, _, kb, _⟩ := ho2
    obtain ⟨gao, gac, rfl⟩ := ka.len
    obtain ⟨gbo, gbc, rfl⟩ := kb.len
    clear ka kb
    have hs02 := hs01.trans hs2
    have hz1 := hs1.size
    obtain ⟨r0, r1, r2, r3⟩ := ((BR.out.since hs1).since hs2).two
    go_wp2_with fail
    refine bodyPost_ret (v := .tuple #[.agg #[.slice gao R.vs.length gac, .slice gbo R.es.length gbc], .bool C]) (by simp [results, Try.results146, go_sem, *]) rfl ?_
    exact gb_stored GO.out (by omega) (by omega) (Nat.le_refl _) (by omega) hs02 _ _
  · have HD := Lib.hid (show decide (e ∈ g.es) = false from decide_eq_false hm)
    rw [if_neg hm, HD.out, Bool.false_and]
    clear hm HI
    unfold ev
    go_enter Try.func146, Try.ntmps146
    go_wp2_with fail
    rw [← hy]
    clear hy
    refine (containsE_any _ g.es e _ (HB.out.since hs0) h2).mono ?_
    rintro en w1 ⟨rfl, hs1⟩
    rw [HD.out]
    have hs01 := hs0.trans hs1
    obtain ⟨q0, q1, _, _⟩ := (BG.out.since hs1).two
    go_wp2_with fail
    clear q0 q1
    refine (copyGraph_any _ g _ (HG.out.since hs01) h1 h2).mono ?_
    rintro en w2 ⟨v2, rfl, ho2, hs2⟩
    have GO := Lib.hid ho2
    obtain ⟨ga, gb, rfl, ka, _, kb, _⟩ := ho2
    obtain ⟨gao, gac, rfl⟩ := ka.len
    obtain ⟨gbo, gbc, rfl⟩ := kb.len
    clear ka kb
    have hs02 := hs01.trans hs2
    have hz1 := hs1.size
    obtain ⟨r0, r1, r2, r3⟩ := ((BR.out.since hs1).since hs2).two
    go_wp2_with fail
    refine bodyPost_ret (v := .tuple #[.agg #[.slice gao g.vs.length gac, .slice gbo g.es.length gbc], .bool false]) (by simp [results, Try.results146, go_sem, *]) rfl ?_
    exact gb_stored GO.out (by omega) (by omega) (Nat.le_refl _) (by omega) hs02 _ _
end Go.Proofs.Ytgdeiecbkmhbeaa
