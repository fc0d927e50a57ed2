/- The program's traversalOf, StepFrom, StepTo, StepLetter. -/
import Derived.Test.YtilkheclimammaaTrvG
import Derived.Laws.StructEq
namespace Go.Proofs.Ytilkheclimammaa
set_option maxRecDepth 100000
open Go.ChangeShapes Go.WideShapes Go.ChangeAt Go.RowKit
set_option linter.unusedVariables false
set_option linter.unusedSimpArgs false

theorem guard_step : Try.prog.eqGuardType Try.prog.depth 33 = false := by kernel_rfl
theorem eql_step (a b : Stp) (w : World) : (binOp .eql 33 (sv a) (sv b)).run Try.prog w = .ok (.bool (decide (a = b))) w := by
  have u3 := Try.underlying3
  have a3 := Try.isAgg3
  have z3 := Try.sizeOf3
  have u4 := Try.underlying4
  have a4 := Try.isAgg4
  have z4 := Try.sizeOf4
  have hS : Try.prog.underlying 33 = some (.struct (Try.prog.fieldsOf 33)) := by kernel_rfl
  have hp : Try.prog.stoodInHeld 33 = false := by kernel_rfl
  have hd : decide (a = b) = (a.id == b.id && a.inv == b.inv) := by
    rw [Bool.eq_iff_iff]; simp only [decide_eq_true_eq, Stp.eq_iff, Bool.and_eq_true, beq_iff_eq]
  rw [hd]
  unfold sv
  rw [run_eql_struct, show (10000 : Nat) = 9999 + 1 from rfl, run_equalIn_agg w 9999 33 _ _ hS hp]
  simp only [Program.fieldsOf, Try.underlying33]
  go_simp
  by_cases h1 : a.id = b.id <;> by_cases h2 : a.inv = b.inv <;> simp [h1, h2]

def noTrv : Trv := ⟨0, false, -1, -1, -1⟩
/-- The traversal of this step, or none. -/
def tOf (xs : List Trv) (s : Stp) : Trv := (xs.find? fun t => decide (t.st = s)).getD noTrv
theorem tOf_at {xs : List Trv} {s : Stp} {k : Nat} (hk : k < xs.length) (h : (xs[k]).st = s) (hlt : ∀ j (hj : j < k), (xs[j]'(by omega)).st ≠ s) : tOf xs s = xs[k] := by
  unfold tOf
  rw [List.find?_eq_some_iff_getElem.2 ⟨by simpa using h, k, hk, rfl, fun j hj => by simpa using hlt j hj⟩]; rfl
theorem tOf_none {xs : List Trv} {s : Stp} (h : ∀ j (hj : j < xs.length), (xs[j]).st ≠ s) : tOf xs s = noTrv := by
  unfold tOf
  rw [List.find?_eq_none.2 (fun x hx => by obtain ⟨j, hj, rfl⟩ := List.getElem_of_mem hx; simpa using h j hj)]; rfl
def noTo (xs : List Trv) (s : Stp) (k : Nat) : Prop := ∀ j (_ : j < k) (h : j < xs.length), (xs[j]).st ≠ s
theorem noTo_zero (xs : List Trv) (s : Stp) : noTo xs s 0 := fun j hj => by omega
theorem noTo_step {xs : List Trv} {s : Stp} {k : Nat} (hk : k < xs.length) (h : noTo xs s k) (hx : (xs[k]).st ≠ s) : noTo xs s (k + 1) := by
  intro j hj hl
  by_cases e : j = k
  · subst e; exact hx
  · exact h j (by omega) hl

set_option maxHeartbeats 1000000 in
set_option maxRecDepth 100000 in
theorem tof_any (v : Value) (g : Grf) (s : Stp) (w : World) (h : GrfAt w v g) (h1 : g.vs.length ≤ 1048577) (h2 : g.es.length ≤ 1048577) :
    Calls Try.prog 61 #[v, sv s] w fun en w' => en = .returned (tv (tOf (travG g) s)) ∧ Since w w' := by
  have HG := Lib.hid h
  obtain ⟨a, b, rfl, ha, hb⟩ := h
  obtain ⟨ao, ac, rfl, _⟩ := ha.row
  obtain ⟨bo, bc, rfl⟩ := hb.len
  clear ha hb
  obtain ⟨n, hn⟩ : ∃ n, n = g.vs.length := ⟨_, rfl⟩
  obtain ⟨m, hm⟩ : ∃ m, m = g.es.length := ⟨_, rfl⟩
  rw [← hn, ← hm] at HG ⊢
  have hlen : (travG g).length ≤ 2097154 := by
    unfold travG; split
    · rw [travL_length]; omega
    · simp
  clear hn hm
  have HTR : Hid (∀ W, GrfAt W (.agg #[.slice ao n ac, .slice bo m bc]) g → Calls Try.prog 95 #[.agg #[.slice ao n ac, .slice bo m bc]] W (TrOut W (travG g))) := fun W hu => trav_any _ g W hu h1 h2
  generalize travG g = xs at hlen HTR ⊢
  have hge := guard_step
  unfold sv
  have hs0 : Since w (((w.alloc (.cells #[.slice ao n ac, .slice bo m bc] 27)).alloc (.cells #[.int .i64 s.id, .bool s.inv] 33)).alloc (.cells #[.int .i64 0, .bool false, .int .i64 0, .int .i64 0, .int .i64 0] 77)) := (((Since.refl w).alloc _).alloc _).alloc _
  have S0 : Hid (Blk (((w.alloc (.cells #[.slice ao n ac, .slice bo m bc] 27)).alloc (.cells #[.int .i64 s.id, .bool s.inv] 33)).alloc (.cells #[.int .i64 0, .bool false, .int .i64 0, .int .i64 0, .int .i64 0] 77)) (w.heap.size + 1) 33 #[.int .i64 s.id, .bool s.inv]) := (Blk.new (by simp) _ _).alloc _
  have R0 : Hid (Blk (((w.alloc (.cells #[.slice ao n ac, .slice bo m bc] 27)).alloc (.cells #[.int .i64 s.id, .bool s.inv] 33)).alloc (.cells #[.int .i64 0, .bool false, .int .i64 0, .int .i64 0, .int .i64 0] 77)) (w.heap.size + 1 + 1) 77 #[.int .i64 0, .bool false, .int .i64 0, .int .i64 0, .int .i64 0]) := Blk.new (by simp) _ _
  go_enter Try.func61, Try.ntmps61
  go_wp2_with fail
  refine (HTR.out _ (HG.out.since hs0)).mono ?_
  rintro en w1 ⟨v1, rfl, ho1, hs1⟩
  obtain ⟨xo, xc, rfl, HX⟩ := ho1.at
  have hs01 := hs0.trans hs1
  have s1 := Lib.hid (S0.out.since hs1)
  have r1 := Lib.hid (R0.out.since hs1)
  clear ho1 S0 R0
  obtain ⟨q, hq⟩ : ∃ q, q = xs.length := ⟨_, rfl⟩
  rw [← hq]
  have HQ := Lib.hid hq
  have hq9 : q ≤ 2097154 := by omega
  clear hq hlen
  go_wp2_with fail
  go_loopw [10] (fun i wr => ∃ k : Nat, k ≤ q ∧ i = .int .i64 k ∧ Hid (noTo xs s k) ∧ Since w1 wr) (fun i _ => q - (intOf i).toNat)
  case atStart => exact ⟨0, Nat.zero_le _, rfl, noTo_zero _ _, Since.refl _⟩
  case round =>
    obtain ⟨k, hk, rfl, HT, hsin⟩ := hrel
    have hsw := hs01.trans hsin
    by_cases hlt : k < q
    · have hx : k < xs.length := by have := HQ.out; omega
      obtain ⟨be, oe, rfl, hbe, d0, d1, d2, d3, d4⟩ := HX.out k hx
      have c1 := since_cells hsin hbe
      rw [← c1] at d0 d1 d2 d3 d4
      clear c1
      have hsx : Since wr (wr.alloc (.cells #[.int .i64 xs[k].id, .bool xs[k].inv, .int .i64 xs[k].fr, .int .i64 xs[k].dst, .int .i64 xs[k].le] 77)) := (Since.refl wr).alloc _
      obtain ⟨p0, p1, _, _⟩ := (s1.out.since (hsin.trans hsx)).two
      by_cases he : (xs[k]).st = s
      · have HV := Lib.hid (tOf_at hx he (fun j hj => HT.out j hj (by omega)))
        have hnq : ∀ W : World, (binOp .eql 33 (sv (xs[k]).st) (sv s)).run Try.prog W = .ok (.bool true) W := fun W => by rw [eql_step, decide_eq_true he]
        unfold sv Trv.st at hnq
        clear he
        obtain ⟨f0, f1, f2, f3, f4, f5, f6, f7, f8, f9⟩ := (r1.out.since (hsin.trans hsx)).five
        go_wp2
        refine bodyPost_ret (v := .agg #[.int .i64 xs[k].id, .bool xs[k].inv, .int .i64 xs[k].fr, .int .i64 xs[k].dst, .int .i64 xs[k].le]) (by simp [results, Try.results61, go_sem, *]) rfl ⟨by rw [HV.out], ?_⟩
        iterate 5 (with_reducible refine Since.setCell ?_ (by simp; omega) _)
        exact hsw.alloc _
      · have HN := Lib.hid (noTo_step hx HT.out he)
        have hnq : ∀ W : World, (binOp .eql 33 (sv (xs[k]).st) (sv s)).run Try.prog W = .ok (.bool false) W := fun W => by rw [eql_step, decide_eq_false he]
        unfold sv Trv.st at hnq
        clear he
        go_wp2
        go_roundw
        case rel => exact ⟨k + 1, by omega, by go_num, HN, hsin.alloc _⟩
        case measure => simp [intOf]; omega
    · obtain rfl : k = q := by omega
      have HV : Hid (tOf xs s = noTrv) := tOf_none (fun j hj => HT.out j (by have := HQ.out; omega) hj)
      obtain ⟨f0, f1, f2, f3, f4, f5, f6, f7, f8, f9⟩ := (r1.out.since hsin).five
      go_wp2
      refine bodyPost_ret (v := .agg #[.int .i64 0, .bool false, .int .i64 (-1), .int .i64 (-1), .int .i64 (-1)]) (by simp [results, Try.results61, go_sem, *]) rfl ⟨by rw [HV.out]; rfl, ?_⟩
      iterate 5 (with_reducible refine Since.setCell ?_ (by simp; omega) _)
      exact hsw
theorem implFrom_any (v : Value) (g : Grf) (s : Stp) (w : World) (h : GrfAt w v g) (h1 : g.vs.length ≤ 1048577) (h2 : g.es.length ≤ 1048577) :
    Calls Try.prog 17 #[v, sv s] w fun en w' => en = .returned (.int .i64 (tOf (travG g) s).fr) ∧ Since w w' := by
  have HG := Lib.hid h
  obtain ⟨a, b, rfl, ha, hb⟩ := h
  obtain ⟨ao, ac, rfl, _⟩ := ha.row
  obtain ⟨bo, bc, rfl⟩ := hb.len
  clear ha hb
  have HC : Hid (∀ W, GrfAt W (.agg #[.slice ao g.vs.length ac, .slice bo g.es.length bc]) g → Calls Try.prog 61 #[.agg #[.slice ao g.vs.length ac, .slice bo g.es.length bc], sv s] W fun en w' => en = .returned (tv (tOf (travG g) s)) ∧ Since W w') := fun W hu => tof_any _ g s W hu h1 h2
  generalize tOf (travG g) s = t at HC ⊢
  obtain ⟨ti, tb, tf, td, tl⟩ := t
  dsimp only [tv] at HC ⊢
  unfold sv at HC ⊢
  have hfl : ∀ W, (Instr.field 77 (.agg #[.int .i64 ti, .bool tb, .int .i64 tf, .int .i64 td, .int .i64 tl]) 1).run Try.prog W = .ok (.int .i64 tf) W := fun W => by kernel_rfl
  go_enter Try.func17, Try.ntmps17
  go_wp2_with fail
  refine (HC.out _ (HG.out.since (((Since.refl w).alloc _).alloc _))).mono ?_
  rintro en w1 ⟨rfl, hs1⟩
  go_wp2
  go_ret
  exact ⟨rfl, (((Since.refl w).alloc _).alloc _).trans hs1⟩
theorem implTo_any (v : Value) (g : Grf) (s : Stp) (w : World) (h : GrfAt w v g) (h1 : g.vs.length ≤ 1048577) (h2 : g.es.length ≤ 1048577) :
    Calls Try.prog 18 #[v, sv s] w fun en w' => en = .returned (.int .i64 (tOf (travG g) s).dst) ∧ Since w w' := by
  have HG := Lib.hid h
  obtain ⟨a, b, rfl, ha, hb⟩ := h
  obtain ⟨ao, ac, rfl, _⟩ := ha.row
  obtain ⟨bo, bc, rfl⟩ := hb.len
  clear ha hb
  have HC : Hid (∀ W, GrfAt W (.agg #[.slice ao g.vs.length ac, .slice bo g.es.length bc]) g → Calls Try.prog 61 #[.agg #[.slice ao g.vs.length ac, .slice bo g.es.length bc], sv s] W fun en w' => en = .returned (tv (tOf (travG g) s)) ∧ Since W w') := fun W hu => tof_any _ g s W hu h1 h2
  generalize tOf (travG g) s = t at HC ⊢
  obtain ⟨ti, tb, tf, td, tl⟩ := t
  dsimp only [tv] at HC ⊢
  unfold sv at HC ⊢
  have hfl : ∀ W, (Instr.field 77 (.agg #[.int .i64 ti, .bool tb, .int .i64 tf, .int .i64 td, .int .i64 tl]) 2).run Try.prog W = .ok (.int .i64 td) W := fun W => by kernel_rfl
  go_enter Try.func18, Try.ntmps18
  go_wp2_with fail
  refine (HC.out _ (HG.out.since (((Since.refl w).alloc _).alloc _))).mono ?_
  rintro en w1 ⟨rfl, hs1⟩
  go_wp2
  go_ret
  exact ⟨rfl, (((Since.refl w).alloc _).alloc _).trans hs1⟩
theorem implLtr_any (v : Value) (g : Grf) (s : Stp) (w : World) (h : GrfAt w v g) (h1 : g.vs.length ≤ 1048577) (h2 : g.es.length ≤ 1048577) :
    Calls Try.prog 16 #[v, sv s] w fun en w' => en = .returned (.int .i64 (tOf (travG g) s).le) ∧ Since w w' := by
  have HG := Lib.hid h
  obtain ⟨a, b, rfl, ha, hb⟩ := h
  obtain ⟨ao, ac, rfl, _⟩ := ha.row
  obtain ⟨bo, bc, rfl⟩ := hb.len
  clear ha hb
  have HC : Hid (∀ W, GrfAt W (.agg #[.slice ao g.vs.length ac, .slice bo g.es.length bc]) g → Calls Try.prog 61 #[.agg #[.slice ao g.vs.length ac, .slice bo g.es.length bc], sv s] W fun en w' => en = .returned (tv (tOf (travG g) s)) ∧ Since W w') := fun W hu => tof_any _ g s W hu h1 h2
  generalize tOf (travG g) s = t at HC ⊢
  obtain ⟨ti, tb, tf, td, tl⟩ := t
  dsimp only [tv] at HC ⊢
  unfold sv at HC ⊢
  have hfl : ∀ W, (Instr.field 77 (.agg #[.int .i64 ti, .bool tb, .int .i64 tf, .int .i64 td, .int .i64 tl]) 3).run Try.prog W = .ok (.int .i64 tl) W := fun W => by kernel_rfl
  go_enter Try.func16, Try.ntmps16
  go_wp2_with fail
  refine (HC.out _ (HG.out.since (((Since.refl w).alloc _).alloc _))).mono ?_
  rintro en w1 ⟨rfl, hs1⟩
  go_wp2
  go_ret
  exact ⟨rfl, (((Since.refl w).alloc _).alloc _).trans hs1⟩
end Go.Proofs.Ytilkheclimammaa
