/- The laws' helpers on walks: copies, sizes, comparisons, marks and checks. -/
import Derived.Test.YtilkheclimammaaDoorWlk
import Derived.Test.YtilkheclimammaaDoorStL
import Derived.Test.YtilkheclimammaaDoorMarkG
namespace Go.Proofs.YtilkheclimammaaDoor
set_option maxRecDepth 100000
open Go.ChangeShapes Go.WideShapes Go.ChangeAt Go.RowKit
set_option linter.unusedVariables false
set_option linter.unusedSimpArgs false

set_option maxRecDepth 100000 in
theorem toStepS_any (v : Value) (xs : List Stp) (w : World) (h : StpsAt w v xs) (hl : xs.length ≤ 1048577) :
    Calls Tryd.prog 17 #[v] w (StOut w xs) := by
  obtain ⟨ao, cap0, rfl, HC⟩ := h
  obtain ⟨i0, hi, hz0, hz1, hz2⟩ := info_parts info_step
  have HZ2 := Lib.hid hz2
  clear hz2
  obtain ⟨n, hn⟩ : ∃ n, n = xs.length := ⟨_, rfl⟩
  rw [← hn]
  have hn9 : n ≤ 1048577 := by omega
  have HN := Lib.hid hn
  clear hn hl
  go_enter Tryd.func17, Tryd.ntmps17
  go_wp2_with (at_make; go_must (refine wpList_make_full _ rfl _ _ 27 rfl w.heap.size 41 i0 (sv zeroS) 2 Tryd.underlying27 hi hz0 hz1 .i64 .i64 _ _ n rfl rfl rfl rfl (by rw [HZ2.out]; omega) (by unfold maxLen; omega) (Nat.le_refl _) ?_); intro w1 hown hgrow)
  have hsin : Since w w1 := (Since.refl w).grown hgrow (fun _ h => by simp at h)
  have hrow : w1.ownsRow w.heap.size 41 2 (.slice (some ⟨w.heap.size, 0, none⟩) n n) n (scells (filled xs zeroS 0)) := by
    rw [filled_zero, ← HN.out]
    rw [made_steps] at hown
    exact hown
  clear hown hgrow
  go_loopw [4] (fun i wr => ∃ k : Nat, k ≤ n ∧ i = .int .i64 k ∧ wr.ownsRow w.heap.size 41 2 (.slice (some ⟨w.heap.size, 0, none⟩) n n) n (scells (filled xs zeroS k)) ∧ Since w wr) (fun i _ => n - (intOf i).toNat)
  case atStart => exact ⟨0, Nat.zero_le _, rfl, hrow, hsin⟩
  case round =>
    obtain ⟨k, hk, rfl, hown, hsin⟩ := hrel
    by_cases hlt : k < n
    · have hx : k < xs.length := by have := HN.out; omega
      obtain ⟨b, off, rfl, hb, c0, c1⟩ := HC.out k hx
      have s1 := since_cells hsin hb
      rw [← s1] at c0 c1
      clear s1
      have HROW := Lib.hid hown
      clear hown
      go_wp2_with fail
      refine (toStep_any xs[k] _).mono ?_
      rintro e w2 ⟨rfl, hs2⟩
      have hs3 := hsin.trans hs2
      have hown2 := row_since HROW.out hs2
      have hfl : k < (filled xs zeroS k).length := filledS_get xs k k (by omega) hx
      obtain ⟨d0, d1⟩ := ownSt_cells hown2 (by rw [filled_length _ _ _ (by omega)]; exact HN.out) k hfl
      have f0 := hown2.frozenAt (k * 2)
      have f1 := hown2.frozenAt (k * 2 + 1)
      have hst := row_set2 hown2 k hfl xs[k]
      rw [filled_set xs zeroS k hx] at hst
      have HST := Lib.hid hst
      clear hst hown2
      go_wp2
      go_roundw
      case rel => exact ⟨k + 1, by omega, by go_num, HST.out, (hs3.setCell (Nat.le_refl _) _).setCell (Nat.le_refl _) _⟩
      case measure => simp [intOf]; omega
    · obtain rfl : k = n := by omega
      have hfin := filled_all xs zeroS k (by rw [← HN.out]; exact Nat.le_refl _)
      rw [hfin] at hown
      have HO := Lib.hid (OwnSt.ofRow hown HN.out)
      clear hfin hown
      go_wp2
      go_ret
      exact ⟨_, rfl, HO.out, hsin⟩

set_option maxRecDepth 100000 in
theorem toWalk_any (v : Value) (x : Wlk) (w : World) (h : WlkAt w v x) (h1 : x.ss.length ≤ 1048577) :
    Calls Tryd.prog 7 #[v] w (WOut w x) := by
  obtain ⟨b, rfl, hb⟩ := h
  have HB := Lib.hid hb
  obtain ⟨bo, cb, rfl, _⟩ := hb
  obtain ⟨y, hy⟩ : ∃ y, y = (((w.alloc (.cells #[.int .i64 x.st, .slice bo x.ss.length cb] 24)).alloc (.cells #[.int .i64 0, .slice none 0 0] 29)).alloc (.cells #[.int .i64 x.st, .slice none 0 0] 29)) := ⟨_, rfl⟩
  have hs0 : Since w y := by rw [hy]; exact (((Since.refl w).alloc _).alloc _).alloc _
  have hz : w.heap.size + 1 + 1 + 1 = y.heap.size := by rw [hy]; simp
  have B1 : Hid (Blk y (w.heap.size + 1) 29 #[.int .i64 0, .slice none 0 0]) := by rw [hy]; exact (Blk.new (by simp) _ _).alloc _
  have B2 : Hid (Blk y (w.heap.size + 1 + 1) 29 #[.int .i64 x.st, .slice none 0 0]) := by rw [hy]; exact Blk.new (by simp) _ _
  go_enter Tryd.func7, Tryd.ntmps7
  go_wp2_with fail
  rw [← hy]
  clear hy
  refine (toStepS_any _ x.ss _ (HB.out.since hs0) h1).mono ?_
  rintro e w1 ⟨v1, rfl, ho1, hs1⟩
  obtain ⟨ao1, cap1, rfl⟩ := ho1.len
  have HO1 := Lib.hid ho1
  clear ho1
  have hs01 := hs0.trans hs1
  have b1 := Lib.hid (B1.out.since hs1)
  have b2 := Lib.hid (B2.out.since hs1)
  have hw1 : y.heap.size ≤ w1.heap.size := hs1.size
  clear B1 B2
  obtain ⟨p0, p1, q0, q1⟩ := b1.out.two
  obtain ⟨r0, r1, s0, s1⟩ := b2.out.two
  go_wp2_with fail
  refine bodyPost_ret (v := .agg #[.int .i64 x.st, .slice ao1 x.ss.length cap1]) (by simp [results, Tryd.results7, go_sem, *]) rfl ?_
  refine ⟨_, rfl, OwnW.mk ((((HO1.out.far (by simp; omega) _).far (by simp; omega) _).far (by simp; omega) _).mono (by omega)), ?_⟩
  exact ((hs01.setCell (by simp; omega) _).setCell (by simp) _).setCell (by simp) _

theorem szStepS_any (v : Value) (xs : List Stp) (left : Int) (w : World) (h : StpsAt w v xs) (hl : xs.length ≤ maxLen) (h0 : 0 ≤ left) (h1 : left ≤ 1048576) :
    Calls Tryd.prog 14 #[v, .int .i64 left] w fun e w' => e = .returned (.int .i64 (szLeft xs.length left)) ∧ w = w' := by
  obtain ⟨ao, cap, rfl, _⟩ := h
  unfold maxLen at hl
  obtain ⟨n, hn⟩ : ∃ n, n = xs.length := ⟨_, rfl⟩
  rw [← hn] at hl ⊢
  clear hn
  by_cases hb : left - (n : Int) < 0
  · have HE : Hid (szLeft n left = -1) := by unfold Hid szLeft; rw [if_pos hb]
    go_enter Tryd.func14, Tryd.ntmps14
    go_wp2
    go_ret
    exact ⟨ret_int HE.out.symm, rfl⟩
  · have HE : Hid (szLeft n left = left - (n : Int)) := by unfold Hid szLeft; rw [if_neg hb]
    go_enter Tryd.func14, Tryd.ntmps14
    go_wp2
    go_ret
    exact ⟨ret_int HE.out.symm, rfl⟩
theorem szLeft_cases (n : Nat) (left : Int) : (left - (n : Int) < 0 ∧ szLeft n left = -1) ∨ (0 ≤ left - (n : Int) ∧ szLeft n left = left - (n : Int)) := by
  unfold szLeft
  by_cases h : left - (n : Int) < 0
  · rw [if_pos h]; exact .inl ⟨h, rfl⟩
  · rw [if_neg h]; exact .inr ⟨by omega, rfl⟩
theorem szWalk_any (v : Value) (x : Wlk) (left y : Int) (w : World) (h : WlkAt w v x) (hl : x.ss.length ≤ maxLen) (h0 : 0 ≤ left) (h1 : left ≤ 1048576) (hy : szLeft x.ss.length left = y) :
    Calls Tryd.prog 5 #[v, .int .i64 left] w fun e w' => e = .returned (.int .i64 y) ∧ Since w w' := by
  obtain ⟨b, rfl, hb⟩ := h
  have HB := Lib.hid hb
  obtain ⟨bo, cb, rfl, _⟩ := hb
  have hs0 : Since w (w.alloc (.cells #[.int .i64 x.st, .slice bo x.ss.length cb] 24)) := (Since.refl w).alloc _
  have HY := Lib.hid hy
  have HC : (y = -1) ∨ (0 ≤ y) := by rcases szLeft_cases x.ss.length left with ⟨_, h⟩ | ⟨h2, h⟩ <;> omega
  clear hy
  rcases HC with hc | hc
  · subst hc
    go_enter Tryd.func5, Tryd.ntmps5
    go_wp2_with fail
    refine (szStepS_any _ x.ss _ _ (HB.out.since hs0) hl h0 h1).mono ?_
    rintro e w1 ⟨rfl, rfl⟩
    rw [HY.out]
    go_wp2
    go_ret
    exact ⟨rfl, hs0⟩
  · have hd : decide (y < 0) = false := by simp; omega
    go_enter Tryd.func5, Tryd.ntmps5
    go_wp2_with fail
    refine (szStepS_any _ x.ss _ _ (HB.out.since hs0) hl h0 h1).mono ?_
    rintro e w1 ⟨rfl, rfl⟩
    rw [HY.out]
    go_wp2
    go_ret
    exact ⟨rfl, hs0⟩
set_option maxRecDepth 100000 in
theorem eqWalk_any (a b : Value) (x y : Wlk) (w : World) (ha : WlkAt w a x) (hb : WlkAt w b y) (h1 : x.ss.length ≤ 1152921504606846976) (h2 : y.ss.length ≤ 1152921504606846976) :
    Calls Tryd.prog 9 #[a, b] w fun e w' => e = .returned (.bool (decide (x = y))) ∧ Since w w' := by
  obtain ⟨a1, rfl, ha1⟩ := ha
  obtain ⟨b1, rfl, hb1⟩ := hb
  have HA := Lib.hid ha1
  have HB := Lib.hid hb1
  obtain ⟨ao, ac, rfl, _⟩ := ha1
  obtain ⟨bo, bc, rfl, _⟩ := hb1
  have hs0 : Since w ((w.alloc (.cells #[.int .i64 x.st, .slice ao x.ss.length ac] 29)).alloc (.cells #[.int .i64 y.st, .slice bo y.ss.length bc] 29)) := ((Since.refl w).alloc _).alloc _
  by_cases e1 : x.st = y.st
  · have n1 : (x.st != y.st) = false := by simpa using e1
    have HD : Hid (decide (x = y) = decide (x.ss = y.ss)) := by
      unfold Hid
      by_cases e2 : x.ss = y.ss
      · rw [decide_eq_true e2, decide_eq_true ((Wlk.eq_iff x y).2 ⟨e1, e2⟩)]
      · rw [decide_eq_false e2, decide_eq_false (fun e => e2 (by rw [e]))]
    rw [HD.out]
    clear e1 HD
    obtain ⟨c, hc⟩ : ∃ c, c = decide (x.ss = y.ss) := ⟨_, rfl⟩
    rw [← hc]
    have HC := Lib.hid hc
    clear hc
    cases c
    all_goals
      go_enter Tryd.func9, Tryd.ntmps9
      go_wp2_with fail
      refine (eqStepS_any _ _ x.ss y.ss _ (HA.out.since hs0) (HB.out.since hs0) h1 h2).mono ?_
      rintro e w1 ⟨rfl, hs1⟩
      rw [← HC.out]
      have hs01 := hs0.trans hs1
      go_wp2
      go_ret
      exact ⟨rfl, hs01⟩
  · have n1 : (x.st != y.st) = true := by simpa using e1
    have HD := Lib.hid (show decide (x = y) = false from decide_eq_false (fun e => e1 (by rw [e])))
    clear e1
    go_enter Tryd.func9, Tryd.ntmps9
    go_wp2
    go_ret
    exact ⟨ret_bool HD.out.symm, hs0⟩
/-- What markWalk writes. -/
def cntW (k : Int) (x : Wlk) : Wlk := ⟨x.st, countS k x.ss.length⟩
def MarkWOut (lo hi : Nat) (w : World) (v : Value) (k : Int) (x : Wlk) (e : Ending) (w' : World) : Prop :=
  e = .returned (.int .i64 (k + 2 * x.ss.length)) ∧ OwnW lo hi w' v (cntW k x) ∧ Within lo hi w w'
set_option maxRecDepth 100000 in
theorem markWalk_any (lo hi : Nat) (v : Value) (x : Wlk) (k : Int) (w : World) (h : OwnW lo hi w v x) (hk0 : 0 ≤ k) (hk9 : k ≤ 1152921504606846976) (hl : x.ss.length ≤ 288230376151711744) :
    Calls Tryd.prog 12 #[v, .int .i64 k] w (MarkWOut lo hi w v k x) := by
  obtain ⟨b, rfl, hb, rb⟩ := h
  have HB := Lib.hid hb
  clear hb
  obtain ⟨bo, bc, rfl⟩ := HB.out.len
  have hs0 : Since w (w.alloc (.cells #[.int .i64 x.st, .slice bo x.ss.length bc] 29)) := (Since.refl w).alloc _
  go_enter Tryd.func12, Tryd.ntmps12
  go_wp2_with fail
  refine (markStepS_any lo _ x.ss k _ (HB.out.since hs0) hk0 hk9 hl).mono ?_
  rintro e w1 ⟨rfl, ho1, hg1⟩
  have HO : Hid (OwnW lo hi w1 (.agg #[.int .i64 x.st, .slice bo x.ss.length bc]) (cntW k x)) := ⟨_, rfl, ho1, rb⟩
  have hw1 : Hid (Within lo hi w w1) := (Within.of_since hs0).trans (Within.of_grown hg1 rb)
  clear ho1 hg1
  go_wp2
  go_ret
  exact ⟨rfl, HO.out, hw1.out⟩
set_option maxRecDepth 100000 in
theorem heldWalk_any (v : Value) (x : Wlk) (k : Int) (w : World) (h : WlkAt w v (cntW k x)) (hk0 : 0 ≤ k) (hk9 : k ≤ 1152921504606846976) (hl : x.ss.length ≤ 288230376151711744) :
    Calls Tryd.prog 13 #[v, .int .i64 k] w fun e w' => e = .returned (.int .i64 (k + 2 * x.ss.length)) ∧ Since w w' := by
  obtain ⟨b, rfl, hb⟩ := h
  have HB : Hid (StpsAt w b (countS k x.ss.length)) := hb
  obtain ⟨bo, bc, rfl, _⟩ := hb
  have hcl : (cntW k x).ss.length = x.ss.length := countS_length _ _
  have hst : (cntW k x).st = x.st := rfl
  rw [hcl] at HB ⊢
  rw [hst]
  clear hcl hst
  have hs0 : Since w (w.alloc (.cells #[.int .i64 x.st, .slice bo x.ss.length bc] 29)) := (Since.refl w).alloc _
  have hd : decide (k + 2 * (x.ss.length : Int) < 0) = false := by simp; omega
  go_enter Tryd.func13, Tryd.ntmps13
  go_wp2_with fail
  refine (heldStepS_any _ k x.ss.length _ (HB.out.since hs0) hk0 hk9 hl).mono ?_
  rintro e w1 ⟨rfl, rfl⟩
  go_wp2
  go_ret
  exact ⟨rfl, hs0⟩
end Go.Proofs.YtilkheclimammaaDoor
