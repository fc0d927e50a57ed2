/- Comparing walks: the model's and the program's. -/
import Derived.Test.YtilkheclimammaaWlkL
import Derived.Test.YtilkheclimammaaWkM
import Derived.Test.YtilkheclimammaaReg
namespace Go.Proofs.Ytilkheclimammaa
set_option maxRecDepth 100000
open Go.ChangeShapes Go.WideShapes Go.ChangeAt Go.RowKit
set_option linter.unusedVariables false
set_option linter.unusedSimpArgs false

theorem cmpSt_lt {a b : Stp} (h : a.id < b.id) : cmpSt a b = -1 := by unfold cmpSt; rw [if_pos h]
theorem cmpSt_gt {a b : Stp} (h : b.id < a.id) : cmpSt a b = 1 := by unfold cmpSt; rw [if_neg (by omega), if_pos h]
theorem cmpSt_eq (i : Int) (p q : Bool) : cmpSt ⟨i, p⟩ ⟨i, q⟩ = if p = q then 0 else if q = true then -1 else 1 := by unfold cmpSt; simp
theorem l5Step_any (a b : Stp) (w : World) : Calls Try.prog 87 #[.agg #[.int .i64 a.id, .bool a.inv], .agg #[.int .i64 b.id, .bool b.inv]] w fun e w' => e = .returned (.int .i64 (cmpSt a b)) ∧ Since w w' := by
  have hs0 : Since w ((w.alloc (.cells #[.int .i64 a.id, .bool a.inv] 33)).alloc (.cells #[.int .i64 b.id, .bool b.inv] 33)) := ((Since.refl w).alloc _).alloc _
  obtain ⟨ai, ab⟩ := a
  obtain ⟨bi, bb⟩ := b
  dsimp only at hs0 ⊢
  rcases Int.lt_trichotomy ai bi with h | h | h
  · have HR := Lib.hid (cmpSt_lt (a := ⟨ai, ab⟩) (b := ⟨bi, bb⟩) h)
    go_enter Try.func87, Try.ntmps87
    go_wp2
    go_ret
    exact ⟨ret_int HR.out.symm, hs0⟩
  · subst h
    have hb0 : decide (ai < ai) = false := by simp
    cases ab <;> cases bb
    all_goals
      go_enter Try.func87, Try.ntmps87
      go_wp2
      go_ret
      exact ⟨ret_int (by simp [cmpSt]), hs0⟩
  · have HR := Lib.hid (cmpSt_gt (a := ⟨ai, ab⟩) (b := ⟨bi, bb⟩) h)
    have hb0 : ¬ ai < bi := by omega
    go_enter Try.func87, Try.ntmps87
    go_wp2
    go_ret
    exact ⟨ret_int HR.out.symm, hs0⟩
theorem cmpSteps_any (a b : Stp) (w : World) : Calls Try.prog 90 #[.agg #[.int .i64 a.id, .bool a.inv], .agg #[.int .i64 b.id, .bool b.inv]] w fun e w' => e = .returned (.int .i64 (cmpSt a b)) ∧ Since w w' := by
  have hs0 : Since w ((w.alloc (.cells #[.int .i64 a.id, .bool a.inv] 33)).alloc (.cells #[.int .i64 b.id, .bool b.inv] 33)) := ((Since.refl w).alloc _).alloc _
  obtain ⟨ai, ab⟩ := a
  obtain ⟨bi, bb⟩ := b
  dsimp only at hs0 ⊢
  rcases Int.lt_trichotomy ai bi with h | h | h
  · have HR : Hid (cmpI ai bi = cmpSt ⟨ai, ab⟩ ⟨bi, bb⟩) := by unfold Hid; rw [cmpSt_lt (a := ⟨ai, ab⟩) (b := ⟨bi, bb⟩) h]; unfold cmpI; rw [if_pos h]
    have hne : (ai != bi) = true := by simp; omega
    clear h
    go_enter Try.func90, Try.ntmps90
    go_wp2_with fail
    refine (cmpCompare_int _ _ _).mono ?_
    rintro e w' ⟨rfl, rfl⟩
    go_wp2
    go_ret
    exact ⟨ret_int HR.out, hs0⟩
  · subst h
    have hne : (ai != ai) = false := by simp
    cases ab <;> cases bb
    all_goals
      go_enter Try.func90, Try.ntmps90
      go_wp2
      go_ret
      exact ⟨ret_int (by simp [cmpSt]), hs0⟩
  · have HR : Hid (cmpI ai bi = cmpSt ⟨ai, ab⟩ ⟨bi, bb⟩) := by unfold Hid; rw [cmpSt_gt (a := ⟨ai, ab⟩) (b := ⟨bi, bb⟩) h]; unfold cmpI; rw [if_neg (by omega), if_pos h]
    have hne : (ai != bi) = true := by simp; omega
    clear h
    go_enter Try.func90, Try.ntmps90
    go_wp2_with fail
    refine (cmpCompare_int _ _ _).mono ?_
    rintro e w' ⟨rfl, rfl⟩
    go_wp2
    go_ret
    exact ⟨ret_int HR.out, hs0⟩
set_option maxHeartbeats 1000000 in
set_option maxRecDepth 100000 in
/-- slices.CompareFunc over two lists of steps of one length. -/
theorem compFunc_any (a b : Value) (xs ys : List Stp) (w : World) (ha : StpsAt w a xs) (hb : StpsAt w b ys) (hl : xs.length = ys.length) (h1 : xs.length ≤ 1048577) :
    Calls Try.prog 89 #[a, b, .func (.func 90) #[] #[]] w fun e w' => e = .returned (.int .i64 (lexS xs ys)) ∧ Since w w' := by
  obtain ⟨ao, ac, rfl, HA⟩ := ha
  obtain ⟨bo, bc, rfl, HB⟩ := hb
  obtain ⟨n, hn⟩ : ∃ n, n = xs.length := ⟨_, rfl⟩
  have HN := Lib.hid hn
  have HM : Hid (n = ys.length) := by rw [hn]; exact hl
  rw [← hn, ← HM.out]
  have hn9 : n ≤ 1048577 := by omega
  clear hn hl h1
  go_enter Try.func89, Try.ntmps89
  go_wp2
  go_loopw [13] (fun i wr => ∃ k : Nat, k ≤ n ∧ i = .int .i64 k ∧ Hid (xs.take k = ys.take k) ∧ Since w wr) (fun i _ => n - (intOf i).toNat)
  case atStart => exact ⟨0, Nat.zero_le _, rfl, rfl, Since.refl _⟩
  case round =>
    obtain ⟨k, hk, rfl, HT, hsw⟩ := hrel
    by_cases hlt : k < n
    · have hx : k < xs.length := by have := HN.out; omega
      have hy : k < ys.length := by have := HM.out; omega
      obtain ⟨ba, oa, rfl, hba, a0, a1⟩ := HA.out k hx
      obtain ⟨bb, ob, rfl, hbb, b0, b1⟩ := HB.out k hy
      have s1 := since_cells hsw hba
      rw [← s1] at a0 a1
      clear s1
      have s1 := since_cells (hsw.alloc (.cells #[.int .i64 xs[k].id, .bool xs[k].inv] 33)) hbb
      rw [← s1] at b0 b1
      clear s1
      have hsx : Since w ((wr.alloc (.cells #[.int .i64 xs[k].id, .bool xs[k].inv] 33)).alloc (.cells #[.int .i64 ys[k].id, .bool ys[k].inv] 33)) := (hsw.alloc _).alloc _
      have hkn : ¬ (n : Int) ≤ (k : Int) := by omega
      by_cases he : cmpSt xs[k] ys[k] = 0
      · have HT2 : Hid (xs.take (k + 1) = ys.take (k + 1)) := take_eq_stepS k hx hy HT.out (cmpSt_zero.1 he)
        have HE := Lib.hid he
        clear he
        go_wp2_with fail
        refine (cmpSteps_any xs[k] ys[k] _).mono ?_
        rintro e w2 ⟨rfl, hs2⟩
        rw [HE.out]
        have hs02 := hsx.trans hs2
        go_wp2
        go_roundw
        case rel => exact ⟨k + 1, by omega, by go_num, HT2, hs02⟩
        case measure => simp [intOf]; omega
      · have HR := Lib.hid (lexS_at xs ys k HT.out hx hy he)
        have hb0 : (cmpSt xs[k] ys[k] != 0) = true := by simpa using he
        clear he
        go_wp2_with fail
        refine (cmpSteps_any xs[k] ys[k] _).mono ?_
        rintro e w2 ⟨rfl, hs2⟩
        have hs02 := hsx.trans hs2
        generalize cmpSt xs[k] ys[k] = r at HR hb0 ⊢
        go_wp2
        go_ret
        exact ⟨ret_int HR.out.symm, hs02⟩
    · obtain rfl : k = n := by omega
      have HR : Hid (lexS xs ys = 0) := lexS_end xs ys k HT.out HN.out.symm HM.out.symm
      have hd0 : decide ((k : Int) < (k : Int)) = false := by simp
      go_wp2
      go_ret
      exact ⟨ret_int HR.out.symm, hsw⟩
set_option maxHeartbeats 1000000 in
set_option maxRecDepth 100000 in
theorem implCWk_any (u v : Value) (a b : Wlk) (w : World) (ha : WlkAt w u a) (hb : WlkAt w v b) (h1 : a.ss.length ≤ 1048577) (h2 : b.ss.length ≤ 1048577) :
    Calls Try.prog 53 #[u, v] w fun e w' => e = .returned (.int .i64 (cmpWk a b)) ∧ Since w w' := by
  obtain ⟨av, rfl, hav⟩ := ha
  obtain ⟨bv, rfl, hbv⟩ := hb
  have HA := Lib.hid hav
  have HB := Lib.hid hbv
  obtain ⟨ao, ac, rfl, _⟩ := hav
  obtain ⟨bo, bc, rfl, _⟩ := hbv
  obtain ⟨n, hn⟩ : ∃ n, n = a.ss.length := ⟨_, rfl⟩
  obtain ⟨m, hm⟩ : ∃ m, m = b.ss.length := ⟨_, rfl⟩
  have HN := Lib.hid hn
  have HM := Lib.hid hm
  rw [← hn] at HA ⊢
  rw [← hm] at HB ⊢
  have hn9 : n ≤ 1048577 := by omega
  have hm9 : m ≤ 1048577 := by omega
  clear hn hm h1 h2
  have hs0 : Since w ((w.alloc (.cells #[.int .i64 a.st, .slice ao n ac] 53)).alloc (.cells #[.int .i64 b.st, .slice bo m bc] 53)) := ((Since.refl w).alloc _).alloc _
  rcases cmpWk_cases a b with ⟨h, e⟩ | ⟨h, e⟩ | ⟨h, h', e⟩ | ⟨h, h', e⟩ | ⟨h, h', e⟩
  · have HE := Lib.hid e
    have hc : cmpI (n : Int) (m : Int) = -1 := by have := HN.out; have := HM.out; unfold cmpI; rw [if_pos (by omega)]
    have HC := Lib.hid hc
    clear e h hc
    go_enter Try.func53, Try.ntmps53
    go_wp2_with fail
    refine (cmpCompare_int _ _ _).mono ?_
    rintro e w' ⟨rfl, rfl⟩
    rw [HC.out]
    go_wp2
    go_ret
    exact ⟨ret_int HE.out.symm, hs0⟩
  · have HE := Lib.hid e
    have hc : cmpI (n : Int) (m : Int) = 1 := by have := HN.out; have := HM.out; unfold cmpI; rw [if_neg (by omega), if_pos (by omega)]
    have HC := Lib.hid hc
    clear e h hc
    go_enter Try.func53, Try.ntmps53
    go_wp2_with fail
    refine (cmpCompare_int _ _ _).mono ?_
    rintro e w' ⟨rfl, rfl⟩
    rw [HC.out]
    go_wp2
    go_ret
    exact ⟨ret_int HE.out.symm, hs0⟩
  · have HE := Lib.hid e
    have hc : cmpI (n : Int) (m : Int) = 0 := by have := HN.out; have := HM.out; unfold cmpI; rw [if_neg (by omega), if_neg (by omega)]
    have hc2 : cmpI a.st b.st = -1 := by unfold cmpI; rw [if_pos h']
    have HC := Lib.hid hc
    have HC2 := Lib.hid hc2
    clear e h h' hc hc2
    go_enter Try.func53, Try.ntmps53
    go_wp2_with fail
    refine (cmpCompare_int _ _ _).mono ?_
    rintro e w' ⟨rfl, rfl⟩
    rw [HC.out]
    go_wp2_with fail
    refine (cmpCompare_int _ _ _).mono ?_
    rintro e w' ⟨rfl, rfl⟩
    rw [HC2.out]
    go_wp2
    go_ret
    exact ⟨ret_int HE.out.symm, hs0⟩
  · have HE := Lib.hid e
    have hc : cmpI (n : Int) (m : Int) = 0 := by have := HN.out; have := HM.out; unfold cmpI; rw [if_neg (by omega), if_neg (by omega)]
    have hc2 : cmpI a.st b.st = 1 := by unfold cmpI; rw [if_neg (by omega), if_pos h']
    have HC := Lib.hid hc
    have HC2 := Lib.hid hc2
    clear e h h' hc hc2
    go_enter Try.func53, Try.ntmps53
    go_wp2_with fail
    refine (cmpCompare_int _ _ _).mono ?_
    rintro e w' ⟨rfl, rfl⟩
    rw [HC.out]
    go_wp2_with fail
    refine (cmpCompare_int _ _ _).mono ?_
    rintro e w' ⟨rfl, rfl⟩
    rw [HC2.out]
    go_wp2
    go_ret
    exact ⟨ret_int HE.out.symm, hs0⟩
  · have HE := Lib.hid e
    have HL := Lib.hid h
    have hc : cmpI (n : Int) (m : Int) = 0 := by have := HN.out; have := HM.out; unfold cmpI; rw [if_neg (by omega), if_neg (by omega)]
    have hc2 : cmpI a.st b.st = 0 := by unfold cmpI; rw [if_neg (by omega), if_neg (by omega)]
    have HC := Lib.hid hc
    have HC2 := Lib.hid hc2
    clear e h h' hc hc2
    go_enter Try.func53, Try.ntmps53
    go_wp2_with fail
    refine (cmpCompare_int _ _ _).mono ?_
    rintro e w' ⟨rfl, rfl⟩
    rw [HC.out]
    go_wp2_with fail
    refine (cmpCompare_int _ _ _).mono ?_
    rintro e w' ⟨rfl, rfl⟩
    rw [HC2.out]
    go_wp2_with fail
    refine (compFunc_any _ _ a.ss b.ss _ (HA.out.since hs0) (HB.out.since hs0) HL.out (by have := HN.out; omega)).mono ?_
    rintro e w2 ⟨rfl, hs2⟩
    have hs02 := hs0.trans hs2
    go_wp2
    go_ret
    exact ⟨ret_int HE.out.symm, hs02⟩
set_option maxHeartbeats 2000000 in
set_option maxRecDepth 100000 in
theorem specCWk_any (u v : Value) (a b : Wlk) (w : World) (ha : WlkAt w u a) (hb : WlkAt w v b) (h1 : a.ss.length ≤ 1048577) (h2 : b.ss.length ≤ 1048577) :
    Calls Try.prog 52 #[u, v] w fun e w' => e = .returned (.int .i64 (cmpWk a b)) ∧ Since w w' := by
  obtain ⟨av, rfl, hav⟩ := ha
  obtain ⟨bv, rfl, hbv⟩ := hb
  obtain ⟨ao, ac, rfl, HA⟩ := hav
  obtain ⟨bo, bc, rfl, HB⟩ := hbv
  obtain ⟨n, hn⟩ : ∃ n, n = a.ss.length := ⟨_, rfl⟩
  obtain ⟨m, hm⟩ : ∃ m, m = b.ss.length := ⟨_, rfl⟩
  have HN := Lib.hid hn
  have HM := Lib.hid hm
  rw [← hn, ← hm]
  have hn9 : n ≤ 1048577 := by omega
  have hm9 : m ≤ 1048577 := by omega
  rcases cmpWk_cases a b with ⟨h, e⟩ | ⟨h, e⟩ | ⟨h, h', e⟩ | ⟨h, h', e⟩ | ⟨h, h', e⟩
  · have HE := Lib.hid e
    have hs0 : Since w ((w.alloc (.cells #[.int .i64 a.st, .slice ao n ac] 53)).alloc (.cells #[.int .i64 b.st, .slice bo m bc] 53)) := ((Since.refl w).alloc _).alloc _
    have hnm : (n : Int) < (m : Int) := by omega
    clear e h hn hm h1 h2
    go_enter Try.func52, Try.ntmps52
    go_wp2
    go_ret
    exact ⟨ret_int HE.out.symm, hs0⟩
  · have HE := Lib.hid e
    have hs0 : Since w ((w.alloc (.cells #[.int .i64 a.st, .slice ao n ac] 53)).alloc (.cells #[.int .i64 b.st, .slice bo m bc] 53)) := ((Since.refl w).alloc _).alloc _
    have hnm : (m : Int) < (n : Int) := by omega
    have hnm2 : ¬ (n : Int) < (m : Int) := by omega
    clear e h hn hm h1 h2
    go_enter Try.func52, Try.ntmps52
    go_wp2
    go_ret
    exact ⟨ret_int HE.out.symm, hs0⟩
  all_goals
    obtain rfl : n = m := by omega
    have HE := Lib.hid e
    have HL := Lib.hid h
    have hs0 : Since w ((w.alloc (.cells #[.int .i64 a.st, .slice ao n ac] 53)).alloc (.cells #[.int .i64 b.st, .slice bo n bc] 53)) := ((Since.refl w).alloc _).alloc _
    have hnn : ¬ (n : Int) < (n : Int) := by omega
    clear e h hn hm h1 h2
  · go_enter Try.func52, Try.ntmps52
    go_wp2
    go_ret
    exact ⟨ret_int HE.out.symm, hs0⟩
  · have hb0 : ¬ a.st < b.st := by omega
    go_enter Try.func52, Try.ntmps52
    go_wp2
    go_ret
    exact ⟨ret_int HE.out.symm, hs0⟩
  · have hb0 : ¬ a.st < b.st := by omega
    have hb1 : ¬ b.st < a.st := by omega
    have BA : Hid (Blk ((w.alloc (.cells #[.int .i64 a.st, .slice ao n ac] 53)).alloc (.cells #[.int .i64 b.st, .slice bo n bc] 53)) w.heap.size 53 #[.int .i64 a.st, .slice ao n ac]) := (Blk.new rfl _ _).alloc _
    have BB : Hid (Blk ((w.alloc (.cells #[.int .i64 a.st, .slice ao n ac] 53)).alloc (.cells #[.int .i64 b.st, .slice bo n bc] 53)) (w.heap.size + 1) 53 #[.int .i64 b.st, .slice bo n bc]) := Blk.new (by simp) _ _
    clear h'
    go_enter Try.func52, Try.ntmps52
    go_wp2_with fail
    generalize ((w.alloc (.cells #[.int .i64 a.st, .slice ao n ac] 53)).alloc (.cells #[.int .i64 b.st, .slice bo n bc] 53)) = y at hs0 BA BB ⊢
    go_loopw [5] (fun i wr => ∃ k : Nat, k ≤ n ∧ i = .int .i64 k ∧ Hid (a.ss.take k = b.ss.take k) ∧ Since y wr) (fun i _ => n - (intOf i).toNat)
    case atStart => exact ⟨0, Nat.zero_le _, rfl, rfl, Since.refl _⟩
    case round =>
      obtain ⟨k, hk, rfl, HT, hsw⟩ := hrel
      have hs0w := hs0.trans hsw
      obtain ⟨p0, p1, _, _⟩ := (BA.out.since hsw).two
      obtain ⟨r0, r1, _, _⟩ := (BB.out.since hsw).two
      by_cases hlt : k < n
      · have hx : k < a.ss.length := by have := HN.out; omega
        have hy : k < b.ss.length := by have := HM.out; omega
        obtain ⟨ba, oa, rfl, hba, a0, a1⟩ := HA.out k hx
        obtain ⟨bb, ob, rfl, hbb, b0, b1⟩ := HB.out k hy
        have HKC : Hid (∀ w', Since wr w' → w'.cell? ⟨w.heap.size, 0, none⟩ = some (.int .i64 a.st) ∧ w'.cell? ⟨w.heap.size, 1, none⟩ = some (.slice (some ⟨ba, oa, none⟩) n ac) ∧ w'.cell? ⟨w.heap.size + 1, 0, none⟩ = some (.int .i64 b.st) ∧ w'.cell? ⟨w.heap.size + 1, 1, none⟩ = some (.slice (some ⟨bb, ob, none⟩) n bc) ∧ w'.cell? ⟨ba, oa + k * 2, none⟩ = some (.int .i64 a.ss[k].id) ∧ w'.cell? ⟨ba, oa + k * 2 + 1, none⟩ = some (.bool a.ss[k].inv) ∧ w'.cell? ⟨bb, ob + k * 2, none⟩ = some (.int .i64 b.ss[k].id) ∧ w'.cell? ⟨bb, ob + k * 2 + 1, none⟩ = some (.bool b.ss[k].inv)) := by
          intro w' hs
          obtain ⟨x0, x1, _, _⟩ := (BA.out.since (hsw.trans hs)).two
          obtain ⟨y0, y1, _, _⟩ := (BB.out.since (hsw.trans hs)).two
          have s1 := since_cells (hs0w.trans hs) hba
          have s2 := since_cells (hs0w.trans hs) hbb
          exact ⟨x0, x1, y0, y1, (s1 _).trans a0, (s1 _).trans a1, (s2 _).trans b0, (s2 _).trans b1⟩
        have hki : (k : Int) < (n : Int) := by omega
        have hk0 : (0 : Int) ≤ (k : Int) := by omega
        clear a0 a1 b0 b1
        go_wp2_with fail
        refine wp_region_held_drew (S := (fun w' => w'.cell? ⟨w.heap.size, 0, none⟩ = some (.int .i64 a.st) ∧ w'.cell? ⟨w.heap.size, 1, none⟩ = some (.slice (some ⟨ba, oa, none⟩) n ac) ∧ w'.cell? ⟨w.heap.size + 1, 0, none⟩ = some (.int .i64 b.st) ∧ w'.cell? ⟨w.heap.size + 1, 1, none⟩ = some (.slice (some ⟨bb, ob, none⟩) n bc) ∧ w'.cell? ⟨ba, oa + k * 2, none⟩ = some (.int .i64 a.ss[k].id) ∧ w'.cell? ⟨ba, oa + k * 2 + 1, none⟩ = some (.bool a.ss[k].inv) ∧ w'.cell? ⟨bb, ob + k * 2, none⟩ = some (.int .i64 b.ss[k].id) ∧ w'.cell? ⟨bb, ob + k * 2 + 1, none⟩ = some (.bool b.ss[k].inv))) (by kernel_rfl) (HKC.out _ (Since.refl _).drew) (fun hHeld => ?_)
        clear p0 p1 r0 r1
        refine take_yes 0 (some 42) (v := ?_) rfl (by kernel_rfl) (by kernel_rfl) (by kernel_rfl) (by kernel_rfl) (fun _ _ _ h => h) (by rfl) (by assumption) ?_ ?_
        rotate_left
        · (intro w' hSw; (try dsimp only at hSw); go_simp; try with_reducible rfl)
        try simp only [Act.put, List.setIfInBounds_toArray, List.set_cons_zero, List.set_cons_succ]
        refine take_yes 1 (some 43) (v := ?_) rfl (by kernel_rfl) (by kernel_rfl) (by kernel_rfl) (by kernel_rfl) (fun _ _ _ h => h) (by rfl) (by assumption) ?_ ?_
        rotate_left
        · (intro w' hSw; (try dsimp only at hSw); go_simp; try with_reducible rfl)
        try simp only [Act.put, List.setIfInBounds_toArray, List.set_cons_zero, List.set_cons_succ]
        refine take_yes 2 (some 44) (v := ?_) rfl (by kernel_rfl) (by kernel_rfl) (by kernel_rfl) (by kernel_rfl) (fun _ _ _ h => h) (by rfl) (by assumption) ?_ ?_
        rotate_left
        · (intro w' hSw; (try dsimp only at hSw); go_simp; try with_reducible rfl)
        try simp only [Act.put, List.setIfInBounds_toArray, List.set_cons_zero, List.set_cons_succ]
        refine take_yes 3 (some 45) (v := ?_) rfl (by kernel_rfl) (by kernel_rfl) (by kernel_rfl) (by kernel_rfl) (fun _ _ _ h => h) (by rfl) (by assumption) ?_ ?_
        rotate_left
        · (intro w' hSw; (try dsimp only at hSw); go_simp; try with_reducible rfl)
        try simp only [Act.put, List.setIfInBounds_toArray, List.set_cons_zero, List.set_cons_succ]
        refine take_yes 4 (some 46) (v := ?_) rfl (by kernel_rfl) (by kernel_rfl) (by kernel_rfl) (by kernel_rfl) (fun _ _ _ h => h) (by rfl) (by assumption) ?_ ?_
        rotate_left
        · (intro w' hSw; (try dsimp only at hSw); go_simp; try with_reducible rfl)
        try simp only [Act.put, List.setIfInBounds_toArray, List.set_cons_zero, List.set_cons_succ]
        refine take_yes 5 (some 47) (v := ?_) rfl (by kernel_rfl) (by kernel_rfl) (by kernel_rfl) (by kernel_rfl) (fun _ _ _ h => h) (by rfl) (by assumption) ?_ ?_
        rotate_left
        · (intro w' hSw; (try dsimp only at hSw); go_simp; try with_reducible rfl)
        try simp only [Act.put, List.setIfInBounds_toArray, List.set_cons_zero, List.set_cons_succ]
        refine take_yes 6 (some 48) (v := ?_) rfl (by kernel_rfl) (by kernel_rfl) (by kernel_rfl) (by kernel_rfl) (fun _ _ _ h => h) (by rfl) (by assumption) ?_ ?_
        rotate_left
        · (intro w' hSw; (try dsimp only at hSw); go_simp; try with_reducible rfl)
        try simp only [Act.put, List.setIfInBounds_toArray, List.set_cons_zero, List.set_cons_succ]
        refine take_yes 7 (some 49) (v := ?_) rfl (by kernel_rfl) (by kernel_rfl) (by kernel_rfl) (by kernel_rfl) (fun _ _ _ h => h) (by rfl) (by assumption) ?_ ?_
        rotate_left
        · (intro w' hSw; (try dsimp only at hSw); go_simp; try with_reducible rfl)
        try simp only [Act.put, List.setIfInBounds_toArray, List.set_cons_zero, List.set_cons_succ]
        refine take_yes 8 (some 50) (v := ?_) rfl (by kernel_rfl) (by kernel_rfl) (by kernel_rfl) (by kernel_rfl) (fun _ _ _ h => h) (by rfl) (by assumption) ?_ ?_
        rotate_left
        · (intro w' hSw; (try dsimp only at hSw); go_simp; try with_reducible rfl)
        try simp only [Act.put, List.setIfInBounds_toArray, List.set_cons_zero, List.set_cons_succ]
        refine take_yes 9 (some 51) (v := ?_) rfl (by kernel_rfl) (by kernel_rfl) (by kernel_rfl) (by kernel_rfl) (fun _ _ _ h => h) (by rfl) (by assumption) ?_ ?_
        rotate_left
        · (intro w' hSw; (try dsimp only at hSw); go_simp; try with_reducible rfl)
        try simp only [Act.put, List.setIfInBounds_toArray, List.set_cons_zero, List.set_cons_succ]
        refine take_run 10 rfl (by kernel_rfl) (by rfl) (fun K hK => ?_)
        go_simp
        refine (l5Step_any a.ss[k] b.ss[k] _).mono ?_
        rintro en w2 ⟨rfl, hs2⟩
        have hq2 := (Since.refl wr).drew.trans hs2
        refine hK.out _ _ (HKC.out _ hq2) (fun hHeld1 => ?_)
        clear hK K hHeld
        try simp only [Act.put, List.setIfInBounds_toArray, List.set_cons_zero, List.set_cons_succ]
        refine take_yes 11 (some 6) (v := ?_) rfl (by kernel_rfl) (by kernel_rfl) (by kernel_rfl) (by kernel_rfl) (fun _ _ _ h => h) (by rfl) (by assumption) ?_ ?_
        rotate_left
        · (intro w' hSw; (try dsimp only at hSw); go_simp; try with_reducible rfl)
        try simp only [Act.put, List.setIfInBounds_toArray, List.set_cons_zero, List.set_cons_succ]
        refine wpAnyH_done (by kernel_rfl) ?_ _
        clear hHeld1 HKC
        have hsy2 := hsw.trans hq2
        have hs02 := hs0.trans hsy2
        by_cases he : cmpSt a.ss[k] b.ss[k] = 0
        · have HT2 : Hid (a.ss.take (k + 1) = b.ss.take (k + 1)) := take_eq_stepS k hx hy HT.out (cmpSt_zero.1 he)
          rw [he]
          clear he
          go_wp2
          go_roundw
          case rel => exact ⟨k + 1, by omega, by go_num, HT2, hsy2⟩
          case measure => simp [intOf]; omega
        · have HR := Lib.hid (lexS_at a.ss b.ss k HT.out hx hy he)
          have hb2 : (cmpSt a.ss[k] b.ss[k] != 0) = true := by simpa using he
          clear he
          generalize cmpSt a.ss[k] b.ss[k] = r at HR hb2 ⊢
          go_wp2
          go_ret
          exact ⟨ret_int (HR.out.symm.trans HE.out.symm), hs02⟩
      · obtain rfl : k = n := by omega
        have HR : Hid (lexS a.ss b.ss = 0) := lexS_end a.ss b.ss k HT.out HN.out.symm HM.out.symm
        go_wp2
        go_ret
        exact ⟨ret_int (HR.out.symm.trans HE.out.symm), hs0w⟩
end Go.Proofs.Ytilkheclimammaa
