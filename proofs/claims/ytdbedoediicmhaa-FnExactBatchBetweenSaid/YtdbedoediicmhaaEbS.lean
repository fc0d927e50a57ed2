/- EqualBatches, the model's and the program's. -/
import Derived.Test.YtdbedoediicmhaaChgL
import Derived.Test.YtdbedoediicmhaaEqG
namespace Go.Proofs.Ytdbedoediicmhaa
set_option maxRecDepth 100000
open Go.ChangeShapes Go.WideShapes Go.ChangeAt Go.RowKit
set_option linter.unusedVariables false
set_option linter.unusedSimpArgs false

theorem guard_chg : Try.prog.eqGuardType Try.prog.depth 64 = false := by kernel_rfl
theorem equal_edge (d : Nat) (a b : Edg) (w : World) : (Op.equalIn (d + 1 + 1) 62 (ev a) (ev b)).run Try.prog w = .ok (decide (a = b)) w := by
  have u3 := Try.underlying3
  have a3 := Try.isAgg3
  have z3 := Try.sizeOf3
  have hS : Try.prog.underlying 62 = some (.struct (Try.prog.fieldsOf 62)) := by kernel_rfl
  have hp : Try.prog.stoodInHeld 62 = false := by kernel_rfl
  have hd : decide (a = b) = (a.id == b.id && a.fr == b.fr && a.to == b.to && a.lb == b.lb) := by
    rw [Bool.eq_iff_iff]; simp only [decide_eq_true_eq, Edg.eq_iff, Bool.and_eq_true, beq_iff_eq]
    constructor
    · intro h; exact ⟨⟨⟨h.1, h.2.1⟩, h.2.2.1⟩, h.2.2.2⟩
    · intro h; exact ⟨h.1.1.1, h.1.1.2, h.1.2, h.2⟩
  rw [hd]
  unfold ev
  rw [run_equalIn_agg w (d + 1) 62 _ _ hS hp]
  simp only [Program.fieldsOf, Try.underlying62]
  go_simp
  by_cases h1 : a.id = b.id <;> by_cases h2 : a.fr = b.fr <;> by_cases h3 : a.to = b.to <;> by_cases h4 : a.lb = b.lb <;> simp [h1, h2, h3, h4]
theorem neq_chg (a b : Chg) (w : World) : (binOp .neq 64 (cv a) (cv b)).run Try.prog w = .ok (.bool (!decide (a = b))) w := by
  have u4 := Try.underlying4
  have a4 := Try.isAgg4
  have z4 := Try.sizeOf4
  have hS : Try.prog.underlying 64 = some (.struct (Try.prog.fieldsOf 64)) := by kernel_rfl
  have hp : Try.prog.stoodInHeld 64 = false := by kernel_rfl
  have hd : decide (a = b) = (a.ins == b.ins && decide (a.ed = b.ed)) := by
    rw [Bool.eq_iff_iff]; simp only [decide_eq_true_eq, Chg.eq_iff, Bool.and_eq_true, beq_iff_eq]
  rw [hd]
  unfold cv
  have hpa : ∀ (c : Chg) (W : World), (part 62 #[.bool c.ins, .int .i64 c.ed.id, .int .i64 c.ed.fr, .int .i64 (Edg.to c.ed), .int .i64 c.ed.lb] 1).run Try.prog W = .ok (ev c.ed) W := fun c W => by kernel_rfl
  obtain ⟨d, hd⟩ : ∃ d : Nat, 10000 = d + 1 + 1 + 1 := ⟨9997, rfl⟩
  rw [run_neq_struct, hd, run_equalIn_agg w (d + 1 + 1) 64 _ _ hS hp]
  clear hd
  simp only [Program.fieldsOf, Try.underlying64]
  have he := equal_edge d a.ed b.ed
  go_simp
  by_cases h1 : a.ins = b.ins <;> by_cases h2 : a.ed = b.ed <;> simp [h1, h2]
set_option maxRecDepth 100000 in
theorem slicesEqual_chgs (a b : Value) (xs ys : List Chg) (w : World) (ha : ChgsAt w a xs) (hb : ChgsAt w b ys) (hl : xs.length ≤ 1152921504606846976) (hl2 : ys.length ≤ 1152921504606846976) :
    Calls Try.prog 61 #[a, b] w fun e w' => e = .returned (.bool (decide (xs = ys))) ∧ Since w w' := by
  obtain ⟨_, ao1, cap1, rfl, HC1⟩ := ha
  obtain ⟨_, ao2, cap2, rfl, HC2⟩ := hb
  have hge := guard_chg
  by_cases hlen : xs.length = ys.length
  · rw [← hlen]
    obtain ⟨n, hn⟩ : ∃ n, n = xs.length := ⟨_, rfl⟩
    rw [← hn]
    have hn9 : n ≤ 1152921504606846976 := by omega
    have HN := Lib.hid hn
    have HN2 : Hid (n = ys.length) := by rw [hn]; exact hlen
    have HNE : (((n : Nat) : Int) != ((n : Nat) : Int)) = false := by simp
    clear hn hlen hl hl2
    go_enter Try.func61, Try.ntmps61
    go_wp2
    go_loopw [13] (fun i wr => ∃ k : Nat, k ≤ n ∧ i = .int .i64 k ∧ Hid (xs.take k = ys.take k) ∧ Since w wr) (fun i _ => n - (intOf i).toNat)
    case atStart => exact ⟨0, Nat.zero_le _, rfl, rfl, Since.refl w⟩
    case round =>
      obtain ⟨k, hk, rfl, HT, hsin⟩ := hrel
      by_cases hlt : k < n
      · have hx : k < xs.length := by have := HN.out; omega
        have hy : k < ys.length := by have := HN2.out; omega
        obtain ⟨b1, off1, rfl, hb1, c10, c11, c12, c13, c14⟩ := HC1.out k hx
        obtain ⟨b2, off2, rfl, hb2, c20, c21, c22, c23, c24⟩ := HC2.out k hy
        have s1 := since_cells hsin hb1
        have s2 := since_cells hsin hb2
        rw [← s1] at c10 c11 c12 c13 c14
        rw [← s2] at c20 c21 c22 c23 c24
        clear s1 s2
        have hki : (k : Int) < (n : Int) := by omega
        have hk0 : (0 : Int) ≤ (k : Int) := by omega
        by_cases he : xs[k] = ys[k]
        · have HE := Lib.hid (take_eq_stepC k hx hy HT.out he)
          have hnq : ∀ W : World, (binOp .neq 64 (cv xs[k]) (cv ys[k])).run Try.prog W = .ok (.bool false) W := fun W => by rw [neq_chg, decide_eq_true he]; rfl
          unfold cv at hnq
          clear he
          go_wp2
          go_quiet (fail)
          go_wp2
          go_roundw
          case rel => exact ⟨k + 1, by omega, by go_num, HE, hsin.drewN _⟩
          case measure => simp [intOf]; omega
        · have HE := Lib.hid (show decide (xs = ys) = false from decide_eq_false (ne_of_atC k hx hy he))
          have hnq : ∀ W : World, (binOp .neq 64 (cv xs[k]) (cv ys[k])).run Try.prog W = .ok (.bool true) W := fun W => by rw [neq_chg, decide_eq_false he]; rfl
          unfold cv at hnq
          clear he
          go_wp2
          go_quiet (fail)
          go_wp2
          go_ret
          exact ⟨ret_bool HE.out.symm, hsin.drewN _⟩
      · obtain rfl : k = n := by omega
        have HE : Hid (decide (xs = ys) = true) := by
          have := HT.out
          rw [List.take_of_length_le (by have := HN.out; omega), List.take_of_length_le (by have := HN2.out; omega)] at this
          unfold Hid; simpa using this
        go_wp2
        go_ret
        exact ⟨ret_bool HE.out.symm, hsin⟩
  · have HE : Hid (decide (xs = ys) = false) := by unfold Hid; simp; intro e; rw [e] at hlen; exact hlen rfl
    have hne : ((xs.length : Int) != (ys.length : Int)) = true := by simp; omega
    obtain ⟨n, hn⟩ : ∃ n, n = xs.length := ⟨_, rfl⟩
    obtain ⟨m, hm⟩ : ∃ m, m = ys.length := ⟨_, rfl⟩
    rw [← hn, ← hm] at hne ⊢
    clear hn hm hlen hl hl2 HC1 HC2
    go_enter Try.func61, Try.ntmps61
    go_wp2
    go_ret
    exact ⟨ret_bool HE.out.symm, Since.refl _⟩
set_option maxHeartbeats 1000000 in
set_option maxRecDepth 100000 in
theorem implEB_any (a b : Value) (x y : List Chg) (w : World) (ha : BchAt w a x) (hb : BchAt w b y) (h1 : x.length ≤ 1152921504606846976) (h2 : y.length ≤ 1152921504606846976) :
    Calls Try.prog 30 #[a, b] w fun e w' => e = .returned (.bool (decide (x = y))) ∧ Since w w' := by
  obtain ⟨a1, rfl, ha1⟩ := ha
  obtain ⟨b1, rfl, hb1⟩ := hb
  have HA := Lib.hid ha1
  have HB := Lib.hid hb1
  obtain ⟨_, ao, ac, rfl, _⟩ := ha1
  obtain ⟨_, bo, bc, rfl, _⟩ := hb1
  have hs0 : Since w ((w.alloc (.cells #[.slice ao x.length ac] 39)).alloc (.cells #[.slice bo y.length bc] 39)) := ((Since.refl w).alloc _).alloc _
  obtain ⟨c, hc⟩ : ∃ c, c = decide (x = y) := ⟨_, rfl⟩
  rw [← hc]
  have HC := Lib.hid hc
  clear hc
  go_enter Try.func30, Try.ntmps30
  go_wp2_with fail
  refine (slicesEqual_chgs _ _ x y _ (HA.out.since hs0) (HB.out.since hs0) h1 h2).mono ?_
  rintro e w1 ⟨rfl, hs1⟩
  rw [← HC.out]
  have hs01 := hs0.trans hs1
  go_wp2
  go_ret
  exact ⟨rfl, hs01⟩
set_option maxHeartbeats 1000000 in
set_option maxRecDepth 100000 in
theorem specEB_any (a b : Value) (x y : List Chg) (w : World) (ha : BchAt w a x) (hb : BchAt w b y) (h1 : x.length ≤ 1152921504606846976) (h2 : y.length ≤ 1152921504606846976) :
    Calls Try.prog 29 #[a, b] w fun e w' => e = .returned (.bool (decide (x = y))) ∧ Since w w' := by
  obtain ⟨a1, rfl, ha1⟩ := ha
  obtain ⟨b1, rfl, hb1⟩ := hb
  obtain ⟨_, ao, ac, rfl, HC1⟩ := ha1
  obtain ⟨_, bo, bc, rfl, HC2⟩ := hb1
  have hge := guard_chg
  obtain ⟨n, hn⟩ : ∃ n, n = x.length := ⟨_, rfl⟩
  obtain ⟨m, hm⟩ : ∃ m, m = y.length := ⟨_, rfl⟩
  rw [← hn, ← hm]
  have hn9 : n ≤ 1152921504606846976 := by omega
  have hm9 : m ≤ 1152921504606846976 := by omega
  have HN := Lib.hid hn
  have HM := Lib.hid hm
  clear hn hm h1 h2
  obtain ⟨w1, hw1⟩ : ∃ w1, w1 = ((w.alloc (.cells #[.slice ao n ac] 39)).alloc (.cells #[.slice bo m bc] 39)) := ⟨_, rfl⟩
  have hs01 : Since w w1 := by rw [hw1]; exact ((Since.refl w).alloc _).alloc _
  have b0 : Hid (Blk w1 w.heap.size 39 #[.slice ao n ac]) := by rw [hw1]; exact (Blk.new rfl _ _).alloc _
  have b1 : Hid (Blk w1 (w.heap.size + 1) 39 #[.slice bo m bc]) := by rw [hw1]; exact Blk.new (by simp) _ _
  by_cases hnm : n = m
  · have HNM := Lib.hid hnm
    have hbn : ((n : Int) != (m : Int)) = false := by subst hnm; simp
    have hnle : n ≤ m := by omega
    clear hnm
    go_enter Try.func29, Try.ntmps29
    go_wp2_with fail
    rw [← hw1]
    clear hw1
    go_loopw [5] (fun i wr => ∃ k : Nat, k ≤ n ∧ i = .int .i64 k ∧ Hid (x.take k = y.take k) ∧ Hid (Since w1 wr)) (fun i _ => n - (intOf i).toNat)
    case atStart => exact ⟨0, Nat.zero_le _, rfl, rfl, Since.refl _⟩
    case round =>
      obtain ⟨k, hk, rfl, HT, HS⟩ := hrel
      obtain ⟨p0, _⟩ := (b0.out.since HS.out).one
      obtain ⟨q0, _⟩ := (b1.out.since HS.out).one
      by_cases hlt : k < n
      · have hx : k < x.length := by have := HN.out; omega
        have hy : k < y.length := by have := HM.out; omega
        obtain ⟨x1, off1, rfl, hx1, c10, c11, c12, c13, c14⟩ := HC1.out k hx
        obtain ⟨x2, off2, rfl, hx2, c20, c21, c22, c23, c24⟩ := HC2.out k hy
        have s1 := since_cells (hs01.trans HS.out) hx1
        have s2 := since_cells (hs01.trans HS.out) hx2
        rw [← s1] at c10 c11 c12 c13 c14
        rw [← s2] at c20 c21 c22 c23 c24
        clear s1 s2
        have hki : (k : Int) < (n : Int) := by omega
        have hkm : (k : Int) < (m : Int) := by omega
        have hk0 : (0 : Int) ≤ (k : Int) := by omega
        by_cases he : x[k] = y[k]
        · have HX := Lib.hid (take_eq_stepC k hx hy HT.out he)
          have hnq : ∀ W : World, (binOp .neq 64 (cv x[k]) (cv y[k])).run Try.prog W = .ok (.bool false) W := fun W => by rw [neq_chg, decide_eq_true he]; rfl
          unfold cv at hnq
          clear he
          go_wp2_with fail
          go_quiet (fail)
          go_wp2
          go_roundw
          case rel => exact ⟨k + 1, by omega, by go_num, HX, HS.out.drewN _⟩
          case measure => simp [intOf]; omega
        · have HX := Lib.hid (show decide (x = y) = false from decide_eq_false (ne_of_atC k hx hy he))
          have hnq : ∀ W : World, (binOp .neq 64 (cv x[k]) (cv y[k])).run Try.prog W = .ok (.bool true) W := fun W => by rw [neq_chg, decide_eq_false he]; rfl
          unfold cv at hnq
          clear he
          go_wp2_with fail
          go_quiet (fail)
          go_wp2
          go_ret
          exact ⟨ret_bool HX.out.symm, hs01.trans (HS.out.drewN _)⟩
      · obtain rfl : k = n := by omega
        have HX : Hid (decide (x = y) = true) := by
          have := HT.out
          rw [List.take_of_length_le (by have := HN.out; omega), List.take_of_length_le (by have := HM.out; have := HNM.out; omega)] at this
          unfold Hid; simpa using this
        go_wp2
        go_ret
        exact ⟨ret_bool HX.out.symm, hs01.trans HS.out⟩
  · have HX : Hid (decide (x = y) = false) := by
      unfold Hid; simp; intro e; apply hnm; rw [HN.out, HM.out, e]
    have hbn : ((n : Int) != (m : Int)) = true := by simp; omega
    clear hnm
    go_enter Try.func29, Try.ntmps29
    go_wp2_with fail
    rw [← hw1]
    clear hw1
    go_ret
    exact ⟨ret_bool HX.out.symm, hs01⟩
end Go.Proofs.Ytdbedoediicmhaa
