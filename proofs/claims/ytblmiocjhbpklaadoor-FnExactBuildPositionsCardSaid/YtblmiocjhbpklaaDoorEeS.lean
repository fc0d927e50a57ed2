/- EqualExprs, the model's and the program's. -/
import Derived.Test.YtblmiocjhbpklaaDoorTokL
namespace Go.Proofs.YtblmiocjhbpklaaDoor
set_option maxRecDepth 100000
open Go.ChangeShapes Go.WideShapes Go.ChangeAt Go.RowKit
set_option linter.unusedVariables false
set_option linter.unusedSimpArgs false
set_option maxHeartbeats 1000000 in
set_option maxRecDepth 100000 in
theorem specEE_any (a b : Value) (x y : List Tok) (w : World) (ha : ExAt w a x) (hb : ExAt w b y) (h1 : x.length ≤ 1152921504606846976) (h2 : y.length ≤ 1152921504606846976) :
    Calls Tryd.prog 22 #[a, b] w fun e w' => e = .returned (.bool (decide (x = y))) ∧ Since w w' := by
  obtain ⟨a1, rfl, ha1⟩ := ha
  obtain ⟨b1, rfl, hb1⟩ := hb
  obtain ⟨ao, ac, rfl, HC1⟩ := ha1.row
  obtain ⟨bo, bc, rfl, HC2⟩ := hb1.row
  clear ha1 hb1
  have hge := guard_tok
  obtain ⟨n, hn⟩ : ∃ n, n = x.length := ⟨_, rfl⟩
  obtain ⟨m, hm⟩ : ∃ m, m = y.length := ⟨_, rfl⟩
  rw [← hn, ← hm]
  have hn9 : n ≤ 1152921504606846976 := by omega
  have hm9 : m ≤ 1152921504606846976 := by omega
  have HN := Lib.hid hn
  have HM := Lib.hid hm
  clear hn hm h1 h2
  obtain ⟨w1, hw1⟩ : ∃ w1, w1 = ((w.alloc (.cells #[.slice ao n ac] 26)).alloc (.cells #[.slice bo m bc] 26)) := ⟨_, rfl⟩
  have hs01 : Since w w1 := by rw [hw1]; exact ((Since.refl w).alloc _).alloc _
  have b0 : Hid (Blk w1 w.heap.size 26 #[.slice ao n ac]) := by rw [hw1]; exact (Blk.new rfl _ _).alloc _
  have b1 : Hid (Blk w1 (w.heap.size + 1) 26 #[.slice bo m bc]) := by rw [hw1]; exact Blk.new (by simp) _ _
  by_cases hnm : n = m
  · have HNM := Lib.hid hnm
    have hbn : ((n : Int) != (m : Int)) = false := by subst hnm; simp
    have hnle : n ≤ m := by omega
    clear hnm
    go_enter Tryd.func22, Tryd.ntmps22
    go_wp2_with fail
    rw [← hw1]
    clear hw1
    go_loopw [5] (fun i wr => ∃ k : Nat, k ≤ n ∧ i = .int .i64 k ∧ Hid (x.take k = y.take k) ∧ Hid (Since w1 wr)) (fun i _ => n - (intOf i).toNat)
    case atStart => exact ⟨0, Nat.zero_le _, rfl, rfl, Since.refl _⟩
    case round =>
      obtain ⟨k, hk, rfl, HT, HS⟩ := hrel
      obtain ⟨p0, _⟩ := (b0.out.since HS.out).one
      obtain ⟨q0, _⟩ := (b1.out.since HS.out).one
      by_cases hlt : k < n
      · have hx : k < x.length := by have := HN.out; omega
        have hy : k < y.length := by have := HM.out; omega
        obtain ⟨x1, off1, rfl, hx1, c10, c11, c12, c13⟩ := HC1.out k hx
        obtain ⟨x2, off2, rfl, hx2, c20, c21, c22, c23⟩ := HC2.out k hy
        have s1 := since_cells (hs01.trans HS.out) hx1
        have s2 := since_cells (hs01.trans HS.out) hx2
        rw [← s1] at c10 c11 c12 c13
        rw [← s2] at c20 c21 c22 c23
        clear s1 s2
        have hki : (k : Int) < (n : Int) := by omega
        have hkm : (k : Int) < (m : Int) := by omega
        have hk0 : (0 : Int) ≤ (k : Int) := by omega
        by_cases he : x[k] = y[k]
        · have HX := Lib.hid (take_eq_stepEK k hx hy HT.out he)
          have hnq : ∀ W : World, (binOp .neq 90 (kv x[k]) (kv y[k])).run Tryd.prog W = .ok (.bool false) W := fun W => by rw [neq_tok, decide_eq_true he]; rfl
          unfold kv at hnq
          clear he
          go_wp2_with fail
          go_quiet (fail)
          go_wp2
          go_roundw
          case rel => exact ⟨k + 1, by omega, by go_num, HX, HS.out.drewN _⟩
          case measure => simp [intOf]; omega
        · have HX := Lib.hid (show decide (x = y) = false from decide_eq_false (ne_of_atEK k hx hy he))
          have hnq : ∀ W : World, (binOp .neq 90 (kv x[k]) (kv y[k])).run Tryd.prog W = .ok (.bool true) W := fun W => by rw [neq_tok, decide_eq_false he]; rfl
          unfold kv at hnq
          clear he
          go_wp2_with fail
          go_quiet (fail)
          go_wp2
          go_ret
          exact ⟨ret_bool HX.out.symm, hs01.trans (HS.out.drewN _)⟩
      · obtain rfl : k = n := by omega
        have HX : Hid (decide (x = y) = true) := by
          have := HT.out
          rw [List.take_of_length_le (by have := HN.out; omega), List.take_of_length_le (by have := HM.out; have := HNM.out; omega)] at this
          unfold Hid; simpa using this
        go_wp2
        go_ret
        exact ⟨ret_bool HX.out.symm, hs01.trans HS.out⟩
  · have HX : Hid (decide (x = y) = false) := by
      unfold Hid; simp; intro e; apply hnm; rw [HN.out, HM.out, e]
    have hbn : ((n : Int) != (m : Int)) = true := by simp; omega
    clear hnm
    go_enter Tryd.func22, Tryd.ntmps22
    go_wp2_with fail
    rw [← hw1]
    clear hw1
    go_ret
    exact ⟨ret_bool HX.out.symm, hs01⟩
end Go.Proofs.YtblmiocjhbpklaaDoor
