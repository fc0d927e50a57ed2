/- IsValidAutomaton, the model's and the program's. -/
import Derived.Test.YtcokggjekleabaaAuM
import Derived.Test.YtcokggjekleabaaK0
namespace Go.Proofs.Ytcokggjekleabaa
set_option maxRecDepth 100000
open Go.ChangeShapes Go.WideShapes Go.ChangeAt Go.RowKit
set_option linter.unusedVariables false
set_option linter.unusedSimpArgs false

theorem BgA.mx {A : Aut} (h : BgA A) : MxA A := by
  obtain ⟨h1, h2, h3⟩ := h
  unfold MxA maxLen
  exact ⟨by omega, by omega, fun i hi => by have := totS_get A.nx i hi; omega⟩
/-- a state of an automaton of n states. -/
def stB (n : Nat) (x : Int) : Bool := decide (0 ≤ x ∧ x < (n : Int))
theorem validA_n {A : Aut} (h : 12 < A.ac.length) : validA A = false := validA_false (fun k => by have := k.1; omega)
theorem validA_m {A : Aut} (h : A.nx.length ≠ A.ac.length) : validA A = false := validA_false (fun k => h k.2.2.1)
theorem validA_st {A : Aut} (h : stB A.ac.length A.st = false) : validA A = false := validA_false (fun k => by have := k.2.2.2.1; unfold stB at h; simp at h; omega)
theorem validA_row {A : Aut} (i : Nat) (hi : i < A.nx.length) (h : ¬ RowOk A.ac.length A.nx[i]) : validA A = false := validA_false (fun k => h (k.2.row i hi))
theorem validA_all {A : Aut} (h1 : A.ac.length ≤ 12) (h2 : A.nx.length = A.ac.length) (h3 : stB A.ac.length A.st = true) (h4 : ∀ r ∈ A.nx, RowOk A.ac.length r) : validA A = true :=
  validA_true h1 ⟨by omega, h2, by unfold stB at h3; simpa using h3, h4⟩
theorem rowOk_len {n : Nat} {r : List Int} (h : r.length ≠ 9) : ¬ RowOk n r := fun k => h k.1
theorem rowOk_bad {n : Nat} {r : List Int} (k : Nat) (hk : k < r.length) (h : ¬ (-1 ≤ r[k] ∧ r[k] < (n : Int))) : ¬ RowOk n r := fun q => h (q.at k hk)
set_option maxRecDepth 100000 in
theorem isState_any (v : Value) (A : Aut) (x : Int) (w : World) (h : AutAt w v A) (hl : A.ac.length ≤ maxLen) : Calls Try.prog 52 #[v, .int .i64 x] w fun e w' => e = .returned (.bool (stB A.ac.length x)) ∧ Since w w' := by
  obtain ⟨a, b, rfl, _, ha, hb⟩ := h
  obtain ⟨ao, ca, rfl⟩ := ha.len
  obtain ⟨bo, cb, rfl⟩ := hb.len
  unfold maxLen at hl
  clear ha hb
  obtain ⟨n, hn⟩ : ∃ n, n = A.ac.length := ⟨_, rfl⟩
  rw [← hn] at hl ⊢
  clear hn
  by_cases hx : 0 ≤ x
  · have hb : decide (x < (n : Int)) = stB n x := by unfold stB; simp [hx]
    have HB := Lib.hid hb
    clear hb
    go_enter Try.func52, Try.ntmps52
    go_wp2
    go_ret
    exact ⟨ret_bool HB.out, (Since.refl w).alloc _⟩
  · have HB : Hid (stB n x = false) := by unfold Hid stB; simp; omega
    go_enter Try.func52, Try.ntmps52
    go_wp2
    go_ret
    exact ⟨ret_bool HB.out.symm, (Since.refl w).alloc _⟩
set_option maxHeartbeats 1000000 in
set_option maxRecDepth 100000 in
theorem isRow_any (v : Value) (A : Aut) (u : Value) (r : List Int) (w : World) (h : AutAt w v A) (hl : A.ac.length ≤ maxLen) (hu : IntsAt w u r) (hl2 : r.length ≤ maxLen) :
    Calls Try.prog 98 #[v, u] w fun e w' => e = .returned (.bool (decide (RowOk A.ac.length r))) ∧ Since w w' := by
  have HST : Hid (∀ (x : Int) W, Since w W → Calls Try.prog 52 #[v, .int .i64 x] W fun e w' => e = .returned (.bool (stB A.ac.length x)) ∧ Since W w') := fun x W hW => isState_any v A x W (h.since hW) hl
  obtain ⟨a, b, rfl, _, ha, hb⟩ := h
  obtain ⟨ao, ca, rfl⟩ := ha.len
  obtain ⟨bo, cb, rfl⟩ := hb.len
  obtain ⟨uo, uc, rfl, HC⟩ := hu.row
  unfold maxLen at hl2
  clear ha hb hu hl
  obtain ⟨na, hna⟩ : ∃ n, n = A.ac.length := ⟨_, rfl⟩
  rw [← hna] at HST ⊢
  obtain ⟨mb, hmb⟩ : ∃ n, n = A.nx.length := ⟨_, rfl⟩
  rw [← hmb] at HST ⊢
  clear hna hmb
  obtain ⟨y, hy⟩ : ∃ y, y = w.alloc (.cells #[.int .i64 A.st, .slice ao na ca, .slice bo mb cb] 27) := ⟨_, rfl⟩
  have hs0 : Since w y := by rw [hy]; exact (Since.refl w).alloc _
  have B0 : Hid (Blk y w.heap.size 27 #[.int .i64 A.st, .slice ao na ca, .slice bo mb cb]) := by rw [hy]; exact Blk.new rfl _ _
  obtain ⟨n, hn⟩ : ∃ n, n = r.length := ⟨_, rfl⟩
  rw [← hn] at hl2 ⊢
  by_cases h9 : n = 9
  · have hn9 : ((n : Int) != 9) = false := by simp; omega
    have HN := Lib.hid hn
    have HN9 := Lib.hid h9
    clear hn h9
    go_enter Try.func98, Try.ntmps98
    go_wp2
    rw [← hy]
    clear hy
    go_loopw [12] (fun i wr => ∃ k : Nat, k ≤ n ∧ i = .int .i64 k ∧ Hid (∀ j (hj : j < r.length), j < k → -1 ≤ r[j] ∧ r[j] < (na : Int)) ∧ Hid (Since y wr)) (fun i _ => n - (intOf i).toNat)
    case atStart => exact ⟨0, Nat.zero_le _, rfl, fun j _ hj => by omega, Since.refl _⟩
    case round =>
      obtain ⟨k, hk, rfl, HJ, HS⟩ := hrel
      by_cases hlt : k < n
      · have hx : k < r.length := by have := HN.out; omega
        obtain ⟨b1, off1, rfl, hb1, c1⟩ := HC.out k hx
        have c2 : wr.cell? ⟨b1, off1 + k, none⟩ = some (.int .i64 r[k]) := (Below.cell (hs0.trans HS.out) (p := ⟨b1, off1 + k, none⟩) hb1).trans c1
        obtain ⟨⟨p0, p1, p2⟩, _⟩ := (B0.out.since HS.out).threeA
        obtain ⟨x, hxx⟩ : ∃ x, x = r[k] := ⟨_, rfl⟩
        have HX := Lib.hid hxx
        rw [← hxx] at c2
        clear hxx c1
        by_cases e1 : x = -1
        · subst e1
          have HJ2 : Hid (∀ j (hj : j < r.length), j < k + 1 → -1 ≤ r[j] ∧ r[j] < (na : Int)) := by
            intro j hj hjk
            by_cases e : j = k
            · subst e; rw [← HX.out]; omega
            · exact HJ.out j hj (by omega)
          go_wp2
          go_roundw
          case rel => exact ⟨k + 1, by omega, by go_num, HJ2, HS.out⟩
          case measure => simp [intOf]; omega
        · have e2 : (x != -1) = true := by simpa using e1
          by_cases e3 : 0 ≤ x ∧ x < (na : Int)
          · have HB : Hid (stB na x = true) := by unfold Hid stB; simp; exact e3
            have HJ2 : Hid (∀ j (hj : j < r.length), j < k + 1 → -1 ≤ r[j] ∧ r[j] < (na : Int)) := by
              intro j hj hjk
              by_cases e : j = k
              · subst e; rw [← HX.out]; omega
              · exact HJ.out j hj (by omega)
            clear e3 e1
            go_wp2_with fail
            refine (HST.out x _ (hs0.trans HS.out)).mono ?_
            rintro e w1 ⟨rfl, hs1⟩
            rw [HB.out]
            have HS1 := Lib.hid (HS.out.trans hs1)
            go_wp2
            go_roundw
            case rel => exact ⟨k + 1, by omega, by go_num, HJ2, HS1.out⟩
            case measure => simp [intOf]; omega
          · have HB : Hid (stB na x = false) := by unfold Hid stB; simp; omega
            have HF : Hid (decide (RowOk na r) = false) := decide_eq_false (rowOk_bad k hx (by rw [← HX.out]; omega))
            clear e3 e1
            go_wp2_with fail
            refine (HST.out x _ (hs0.trans HS.out)).mono ?_
            rintro e w1 ⟨rfl, hs1⟩
            rw [HB.out]
            have HS1 := Lib.hid ((hs0.trans HS.out).trans hs1)
            go_wp2
            go_ret
            exact ⟨ret_bool HF.out.symm, HS1.out⟩
      · obtain rfl : k = n := by omega
        have HF : Hid (decide (RowOk na r) = true) := decide_eq_true (rowOk_of (by have := HN.out; have := HN9.out; omega) (fun j hj => HJ.out j hj (by have := HN.out; omega)))
        go_wp2
        go_ret
        exact ⟨ret_bool HF.out.symm, hs0.trans HS.out⟩
  · have hn9 : ((n : Int) != 9) = true := by simp; omega
    have HF : Hid (decide (RowOk na r) = false) := decide_eq_false (rowOk_len (by omega))
    clear h9 hn
    go_enter Try.func98, Try.ntmps98
    go_wp2
    go_ret
    exact ⟨ret_bool HF.out.symm, by rw [← hy]; exact hs0⟩
set_option maxHeartbeats 2000000 in
set_option maxRecDepth 100000 in
theorem implVA_any (v : Value) (A : Aut) (w : World) (h : AutAt w v A) (hm : MxA A) :
    Calls Try.prog 51 #[v] w fun e w' => e = .returned (.bool (validA A)) ∧ Since w w' := by
  have HST : Hid (∀ (x : Int) W, Since w W → Calls Try.prog 52 #[v, .int .i64 x] W fun e w' => e = .returned (.bool (stB A.ac.length x)) ∧ Since W w') := fun x W hW => isState_any v A x W (h.since hW) hm.1
  have HRW : Hid (∀ u r W, Since w W → IntsAt W u r → r.length ≤ maxLen → Calls Try.prog 98 #[v, u] W fun e w' => e = .returned (.bool (decide (RowOk A.ac.length r))) ∧ Since W w') := fun u r W hW hu hl => isRow_any v A u r W (h.since hW) hm.1 hu hl
  obtain ⟨hm1, hm2, hm3⟩ := hm
  have HL := Lib.hid hm3
  clear hm3
  unfold maxLen at hm1 hm2
  obtain ⟨a, b, rfl, _, ha, hb⟩ := h
  obtain ⟨ao, ca, rfl⟩ := ha.len
  obtain ⟨bo, cb, rfl, HC⟩ := hb
  clear ha
  obtain ⟨n, hn⟩ : ∃ n, n = A.ac.length := ⟨_, rfl⟩
  rw [← hn] at HST HRW hm1 ⊢
  obtain ⟨m, hm⟩ : ∃ m, m = A.nx.length := ⟨_, rfl⟩
  rw [← hm] at HST HRW hm2 ⊢
  have HN := Lib.hid hn
  have HM := Lib.hid hm
  obtain ⟨y, hy⟩ : ∃ y, y = w.alloc (.cells #[.int .i64 A.st, .slice ao n ca, .slice bo m cb] 27) := ⟨_, rfl⟩
  have hs0 : Since w y := by rw [hy]; exact (Since.refl w).alloc _
  have B0 : Hid (Blk y w.heap.size 27 #[.int .i64 A.st, .slice ao n ca, .slice bo m cb]) := by rw [hy]; exact Blk.new rfl _ _
  obtain ⟨⟨c0, c1, c2⟩, _⟩ := B0.out.threeA
  rw [hy] at c0 c1 c2
  have HY := Lib.hid hy
  clear hy
  by_cases e1 : 12 < n
  · have HF : Hid (validA A = false) := validA_n (by omega)
    have e1i : (12 : Int) < (n : Int) := by omega
    clear hn hm e1
    go_enter Try.func51, Try.ntmps51
    go_wp2
    go_ret
    exact ⟨ret_bool HF.out.symm, by rw [← HY.out]; exact hs0⟩
  by_cases e2 : m = n
  · have e2i : ((m : Int) != (n : Int)) = false := by simp; omega
    have e1i : ¬ (12 : Int) < (n : Int) := by omega
    cases e3 : stB n A.st with
    | false =>
      have HF : Hid (validA A = false) := validA_st (by rw [← hn]; exact e3)
      have HB := Lib.hid e3
      clear hn hm e1 e2 e3
      go_enter Try.func51, Try.ntmps51
      go_wp2_with fail
      rw [← HY.out]
      refine (HST.out A.st _ hs0).mono ?_
      rintro e w1 ⟨rfl, hs1⟩
      rw [HB.out]
      have HS1 := Lib.hid (hs0.trans hs1)
      go_wp2
      go_ret
      exact ⟨ret_bool HF.out.symm, HS1.out⟩
    | true =>
      have HB := Lib.hid e3
      have HE2 := Lib.hid e2
      have HE1 := Lib.hid e1
      clear hn hm e1 e2 e3
      go_enter Try.func51, Try.ntmps51
      go_wp2_with fail
      rw [← HY.out]
      refine (HST.out A.st _ hs0).mono ?_
      rintro e w1 ⟨rfl, hs1⟩
      rw [HB.out]
      have HS1 := Lib.hid (hs0.trans hs1)
      have B1 := Lib.hid (B0.out.since hs1)
      clear c0 c1 c2 B0 hs1
      obtain ⟨⟨c0, c1, c2⟩, _⟩ := B1.out.threeA
      go_wp2
      clear c0 c1 c2
      go_loopw [28] (fun i wr => ∃ k : Nat, k ≤ m ∧ i = .int .i64 k ∧ Hid (∀ j (hj : j < A.nx.length), j < k → RowOk n A.nx[j]) ∧ Hid (Since w1 wr)) (fun i _ => m - (intOf i).toNat)
      case atStart => exact ⟨0, Nat.zero_le _, rfl, fun j _ hj => by omega, Since.refl _⟩
      case round =>
        obtain ⟨k, hk, rfl, HJ, HS⟩ := hrel
        by_cases hlt : k < m
        · have hx : k < A.nx.length := by have := HM.out; omega
          obtain ⟨b1, off1, p, rfl, hb1, d1, g1⟩ := HC.out k hx
          have HW : Hid (Since w wr) := HS1.out.trans HS.out
          have d2 : wr.cell? ⟨b1, off1 + k, none⟩ = some p := (Below.cell HW.out (p := ⟨b1, off1 + k, none⟩) hb1).trans d1
          have HG := Lib.hid (g1.since HW.out)
          obtain ⟨po, pc, rfl, _⟩ := g1.row
          obtain ⟨⟨c0, c1, c2⟩, _⟩ := (B1.out.since HS.out).threeA
          clear d1 g1
          by_cases e4 : RowOk n A.nx[k]
          · have HD : Hid (decide (RowOk n A.nx[k]) = true) := decide_eq_true e4
            have HJ2 : Hid (∀ j (hj : j < A.nx.length), j < k + 1 → RowOk n A.nx[j]) := by
              intro j hj hjk
              by_cases e : j = k
              · subst e; exact e4
              · exact HJ.out j hj (by omega)
            clear e4
            go_wp2_with fail
            refine (HRW.out _ A.nx[k] _ HW.out HG.out (HL.out k hx)).mono ?_
            rintro e w2 ⟨rfl, hs2⟩
            rw [HD.out]
            have HS2 := Lib.hid (HS.out.trans hs2)
            go_wp2
            go_roundw
            case rel => exact ⟨k + 1, by omega, by go_num, HJ2, HS2.out⟩
            case measure => simp [intOf]; omega
          · have HD : Hid (decide (RowOk n A.nx[k]) = false) := decide_eq_false e4
            have HF : Hid (validA A = false) := validA_row k hx (by rw [← HN.out]; exact e4)
            clear e4
            go_wp2_with fail
            refine (HRW.out _ A.nx[k] _ HW.out HG.out (HL.out k hx)).mono ?_
            rintro e w2 ⟨rfl, hs2⟩
            rw [HD.out]
            have HS2 := Lib.hid (HW.out.trans hs2)
            go_wp2
            go_ret
            exact ⟨ret_bool HF.out.symm, HS2.out⟩
        · obtain rfl : k = m := by omega
          have HF : Hid (validA A = true) := by
            have h1 := HN.out
            have h2 := HM.out
            have h3 := HE2.out
            have h4 := HE1.out
            refine validA_all (by omega) (by omega) (by rw [← h1]; exact HB.out) (fun r hr => ?_)
            obtain ⟨j, hj, rfl⟩ := List.getElem_of_mem hr
            rw [← h1]; exact HJ.out j hj (by omega)
          go_wp2
          go_ret
          exact ⟨ret_bool HF.out.symm, HS1.out.trans HS.out⟩
  · have e2i : ((m : Int) != (n : Int)) = true := by simp; omega
    have e1i : ¬ (12 : Int) < (n : Int) := by omega
    have HF : Hid (validA A = false) := validA_m (by omega)
    clear hn hm e1 e2
    go_enter Try.func51, Try.ntmps51
    go_wp2
    go_ret
    exact ⟨ret_bool HF.out.symm, by rw [← HY.out]; exact hs0⟩
end Go.Proofs.Ytcokggjekleabaa
