/- AuV, AuS, AuR, AuW: small words and contracts that the other texts use. -/
import Derived.Test.YtmaagihfjldgeaaA1
import Derived.Test.YtmaagihfjldgeaaK0
import Derived.BigQuiet
import Derived.Deep.QuietTactic
import Derived.Test.YtmaagihfjldgeaaCopyLaw
import Derived.Test.YtmaagihfjldgeaaK1
/- IsValidAutomaton, the model's and the program's. -/
namespace Go.Proofs.Ytmaagihfjldgeaa
set_option maxRecDepth 100000
open Go.ChangeShapes Go.WideShapes Go.ChangeAt Go.RowKit
set_option linter.unusedVariables false
set_option linter.unusedSimpArgs false

theorem BgA.mx {A : Aut} (h : BgA A) : MxA A := by
  obtain ⟨h1, h2, h3⟩ := h
  unfold MxA maxLen
  exact ⟨by omega, by omega, fun i hi => by have := totS_get A.nx i hi; omega⟩
/-- a state of an automaton of n states. -/
def stB (n : Nat) (x : Int) : Bool := decide (0 ≤ x ∧ x < (n : Int))
theorem validA_n {A : Aut} (h : 12 < A.ac.length) : validA A = false := validA_false (fun k => by have := k.1; omega)
theorem validA_m {A : Aut} (h : A.nx.length ≠ A.ac.length) : validA A = false := validA_false (fun k => h k.2.2.1)
theorem validA_st {A : Aut} (h : stB A.ac.length A.st = false) : validA A = false := validA_false (fun k => by have := k.2.2.2.1; unfold stB at h; simp at h; omega)
theorem validA_row {A : Aut} (i : Nat) (hi : i < A.nx.length) (h : ¬ RowOk A.ac.length A.nx[i]) : validA A = false := validA_false (fun k => h (k.2.row i hi))
theorem validA_all {A : Aut} (h1 : A.ac.length ≤ 12) (h2 : A.nx.length = A.ac.length) (h3 : stB A.ac.length A.st = true) (h4 : ∀ r ∈ A.nx, RowOk A.ac.length r) : validA A = true :=
  validA_true h1 ⟨by omega, h2, by unfold stB at h3; simpa using h3, h4⟩
theorem rowOk_len {n : Nat} {r : List Int} (h : r.length ≠ 9) : ¬ RowOk n r := fun k => h k.1
theorem rowOk_bad {n : Nat} {r : List Int} (k : Nat) (hk : k < r.length) (h : ¬ (-1 ≤ r[k] ∧ r[k] < (n : Int))) : ¬ RowOk n r := fun q => h (q.at k hk)
set_option maxRecDepth 100000 in
theorem isState_any (v : Value) (A : Aut) (x : Int) (w : World) (h : AutAt w v A) (hl : A.ac.length ≤ maxLen) : Calls Try.prog 93 #[v, .int .i64 x] w fun e w' => e = .returned (.bool (stB A.ac.length x)) ∧ Since w w' := by
  obtain ⟨a, b, rfl, _, ha, hb⟩ := h
  obtain ⟨ao, ca, rfl⟩ := ha.len
  obtain ⟨bo, cb, rfl⟩ := hb.len
  unfold maxLen at hl
  clear ha hb
  obtain ⟨n, hn⟩ : ∃ n, n = A.ac.length := ⟨_, rfl⟩
  rw [← hn] at hl ⊢
  clear hn
  by_cases hx : 0 ≤ x
  · have hb : decide (x < (n : Int)) = stB n x := by unfold stB; simp [hx]
    have HB := Lib.hid hb
    clear hb
    go_enter Try.func93, Try.ntmps93
    go_wp2
    go_ret
    exact ⟨ret_bool HB.out, (Since.refl w).alloc _⟩
  · have HB : Hid (stB n x = false) := by unfold Hid stB; simp; omega
    go_enter Try.func93, Try.ntmps93
    go_wp2
    go_ret
    exact ⟨ret_bool HB.out.symm, (Since.refl w).alloc _⟩
set_option maxHeartbeats 1000000 in
set_option maxRecDepth 100000 in
theorem isRow_any (v : Value) (A : Aut) (u : Value) (r : List Int) (w : World) (h : AutAt w v A) (hl : A.ac.length ≤ maxLen) (hu : IntsAt w u r) (hl2 : r.length ≤ maxLen) :
    Calls Try.prog 147 #[v, u] w fun e w' => e = .returned (.bool (decide (RowOk A.ac.length r))) ∧ Since w w' := by
  have HST : Hid (∀ (x : Int) W, Since w W → Calls Try.prog 93 #[v, .int .i64 x] W fun e w' => e = .returned (.bool (stB A.ac.length x)) ∧ Since W w') := fun x W hW => isState_any v A x W (h.since hW) hl
  obtain ⟨a, b, rfl, _, ha, hb⟩ := h
  obtain ⟨ao, ca, rfl⟩ := ha.len
  obtain ⟨bo, cb, rfl⟩ := hb.len
  obtain ⟨uo, uc, rfl, HC⟩ := hu.row
  unfold maxLen at hl2
  clear ha hb hu hl
  obtain ⟨na, hna⟩ : ∃ n, n = A.ac.length := ⟨_, rfl⟩
  rw [← hna] at HST ⊢
  obtain ⟨mb, hmb⟩ : ∃ n, n = A.nx.length := ⟨_, rfl⟩
  rw [← hmb] at HST ⊢
  clear hna hmb
  obtain ⟨y, hy⟩ : ∃ y, y = w.alloc (.cells #[.int .i64 A.st, .slice ao na ca, .slice bo mb cb] 39) := ⟨_, rfl⟩
  have hs0 : Since w y := by rw [hy]; exact (Since.refl w).alloc _
  have B0 : Hid (Blk y w.heap.size 39 #[.int .i64 A.st, .slice ao na ca, .slice bo mb cb]) := by rw [hy]; exact Blk.new rfl _ _
  obtain ⟨n, hn⟩ : ∃ n, n = r.length := ⟨_, rfl⟩
  rw [← hn] at hl2 ⊢
  by_cases h9 : n = 9
  · have hn9 : ((n : Int) != 9) = false := by simp; omega
    have HN := Lib.hid hn
    have HN9 := Lib.hid h9
    clear hn h9
    go_enter Try.func147, Try.ntmps147
    go_wp2
    rw [← hy]
    clear hy
    go_loopw [12] (fun i wr => ∃ k : Nat, k ≤ n ∧ i = .int .i64 k ∧ Hid (∀ j (hj : j < r.length), j < k → -1 ≤ r[j] ∧ r[j] < (na : Int)) ∧ Hid (Since y wr)) (fun i _ => n - (intOf i).toNat)
    case atStart => exact ⟨0, Nat.zero_le _, rfl, fun j _ hj => by omega, Since.refl _⟩
    case round =>
      obtain ⟨k, hk, rfl, HJ, HS⟩ := hrel
      by_cases hlt : k < n
      · have hx : k < r.length := by have := HN.out; omega
        obtain ⟨b1, off1, rfl, hb1, c1⟩ := HC.out k hx
        have c2 : wr.cell? ⟨b1, off1 + k, none⟩ = some (.int .i64 r[k]) := (Below.cell (hs0.trans HS.out) (p := ⟨b1, off1 + k, none⟩) hb1).trans c1
        obtain ⟨⟨p0, p1, p2⟩, _⟩ := (B0.out.since HS.out).threeA
        obtain ⟨x, hxx⟩ : ∃ x, x = r[k] := ⟨_, rfl⟩
        have HX := Lib.hid hxx
        rw [← hxx] at c2
        clear hxx c1
        by_cases e1 : x = -1
        · subst e1
          have HJ2 : Hid (∀ j (hj : j < r.length), j < k + 1 → -1 ≤ r[j] ∧ r[j] < (na : Int)) := by
            intro j hj hjk
            by_cases e : j = k
            · subst e; rw [← HX.out]; omega
            · exact HJ.out j hj (by omega)
          go_wp2
          go_roundw
          case rel => exact ⟨k + 1, by omega, by go_num, HJ2, HS.out⟩
          case measure => simp [intOf]; omega
        · have e2 : (x != -1) = true := by simpa using e1
          by_cases e3 : 0 ≤ x ∧ x < (na : Int)
          · have HB : Hid (stB na x = true) := by unfold Hid stB; simp; exact e3
            have HJ2 : Hid (∀ j (hj : j < r.length), j < k + 1 → -1 ≤ r[j] ∧ r[j] < (na : Int)) := by
              intro j hj hjk
              by_cases e : j = k
              · subst e; rw [← HX.out]; omega
              · exact HJ.out j hj (by omega)
            clear e3 e1
            go_wp2_with fail
            refine (HST.out x _ (hs0.trans HS.out)).mono ?_
            rintro e w1 ⟨rfl, hs1⟩
            rw [HB.out]
            have HS1 := Lib.hid (HS.out.trans hs1)
            go_wp2
            go_roundw
            case rel => exact ⟨k + 1, by omega, by go_num, HJ2, HS1.out⟩
            case measure => simp [intOf]; omega
          · have HB : Hid (stB na x = false) := by unfold Hid stB; simp; omega
            have HF : Hid (decide (RowOk na r) = false) := decide_eq_false (rowOk_bad k hx (by rw [← HX.out]; omega))
            clear e3 e1
            go_wp2_with fail
            refine (HST.out x _ (hs0.trans HS.out)).mono ?_
            rintro e w1 ⟨rfl, hs1⟩
            rw [HB.out]
            have HS1 := Lib.hid ((hs0.trans HS.out).trans hs1)
            go_wp2
            go_ret
            exact ⟨ret_bool HF.out.symm, HS1.out⟩
      · obtain rfl : k = n := by omega
        have HF : Hid (decide (RowOk na r) = true) := decide_eq_true (rowOk_of (by have := HN.out; have := HN9.out; omega) (fun j hj => HJ.out j hj (by have := HN.out; omega)))
        go_wp2
        go_ret
        exact ⟨ret_bool HF.out.symm, hs0.trans HS.out⟩
  · have hn9 : ((n : Int) != 9) = true := by simp; omega
    have HF : Hid (decide (RowOk na r) = false) := decide_eq_false (rowOk_len (by omega))
    clear h9 hn
    go_enter Try.func147, Try.ntmps147
    go_wp2
    go_ret
    exact ⟨ret_bool HF.out.symm, by rw [← hy]; exact hs0⟩
set_option maxHeartbeats 2000000 in
set_option maxRecDepth 100000 in
theorem implVA_any (v : Value) (A : Aut) (w : World) (h : AutAt w v A) (hm : MxA A) :
    Calls Try.prog 92 #[v] w fun e w' => e = .returned (.bool (validA A)) ∧ Since w w' := by
  have HST : Hid (∀ (x : Int) W, Since w W → Calls Try.prog 93 #[v, .int .i64 x] W fun e w' => e = .returned (.bool (stB A.ac.length x)) ∧ Since W w') := fun x W hW => isState_any v A x W (h.since hW) hm.1
  have HRW : Hid (∀ u r W, Since w W → IntsAt W u r → r.length ≤ maxLen → Calls Try.prog 147 #[v, u] W fun e w' => e = .returned (.bool (decide (RowOk A.ac.length r))) ∧ Since W w') := fun u r W hW hu hl => isRow_any v A u r W (h.since hW) hm.1 hu hl
  obtain ⟨hm1, hm2, hm3⟩ := hm
  have HL := Lib.hid hm3
  clear hm3
  unfold maxLen at hm1 hm2
  obtain ⟨a, b, rfl, _, ha, hb⟩ := h
  obtain ⟨ao, ca, rfl⟩ := ha.len
  obtain ⟨bo, cb, rfl, HC⟩ := hb
  clear ha
  obtain ⟨n, hn⟩ : ∃ n, n = A.ac.length := ⟨_, rfl⟩
  rw [← hn] at HST HRW hm1 ⊢
  obtain ⟨m, hm⟩ : ∃ m, m = A.nx.length := ⟨_, rfl⟩
  rw [← hm] at HST HRW hm2 ⊢
  have HN := Lib.hid hn
  have HM := Lib.hid hm
  obtain ⟨y, hy⟩ : ∃ y, y = w.alloc (.cells #[.int .i64 A.st, .slice ao n ca, .slice bo m cb] 39) := ⟨_, rfl⟩
  have hs0 : Since w y := by rw [hy]; exact (Since.refl w).alloc _
  have B0 : Hid (Blk y w.heap.size 39 #[.int .i64 A.st, .slice ao n ca, .slice bo m cb]) := by rw [hy]; exact Blk.new rfl _ _
  obtain ⟨⟨c0, c1, c2⟩, _⟩ := B0.out.threeA
  rw [hy] at c0 c1 c2
  have HY := Lib.hid hy
  clear hy
  by_cases e1 : 12 < n
  · have HF : Hid (validA A = false) := validA_n (by omega)
    have e1i : (12 : Int) < (n : Int) := by omega
    clear hn hm e1
    go_enter Try.func92, Try.ntmps92
    go_wp2
    go_ret
    exact ⟨ret_bool HF.out.symm, by rw [← HY.out]; exact hs0⟩
  by_cases e2 : m = n
  · have e2i : ((m : Int) != (n : Int)) = false := by simp; omega
    have e1i : ¬ (12 : Int) < (n : Int) := by omega
    cases e3 : stB n A.st with
    | false =>
      have HF : Hid (validA A = false) := validA_st (by rw [← hn]; exact e3)
      have HB := Lib.hid e3
      clear hn hm e1 e2 e3
      go_enter Try.func92, Try.ntmps92
      go_wp2_with fail
      rw [← HY.out]
      refine (HST.out A.st _ hs0).mono ?_
      rintro e w1 ⟨rfl, hs1⟩
      rw [HB.out]
      have HS1 := Lib.hid (hs0.trans hs1)
      go_wp2
      go_ret
      exact ⟨ret_bool HF.out.symm, HS1.out⟩
    | true =>
      have HB := Lib.hid e3
      have HE2 := Lib.hid e2
      have HE1 := Lib.hid e1
      clear hn hm e1 e2 e3
      go_enter Try.func92, Try.ntmps92
      go_wp2_with fail
      rw [← HY.out]
      refine (HST.out A.st _ hs0).mono ?_
      rintro e w1 ⟨rfl, hs1⟩
      rw [HB.out]
      have HS1 := Lib.hid (hs0.trans hs1)
      have B1 := Lib.hid (B0.out.since hs1)
      clear c0 c1 c2 B0 hs1
      obtain ⟨⟨c0, c1, c2⟩, _⟩ := B1.out.threeA
      go_wp2
      clear c0 c1 c2
      go_loopw [28] (fun i wr => ∃ k : Nat, k ≤ m ∧ i = .int .i64 k ∧ Hid (∀ j (hj : j < A.nx.length), j < k → RowOk n A.nx[j]) ∧ Hid (Since w1 wr)) (fun i _ => m - (intOf i).toNat)
      case atStart => exact ⟨0, Nat.zero_le _, rfl, fun j _ hj => by omega, Since.refl _⟩
      case round =>
        obtain ⟨k, hk, rfl, HJ, HS⟩ := hrel
        by_cases hlt : k < m
        · have hx : k < A.nx.length := by have := HM.out; omega
          obtain ⟨b1, off1, p, rfl, hb1, d1, g1⟩ := HC.out k hx
          have HW : Hid (Since w wr) := HS1.out.trans HS.out
          have d2 : wr.cell? ⟨b1, off1 + k, none⟩ = some p := (Below.cell HW.out (p := ⟨b1, off1 + k, none⟩) hb1).trans d1
          have HG := Lib.hid (g1.since HW.out)
          obtain ⟨po, pc, rfl, _⟩ := g1.row
          obtain ⟨⟨c0, c1, c2⟩, _⟩ := (B1.out.since HS.out).threeA
          clear d1 g1
          by_cases e4 : RowOk n A.nx[k]
          · have HD : Hid (decide (RowOk n A.nx[k]) = true) := decide_eq_true e4
            have HJ2 : Hid (∀ j (hj : j < A.nx.length), j < k + 1 → RowOk n A.nx[j]) := by
              intro j hj hjk
              by_cases e : j = k
              · subst e; exact e4
              · exact HJ.out j hj (by omega)
            clear e4
            go_wp2_with fail
            refine (HRW.out _ A.nx[k] _ HW.out HG.out (HL.out k hx)).mono ?_
            rintro e w2 ⟨rfl, hs2⟩
            rw [HD.out]
            have HS2 := Lib.hid (HS.out.trans hs2)
            go_wp2
            go_roundw
            case rel => exact ⟨k + 1, by omega, by go_num, HJ2, HS2.out⟩
            case measure => simp [intOf]; omega
          · have HD : Hid (decide (RowOk n A.nx[k]) = false) := decide_eq_false e4
            have HF : Hid (validA A = false) := validA_row k hx (by rw [← HN.out]; exact e4)
            clear e4
            go_wp2_with fail
            refine (HRW.out _ A.nx[k] _ HW.out HG.out (HL.out k hx)).mono ?_
            rintro e w2 ⟨rfl, hs2⟩
            rw [HD.out]
            have HS2 := Lib.hid (HW.out.trans hs2)
            go_wp2
            go_ret
            exact ⟨ret_bool HF.out.symm, HS2.out⟩
        · obtain rfl : k = m := by omega
          have HF : Hid (validA A = true) := by
            have h1 := HN.out
            have h2 := HM.out
            have h3 := HE2.out
            have h4 := HE1.out
            refine validA_all (by omega) (by omega) (by rw [← h1]; exact HB.out) (fun r hr => ?_)
            obtain ⟨j, hj, rfl⟩ := List.getElem_of_mem hr
            rw [← h1]; exact HJ.out j hj (by omega)
          go_wp2
          go_ret
          exact ⟨ret_bool HF.out.symm, HS1.out.trans HS.out⟩
  · have e2i : ((m : Int) != (n : Int)) = true := by simp; omega
    have e1i : ¬ (12 : Int) < (n : Int) := by omega
    have HF : Hid (validA A = false) := validA_m (by omega)
    clear hn hm e1 e2
    go_enter Try.func92, Try.ntmps92
    go_wp2
    go_ret
    exact ⟨ret_bool HF.out.symm, by rw [← HY.out]; exact hs0⟩
end Go.Proofs.Ytmaagihfjldgeaa

/- IsValidAutomaton, the model's. -/
namespace Go.Proofs.Ytmaagihfjldgeaa
set_option maxRecDepth 100000
open Go.ChangeShapes Go.WideShapes Go.ChangeAt Go.RowKit
set_option linter.unusedVariables false
set_option linter.unusedSimpArgs false

def FitsA (A : Aut) : Prop := A.nx.length = A.ac.length ∧ (0 ≤ A.st ∧ A.st < (A.ac.length : Int)) ∧ ∀ r ∈ A.nx, RowOk A.ac.length r
instance (A : Aut) : Decidable (FitsA A) := by unfold FitsA; exact inferInstance
def fitsA (A : Aut) : Bool := decide (FitsA A)
theorem fitsA_m {A : Aut} (h : A.nx.length ≠ A.ac.length) : fitsA A = false := decide_eq_false (fun k => h k.1)
theorem fitsA_st {A : Aut} (m : Int) (hm : m = (A.ac.length : Int) - 1) (h : inB A.st 0 m = false) : fitsA A = false := decide_eq_false (fun k => by have := k.2.1; unfold inB at h; simp at h; omega)
theorem fitsA_row {A : Aut} (i : Nat) (hi : i < A.nx.length) (h : ¬ RowOk A.ac.length A.nx[i]) : fitsA A = false := decide_eq_false (fun k => h (k.2.2 _ (List.getElem_mem hi)))
theorem fitsA_all {A : Aut} (m : Int) (hm : m = (A.ac.length : Int) - 1) (h2 : A.nx.length = A.ac.length) (h3 : inB A.st 0 m = true) (h4 : ∀ j (hj : j < A.nx.length), RowOk A.ac.length A.nx[j]) : fitsA A = true :=
  decide_eq_true ⟨h2, by unfold inB at h3; simp at h3; omega, fun r hr => by obtain ⟨j, hj, rfl⟩ := List.getElem_of_mem hr; exact h4 j hj⟩
theorem validA_fits {A : Aut} (h : A.ac.length ≤ 12) : validA A = fitsA A := by
  unfold validA fitsA
  by_cases k : FitsA A
  · rw [decide_eq_true k]; exact decide_eq_true ⟨h, by omega, k⟩
  · rw [decide_eq_false k]; exact decide_eq_false (fun q => k q.2.2)
set_option maxHeartbeats 2000000 in
set_option maxRecDepth 100000 in
theorem fits_any (v : Value) (A : Aut) (w : World) (h : AutAt w v A) (hm : MxA A) :
    Calls Try.prog 101 #[v] w fun e w' => e = .returned (.bool (fitsA A)) ∧ Since w w' := by
  obtain ⟨hm1, hm2, hm3⟩ := hm
  have HL := Lib.hid hm3
  clear hm3
  unfold maxLen at hm1 hm2
  obtain ⟨a, b, rfl, _, ha, hb⟩ := h
  obtain ⟨ao, ca, rfl⟩ := ha.len
  obtain ⟨bo, cb, rfl, HC⟩ := hb
  clear ha
  obtain ⟨n, hn⟩ : ∃ n, n = A.ac.length := ⟨_, rfl⟩
  rw [← hn] at hm1 ⊢
  obtain ⟨m, hm⟩ : ∃ m, m = A.nx.length := ⟨_, rfl⟩
  rw [← hm] at hm2 ⊢
  have HN := Lib.hid hn
  have HM := Lib.hid hm
  obtain ⟨y, hy⟩ : ∃ y, y = w.alloc (.cells #[.int .i64 A.st, .slice ao n ca, .slice bo m cb] 39) := ⟨_, rfl⟩
  have hs0 : Since w y := by rw [hy]; exact (Since.refl w).alloc _
  have B0 : Hid (Blk y w.heap.size 39 #[.int .i64 A.st, .slice ao n ca, .slice bo m cb]) := by rw [hy]; exact Blk.new rfl _ _
  obtain ⟨⟨c0, c1, c2⟩, _⟩ := B0.out.threeA
  rw [hy] at c0 c1 c2
  have HY := Lib.hid hy
  clear hy
  obtain ⟨t, ht⟩ : ∃ t : Int, t = (n : Int) - 1 := ⟨_, rfl⟩
  have HT := Lib.hid ht
  have HT2 : Hid (t = (A.ac.length : Int) - 1) := by rw [ht, hn]; rfl
  cases e3 : inB A.st 0 t with
  | false =>
    have HF : Hid (fitsA A = false) := fitsA_st t HT2.out e3
    have HB := Lib.hid e3
    clear hn hm e3 ht
    go_enter Try.func101, Try.ntmps101
    go_wp2_with fail
    rw [← HY.out, ← HT.out]
    refine (l1In_any A.st 0 t _).mono ?_
    rintro e w1 ⟨rfl, rfl⟩
    rw [HB.out]
    go_wp2
    go_ret
    exact ⟨ret_bool HF.out.symm, hs0⟩
  | true =>
    have HB := Lib.hid e3
    by_cases e2 : m = n
    · have e2i : ((m : Int) != (n : Int)) = false := by simp; omega
      have HE2 := Lib.hid e2
      clear hn hm e3 ht e2
      go_enter Try.func101, Try.ntmps101
      go_wp2_with fail
      rw [← HY.out, ← HT.out]
      refine (l1In_any A.st 0 t _).mono ?_
      rintro e w1 ⟨rfl, rfl⟩
      rw [HB.out]
      rw [← HY.out] at c0 c1 c2
      go_wp2
      clear c0 c1 c2
      go_loopw [4] (fun i wr => ∃ k : Nat, k ≤ n ∧ i = .int .i64 k ∧ Hid (∀ j (hj : j < A.nx.length), j < k → RowOk n A.nx[j]) ∧ Hid (Since y wr)) (fun i _ => n - (intOf i).toNat)
      case atStart => exact ⟨0, Nat.zero_le _, rfl, fun j _ hj => by omega, Since.refl _⟩
      case round =>
        obtain ⟨k, hk, rfl, HJ, HS⟩ := hrel
        by_cases hlt : k < n
        · have hx : k < A.nx.length := by have := HM.out; have := HE2.out; omega
          have hkm : k < m := by have := HE2.out; omega
          obtain ⟨b1, off1, p, rfl, hb1, d1, g1⟩ := HC.out k hx
          have HW : Hid (Since w wr) := hs0.trans HS.out
          have d2 : wr.cell? ⟨b1, off1 + k, none⟩ = some p := (Below.cell HW.out (p := ⟨b1, off1 + k, none⟩) hb1).trans d1
          have HD2 := Lib.hid d2
          have HG := Lib.hid (g1.since HW.out)
          obtain ⟨po, pc, rfl, HR⟩ := g1.row
          obtain ⟨⟨c0, c1, c2⟩, _⟩ := (B0.out.since HS.out).threeA
          have hll := HL.out k hx
          obtain ⟨q, hq⟩ : ∃ q, q = (A.nx[k]).length := ⟨_, rfl⟩
          rw [← hq] at d2 HD2 hll
          unfold maxLen at hll
          clear d1 g1
          by_cases e9 : q = 9
          · have e9i : ((q : Int) != 9) = false := by simp; omega
            have HQ := Lib.hid hq
            have H9 := Lib.hid e9
            clear hq e9
            have HWr : Hid (∀ W, Since wr W → Since y W) := fun W h => HS.out.trans h
            go_wp2
            clear c0 c1 c2
            go_loopw [5] (fun i wz => ∃ z : Nat, z ≤ 9 ∧ i = .int .i64 z ∧ Hid (∀ j (hj : j < (A.nx[k]).length), j < z → -1 ≤ (A.nx[k])[j] ∧ (A.nx[k])[j] < (n : Int)) ∧ wz = wr) (fun i _ => 9 - (intOf i).toNat)
            case atStart => exact ⟨0, Nat.zero_le _, rfl, fun j _ hj => by omega, rfl⟩
            case round =>
              obtain ⟨z, hz, rfl, HZ, rfl⟩ := hrel
              obtain ⟨⟨c0, c1, c2⟩, _⟩ := (B0.out.since HS.out).threeA
              have d2 := HD2.out
              by_cases hzt : z < 9
              · have hzx : z < (A.nx[k]).length := by have := HQ.out; have := H9.out; omega
                have hzq : z < q := by have := H9.out; omega
                have hzi : (z : Int) < 9 := by omega
                obtain ⟨b2, off2, rfl, hb2, c3⟩ := HR.out z hzx
                have c4 : wr.cell? ⟨b2, off2 + z, none⟩ = some (.int .i64 (A.nx[k])[z]) := (Below.cell HW.out (p := ⟨b2, off2 + z, none⟩) hb2).trans c3
                obtain ⟨x, hxx⟩ : ∃ x, x = (A.nx[k])[z] := ⟨_, rfl⟩
                have HX := Lib.hid hxx
                rw [← hxx] at c4
                clear hxx c3
                cases e4 : inB x (-1) t with
                | true =>
                  have HB4 := Lib.hid e4
                  have HZ2 : Hid (∀ j (hj : j < (A.nx[k]).length), j < z + 1 → -1 ≤ (A.nx[k])[j] ∧ (A.nx[k])[j] < (n : Int)) := by
                    intro j hj hjk
                    by_cases e : j = z
                    · subst e
                      rw [← HX.out]
                      have h5 := e4
                      have h6 := HT.out
                      unfold inB at h5; simp at h5; omega
                    · exact HZ.out j hj (by omega)
                  clear e4
                  go_wp2_with fail
                  rw [← HT.out]
                  refine (l1In_any x (-1) t _).mono ?_
                  rintro e w1 ⟨rfl, rfl⟩
                  rw [HB4.out]
                  go_wp2
                  go_roundw
                  case rel => exact ⟨z + 1, by omega, by go_num, HZ2, by first | exact rfl | trivial⟩
                  case measure => simp [intOf]; omega
                | false =>
                  have HB4 := Lib.hid e4
                  have HF : Hid (fitsA A = false) := by
                    refine fitsA_row k hx (rowOk_bad z hzx ?_)
                    have h5 := e4
                    have h6 := HT2.out
                    have h7 := HX.out
                    unfold inB at h5; simp at h5
                    rw [← h7]; omega
                  clear e4
                  go_wp2_with fail
                  rw [← HT.out]
                  refine (l1In_any x (-1) t _).mono ?_
                  rintro e w1 ⟨rfl, rfl⟩
                  rw [HB4.out]
                  go_wp2
                  go_ret
                  exact ⟨ret_bool HF.out.symm, HW.out⟩
              · have hz9 : z = 9 := by omega
                subst hz9
                have HJ2 : Hid (∀ j (hj : j < A.nx.length), j < k + 1 → RowOk n A.nx[j]) := by
                  intro j hj hjk
                  by_cases e : j = k
                  · subst e
                    exact rowOk_of (by have := HQ.out; have := H9.out; omega) (fun i hi => HZ.out i hi (by have := HQ.out; have := H9.out; omega))
                  · exact HJ.out j hj (by omega)
                go_wp2
                go_roundw
                case rel => exact ⟨k + 1, by omega, by go_num, HJ2, HS.out⟩
                case measure => simp [intOf]; omega
          · have e9i : ((q : Int) != 9) = true := by simp; omega
            have HF : Hid (fitsA A = false) := fitsA_row k hx (rowOk_len (by omega))
            clear hq e9
            go_wp2
            go_ret
            exact ⟨ret_bool HF.out.symm, HW.out⟩
        · obtain rfl : k = n := by omega
          have HF : Hid (fitsA A = true) := by
            have h1 := HN.out
            have h2 := HM.out
            have h3 := HE2.out
            refine fitsA_all t HT2.out (by omega) HB.out (fun j hj => ?_)
            rw [← h1]; exact HJ.out j hj (by omega)
          go_wp2
          go_ret
          exact ⟨ret_bool HF.out.symm, hs0.trans HS.out⟩
    · have e2i : ((m : Int) != (n : Int)) = true := by simp; omega
      have HF : Hid (fitsA A = false) := fitsA_m (by omega)
      clear hn hm e3 ht e2
      go_enter Try.func101, Try.ntmps101
      go_wp2_with fail
      rw [← HY.out, ← HT.out]
      refine (l1In_any A.st 0 t _).mono ?_
      rintro e w1 ⟨rfl, rfl⟩
      rw [HB.out]
      rw [← HY.out] at c0 c1 c2
      go_wp2
      go_ret
      exact ⟨ret_bool HF.out.symm, hs0⟩
set_option maxRecDepth 100000 in
theorem specVA_any (v : Value) (A : Aut) (w : World) (h : AutAt w v A) (hm : MxA A) :
    Calls Try.prog 34 #[v] w fun e w' => e = .returned (.bool (validA A)) ∧ Since w w' := by
  have HFT : Hid (∀ W, Since w W → Calls Try.prog 101 #[v] W fun e w' => e = .returned (.bool (fitsA A)) ∧ Since W w') := fun W hW => fits_any v A W (h.since hW) hm
  obtain ⟨hm1, hm2, hm3⟩ := hm
  unfold maxLen at hm1 hm2
  obtain ⟨a, b, rfl, _, ha, hb⟩ := h
  obtain ⟨ao, ca, rfl⟩ := ha.len
  obtain ⟨bo, cb, rfl⟩ := hb.len
  clear ha hb hm3
  obtain ⟨n, hn⟩ : ∃ n, n = A.ac.length := ⟨_, rfl⟩
  rw [← hn] at HFT hm1 ⊢
  obtain ⟨m, hm⟩ : ∃ m, m = A.nx.length := ⟨_, rfl⟩
  rw [← hm] at HFT hm2 ⊢
  have hs0 : Since w (w.alloc (.cells #[.int .i64 A.st, .slice ao n ca, .slice bo m cb] 39)) := (Since.refl w).alloc _
  by_cases e1 : n ≤ 12
  · have HE : Hid (validA A = fitsA A) := validA_fits (by omega)
    have e1i : (n : Int) ≤ 12 := by omega
    clear hn hm
    go_enter Try.func34, Try.ntmps34
    go_wp2_with fail
    refine (HFT.out _ hs0).mono ?_
    rintro e w1 ⟨rfl, hs1⟩
    rw [← HE.out]
    have hs01 := hs0.trans hs1
    go_wp2
    go_ret
    exact ⟨rfl, hs01⟩
  · have HF : Hid (validA A = false) := validA_n (by omega)
    have e1i : ¬ (n : Int) ≤ 12 := by omega
    clear hn hm e1
    go_enter Try.func34, Try.ntmps34
    go_wp2
    go_ret
    exact ⟨ret_bool HF.out.symm, hs0⟩
end Go.Proofs.Ytmaagihfjldgeaa

/- RunWord and AcceptsWord, the model's and the program's. -/
namespace Go.Proofs.Ytmaagihfjldgeaa
set_option maxRecDepth 100000
open Go.ChangeShapes Go.WideShapes Go.ChangeAt Go.RowKit
set_option linter.unusedVariables false
set_option linter.unusedSimpArgs false

/-- Where the transitions of a valid automaton lie. -/
theorem next_cells {w : World} {A : Aut} {bo : Option Addr} (hv : ValidA A) (h : Hid (∀ i (h : i < A.nx.length), ∃ b off p, bo = some ⟨b, off, none⟩ ∧ b < w.heap.size ∧ w.cell? ⟨b, off + i, none⟩ = some p ∧ IntsAt w p A.nx[i])) (t : Nat) (ht : t < A.ac.length) :
    ∃ b off b2 off2 c2, bo = some ⟨b, off, none⟩ ∧ b < w.heap.size ∧ w.cell? ⟨b, off + t, none⟩ = some (.slice (some ⟨b2, off2, none⟩) 9 c2) ∧ b2 < w.heap.size ∧ ∀ k : Nat, k < 9 → w.cell? ⟨b2, off2 + k, none⟩ = some (.int .i64 (nextA A.nx t k)) := by
  have ht2 : t < A.nx.length := by have := hv.2.1; omega
  obtain ⟨b, off, p, e, hb, c0, g⟩ := h.out t ht2
  have hr := hv.row t ht2
  obtain ⟨vo, vc, rfl, HR⟩ := g.row
  obtain ⟨b2, off2, e2, hb2, _⟩ := HR.out 0 (by have := hr.1; omega)
  subst e2
  refine ⟨b, off, b2, off2, vc, e, hb, by rw [hr.1] at c0; exact c0, hb2, fun k hk => ?_⟩
  have hk2 : k < (A.nx[t]).length := by have := hr.1; omega
  obtain ⟨b3, off3, e3, _, c3⟩ := HR.out k hk2
  injection e3 with e3
  injection e3 with e4 e5
  rw [e4, e5, nextA_at A.nx t k ht2 hk2]
  exact c3
set_option maxHeartbeats 2000000 in
set_option maxRecDepth 100000 in
theorem l11Run_any (v : Value) (A : Aut) (s : Int) (u : Value) (ws : List Int) (w : World) (h : AutAt w v A) (hv : ValidA A) (hs : -1 ≤ s ∧ s < (A.ac.length : Int)) (hu : IntsAt w u ws) (hl : ws.length ≤ maxLen) :
    Calls Try.prog 167 #[v, .int .i64 s, u] w fun e w' => e = .returned (.int .i64 (runL A.nx s ws)) ∧ Since w w' := by
  obtain ⟨a, b, rfl, _, ha, hb⟩ := h
  obtain ⟨ao, ca, rfl⟩ := ha.len
  obtain ⟨bo, cb, rfl, HC⟩ := hb
  obtain ⟨uo, uc, rfl, HU⟩ := hu.row
  clear ha hu
  unfold maxLen at hl
  have HV := Lib.hid hv
  have hn12 := hv.1
  have hnm : A.nx.length = A.ac.length := hv.2.1
  rw [hnm]
  obtain ⟨n, hn⟩ : ∃ n, n = A.ac.length := ⟨_, rfl⟩
  rw [← hn] at hs hn12 ⊢
  obtain ⟨m, hm⟩ : ∃ m, m = ws.length := ⟨_, rfl⟩
  rw [← hm] at hl ⊢
  have HN := Lib.hid hn
  have HM := Lib.hid hm
  obtain ⟨R, hR⟩ : ∃ R, R = runL A.nx s ws := ⟨_, rfl⟩
  rw [← hR]
  have HR0 : Hid (runL A.nx s (ws.drop 0) = R) := by rw [hR]; rfl
  clear hn hm hR hv hnm
  obtain ⟨y, hy⟩ : ∃ y, y = w.alloc (.cells #[.int .i64 A.st, .slice ao n ca, .slice bo n cb] 39) := ⟨_, rfl⟩
  have hs0 : Since w y := by rw [hy]; exact (Since.refl w).alloc _
  have B0 : Hid (Blk y w.heap.size 39 #[.int .i64 A.st, .slice ao n ca, .slice bo n cb]) := by rw [hy]; exact Blk.new rfl _ _
  have HY := Lib.hid hy
  clear hy
  go_enter Try.func167, Try.ntmps167
  go_wp2
  rw [← HY.out]
  go_loopw [1, 7] (fun q i wr => ∃ (k : Nat) (s1 : Int), k ≤ m ∧ i = .int .i64 k ∧ q = .int .i64 s1 ∧ -1 ≤ s1 ∧ s1 < (n : Int) ∧ Hid (runL A.nx s1 (ws.drop k) = R) ∧ Hid (Since y wr)) (fun _ i _ => m - (intOf i).toNat)
  case atStart => exact ⟨0, s, Nat.zero_le _, rfl, rfl, hs.1, hs.2, HR0, Since.refl _⟩
  case round =>
    obtain ⟨k, s1, hk, rfl, rfl, hs1, hs2, HR, HS⟩ := hrel
    by_cases hlt : k < m
    · have hki : (k : Int) < (m : Int) := by omega
      by_cases hneg : s1 = -1
      · subst hneg
        have HF : Hid ((-1 : Int) = R) := by rw [← HR.out]; exact (runL_negAt _ _ _ _ rfl).symm
        go_wp2
        go_ret
        exact ⟨ret_int HF.out, hs0.trans HS.out⟩
      · obtain ⟨t, rfl⟩ : ∃ t : Nat, s1 = t := ⟨s1.toNat, by omega⟩
        have ht0 : (0 : Int) ≤ (t : Int) := by omega
        have htn : t < n := by omega
        clear hneg
        have hx : k < ws.length := by have := HM.out; omega
        obtain ⟨b1, off1, rfl, hb1, d1⟩ := HU.out k hx
        have HW : Hid (Since w wr) := hs0.trans HS.out
        have d2 : wr.cell? ⟨b1, off1 + k, none⟩ = some (.int .i64 ws[k]) := (Below.cell HW.out (p := ⟨b1, off1 + k, none⟩) hb1).trans d1
        clear d1
        obtain ⟨x, hxx⟩ : ∃ x, x = ws[k] := ⟨_, rfl⟩
        have HX := Lib.hid hxx
        rw [← hxx] at d2
        cases e4 : inB x 0 8 with
        | false =>
          have HB4 := Lib.hid e4
          have HF : Hid ((-1 : Int) = R) := by rw [← HR.out]; exact (runL_bad _ _ _ hx _ (by rw [← hxx]; exact e4)).symm
          clear e4 hxx
          go_wp2_with fail
          refine (l2Letter_any x _).mono ?_
          rintro e w1 ⟨rfl, rfl⟩
          rw [HB4.out]
          go_wp2
          go_ret
          exact ⟨ret_int HF.out, HW.out⟩
        | true =>
          have HB4 := Lib.hid e4
          have hx8 : 0 ≤ x ∧ x ≤ 8 := by simpa [inB] using e4
          obtain ⟨z, hz⟩ : ∃ z : Nat, x = z := ⟨x.toNat, by omega⟩
          have hz9 : z < 9 := by omega
          have hst := nextA_in HV.out (t : Int) (x : Int) ⟨ht0, by rw [← HN.out]; omega⟩ e4
          obtain ⟨_, _, _, hb5, hb6⟩ := hst
          rw [← HN.out] at hb6
          have HR2 : Hid (runL A.nx (nextA A.nx t x) (ws.drop (k + 1)) = R) := by
            rw [← HR.out, hxx]; exact (runL_step A.nx ws k hx (t : Int) ht0 (by rw [← hxx]; exact e4)).symm
          obtain ⟨c1, o1, c2, o2, cc, rfl, hc1, hcell, hc2, hcs⟩ := next_cells HV.out HC t (by rw [← HN.out]; exact htn)
          have hcz := hcs z hz9
          rw [← hz] at hcz
          obtain ⟨q, hq⟩ : ∃ q, q = nextA A.nx t x := ⟨_, rfl⟩
          rw [← hq] at hcz HR2 hb5 hb6
          have f1 : wr.cell? ⟨c1, o1 + t, none⟩ = some (.slice (some ⟨c2, o2, none⟩) 9 cc) := (Below.cell HW.out (p := ⟨c1, o1 + t, none⟩) hc1).trans hcell
          have f2 : wr.cell? ⟨c2, o2 + z, none⟩ = some (.int .i64 q) := (Below.cell HW.out (p := ⟨c2, o2 + z, none⟩) hc2).trans hcz
          obtain ⟨⟨p0, p1, p2⟩, _⟩ := (B0.out.since HS.out).threeA
          clear e4 hxx hcell hcz hcs hq HX
          rw [hz] at d2 HB4
          clear hz hx8
          have hti : (t : Int) < (n : Int) := by omega
          have hz0 : (0 : Int) ≤ (z : Int) := by omega
          have hzi : (z : Int) < 9 := by omega
          have hk0 : (0 : Int) ≤ (k : Int) := by omega
          go_wp2_with fail
          refine (l2Letter_any (z : Int) _).mono ?_
          rintro e w1 ⟨rfl, rfl⟩
          rw [HB4.out]
          go_wp2
          go_quiet (fail)
          go_wp2
          go_roundw
          case rel => exact ⟨k + 1, q, by omega, by go_num, rfl, hb5, hb6, HR2, HS.out.drewN _⟩
          case measure => simp [intOf]; omega
    · obtain rfl : k = m := by omega
      have HF : Hid (s1 = R) := by
        have := HR.out
        rw [List.drop_of_length_le (by have := HM.out; omega)] at this
        exact this
      go_wp2
      go_ret
      exact ⟨ret_int HF.out, hs0.trans HS.out⟩
set_option maxHeartbeats 1000000 in
set_option maxRecDepth 100000 in
theorem specRW_any (v : Value) (A : Aut) (u : Value) (ws : List Int) (w : World) (h : AutAt w v A) (hm : MxA A) (hu : IntsAt w u ws) (hl : ws.length ≤ maxLen) :
    Calls Try.prog 111 #[v, u] w fun e w' => e = .returned (.int .i64 (runA A ws)) ∧ Since w w' := by
  have HVA : Hid (∀ W, Since w W → Calls Try.prog 34 #[v] W fun e w' => e = .returned (.bool (validA A)) ∧ Since W w') := fun W hW => specVA_any v A W (h.since hW) hm
  have HRU : Hid (∀ W, Since w W → ValidA A → Calls Try.prog 167 #[v, .int .i64 A.st, u] W fun e w' => e = .returned (.int .i64 (runL A.nx A.st ws)) ∧ Since W w') := fun W hW hv => l11Run_any v A A.st u ws W (h.since hW) hv ⟨by have := hv.2.2.1; omega, hv.2.2.1.2⟩ (hu.since hW) hl
  obtain ⟨uo, uc, rfl, HU⟩ := hu.row
  obtain ⟨a, b, rfl, _, ha, hb⟩ := h
  obtain ⟨ao, ca, rfl⟩ := ha.len
  obtain ⟨bo, cb, rfl⟩ := hb.len
  clear ha hb hu HU hm
  obtain ⟨n, hn⟩ : ∃ n, n = A.ac.length := ⟨_, rfl⟩
  obtain ⟨k, hk⟩ : ∃ n, n = A.nx.length := ⟨_, rfl⟩
  obtain ⟨m, hm⟩ : ∃ m, m = ws.length := ⟨_, rfl⟩
  rw [← hn, ← hk] at HVA HRU ⊢
  rw [← hm] at HRU ⊢
  clear hn hk hm
  obtain ⟨y, hy⟩ : ∃ y, y = w.alloc (.cells #[.int .i64 A.st, .slice ao n ca, .slice bo k cb] 39) := ⟨_, rfl⟩
  have hs0 : Since w y := by rw [hy]; exact (Since.refl w).alloc _
  have B0 : Hid (Blk y w.heap.size 39 #[.int .i64 A.st, .slice ao n ca, .slice bo k cb]) := by rw [hy]; exact Blk.new rfl _ _
  have HY := Lib.hid hy
  clear hy
  cases e : validA A with
  | false =>
    have HB := Lib.hid e
    have HF : Hid (runA A ws = -1) := by unfold Hid runA; rw [if_neg (by rw [e]; decide)]
    clear e
    go_enter Try.func111, Try.ntmps111
    go_wp2_with fail
    rw [← HY.out]
    refine (HVA.out _ hs0).mono ?_
    rintro e w1 ⟨rfl, hs1⟩
    rw [HB.out]
    have hs01 := hs0.trans hs1
    go_wp2
    go_ret
    exact ⟨ret_int HF.out.symm, hs01⟩
  | true =>
    have HB := Lib.hid e
    have HV : Hid (ValidA A) := (validA_iff A).1 e
    have HF : Hid (runA A ws = runL A.nx A.st ws) := by unfold Hid runA; rw [if_pos e]
    clear e
    go_enter Try.func111, Try.ntmps111
    go_wp2_with fail
    rw [← HY.out]
    refine (HVA.out _ hs0).mono ?_
    rintro e w1 ⟨rfl, hs1⟩
    rw [HB.out]
    have hs01 := hs0.trans hs1
    obtain ⟨⟨p0, p1, p2⟩, _⟩ := (B0.out.since hs1).threeA
    go_wp2_with fail
    refine (HRU.out _ hs01 HV.out).mono ?_
    rintro e w2 ⟨rfl, hs2⟩
    rw [← HF.out]
    have hs02 := hs01.trans hs2
    go_wp2
    go_ret
    exact ⟨rfl, hs02⟩
set_option maxHeartbeats 2000000 in
set_option maxRecDepth 100000 in
theorem implRW_any (v : Value) (A : Aut) (u : Value) (ws : List Int) (w : World) (h : AutAt w v A) (hm : MxA A) (hu : IntsAt w u ws) (hl : ws.length ≤ maxLen) :
    Calls Try.prog 103 #[v, u] w fun e w' => e = .returned (.int .i64 (runA A ws)) ∧ Since w w' := by
  have HVA : Hid (∀ W, Since w W → Calls Try.prog 92 #[v] W fun e w' => e = .returned (.bool (validA A)) ∧ Since W w') := fun W hW => implVA_any v A W (h.since hW) hm
  obtain ⟨uo, uc, rfl, HU⟩ := hu.row
  obtain ⟨a, b, rfl, _, ha, hb⟩ := h
  obtain ⟨ao, ca, rfl⟩ := ha.len
  obtain ⟨bo, cb, rfl, HC⟩ := hb
  clear ha hu hm
  unfold maxLen at hl
  obtain ⟨n, hn⟩ : ∃ n, n = A.ac.length := ⟨_, rfl⟩
  obtain ⟨kk, hkk⟩ : ∃ n, n = A.nx.length := ⟨_, rfl⟩
  obtain ⟨m, hm⟩ : ∃ m, m = ws.length := ⟨_, rfl⟩
  rw [← hn, ← hkk] at HVA ⊢
  rw [← hm] at hl ⊢
  have HN := Lib.hid hn
  have HM := Lib.hid hm
  have HK := Lib.hid hkk
  clear hn hkk hm
  obtain ⟨y, hy⟩ : ∃ y, y = w.alloc (.cells #[.int .i64 A.st, .slice ao n ca, .slice bo kk cb] 39) := ⟨_, rfl⟩
  have hs0 : Since w y := by rw [hy]; exact (Since.refl w).alloc _
  have B0 : Hid (Blk y w.heap.size 39 #[.int .i64 A.st, .slice ao n ca, .slice bo kk cb]) := by rw [hy]; exact Blk.new rfl _ _
  have HY := Lib.hid hy
  clear hy
  cases e : validA A with
  | false =>
    have HB := Lib.hid e
    have HF : Hid (runA A ws = -1) := by unfold Hid runA; rw [if_neg (by rw [e]; decide)]
    clear e
    go_enter Try.func103, Try.ntmps103
    go_wp2_with fail
    rw [← HY.out]
    refine (HVA.out _ hs0).mono ?_
    rintro e w1 ⟨rfl, hs1⟩
    rw [HB.out]
    have hs01 := hs0.trans hs1
    go_wp2
    go_ret
    exact ⟨ret_int HF.out.symm, hs01⟩
  | true =>
    have HB := Lib.hid e
    have HV : Hid (ValidA A) := (validA_iff A).1 e
    obtain ⟨R, hR⟩ : ∃ R, R = runA A ws := ⟨_, rfl⟩
    rw [← hR]
    have HR0 : Hid (runL A.nx A.st (ws.drop 0) = R) := by rw [hR]; unfold runA; rw [if_pos e]; rfl
    have hs12 : -1 ≤ A.st ∧ A.st < (n : Int) := by have := HV.out.2.2.1; rw [← HN.out] at this; omega
    have hkn : kk = n := by have := HV.out.2.1; have := HN.out; have := HK.out; omega
    subst hkn
    clear e hR
    go_enter Try.func103, Try.ntmps103
    go_wp2_with fail
    rw [← HY.out]
    refine (HVA.out _ hs0).mono ?_
    rintro e w1 ⟨rfl, hs1⟩
    rw [HB.out]
    have HS1 := Lib.hid (hs0.trans hs1)
    have B1 := Lib.hid (B0.out.since hs1)
    obtain ⟨⟨p0, p1, p2⟩, _⟩ := B1.out.threeA
    go_wp2
    clear p0 p1 p2
    go_loopw [5, 15] (fun q i wr => ∃ (k : Nat) (s1 : Int), k ≤ m ∧ i = .int .i64 k ∧ q = .int .i64 s1 ∧ -1 ≤ s1 ∧ s1 < (kk : Int) ∧ Hid (runL A.nx s1 (ws.drop k) = R) ∧ Hid (Since w1 wr)) (fun _ i _ => m - (intOf i).toNat)
    case atStart => exact ⟨0, A.st, Nat.zero_le _, rfl, rfl, hs12.1, hs12.2, HR0, Since.refl _⟩
    case round =>
      obtain ⟨k, s1, hk, rfl, rfl, hs1, hs2, HR, HS⟩ := hrel
      by_cases hlt : k < m
      · have hki : (k : Int) < (m : Int) := by omega
        have hx : k < ws.length := by have := HM.out; omega
        obtain ⟨b1, off1, rfl, hb1, d1⟩ := HU.out k hx
        have HW : Hid (Since w wr) := HS1.out.trans HS.out
        have d2 : wr.cell? ⟨b1, off1 + k, none⟩ = some (.int .i64 ws[k]) := (Below.cell HW.out (p := ⟨b1, off1 + k, none⟩) hb1).trans d1
        clear d1
        obtain ⟨x, hxx⟩ : ∃ x, x = ws[k] := ⟨_, rfl⟩
        have HX := Lib.hid hxx
        rw [← hxx] at d2
        by_cases hneg : s1 = -1
        · subst hneg
          have HF : Hid ((-1 : Int) = R) := by rw [← HR.out]; exact (runL_negAt _ _ _ _ rfl).symm
          clear hxx
          go_wp2
          go_ret
          exact ⟨ret_int HF.out, HW.out⟩
        · have hne : (s1 == -1) = false := by simpa using hneg
          obtain ⟨t, rfl⟩ : ∃ t : Nat, s1 = t := ⟨s1.toNat, by omega⟩
          have ht0 : (0 : Int) ≤ (t : Int) := by omega
          have htn : t < kk := by omega
          clear hneg
          cases e4 : inB x 0 8 with
          | false =>
            have HB4 := Lib.hid e4
            have HF : Hid ((-1 : Int) = R) := by rw [← HR.out]; exact (runL_bad _ _ _ hx _ (by rw [← hxx]; exact e4)).symm
            clear e4 hxx
            go_wp2_with fail
            refine (isLetter_any x _).mono ?_
            rintro e w2 ⟨rfl, rfl⟩
            rw [HB4.out]
            go_wp2
            go_ret
            exact ⟨ret_int HF.out, HW.out⟩
          | true =>
            have HB4 := Lib.hid e4
            have hx8 : 0 ≤ x ∧ x ≤ 8 := by simpa [inB] using e4
            obtain ⟨z, hz⟩ : ∃ z : Nat, x = z := ⟨x.toNat, by omega⟩
            have hz9 : z < 9 := by omega
            have hst := nextA_in HV.out (t : Int) (x : Int) ⟨ht0, by rw [← HN.out]; omega⟩ e4
            obtain ⟨_, _, _, hb5, hb6⟩ := hst
            rw [← HN.out] at hb6
            have HR2 : Hid (runL A.nx (nextA A.nx t x) (ws.drop (k + 1)) = R) := by
              rw [← HR.out, hxx]; exact (runL_step A.nx ws k hx (t : Int) ht0 (by rw [← hxx]; exact e4)).symm
            obtain ⟨c1, o1, c2, o2, cc, rfl, hc1, hcell, hc2, hcs⟩ := next_cells HV.out HC t (by rw [← HN.out]; exact htn)
            have hcz := hcs z hz9
            rw [← hz] at hcz
            obtain ⟨q, hq⟩ : ∃ q, q = nextA A.nx t x := ⟨_, rfl⟩
            rw [← hq] at hcz HR2 hb5 hb6
            have f1 : wr.cell? ⟨c1, o1 + t, none⟩ = some (.slice (some ⟨c2, o2, none⟩) 9 cc) := (Below.cell HW.out (p := ⟨c1, o1 + t, none⟩) hc1).trans hcell
            have f2 : wr.cell? ⟨c2, o2 + z, none⟩ = some (.int .i64 q) := (Below.cell HW.out (p := ⟨c2, o2 + z, none⟩) hc2).trans hcz
            obtain ⟨⟨p0, p1, p2⟩, _⟩ := (B1.out.since HS.out).threeA
            clear e4 hxx hcell hcz hcs hq HX
            rw [hz] at d2 HB4
            clear hz hx8
            have hti : (t : Int) < (kk : Int) := by omega
            have hz0 : (0 : Int) ≤ (z : Int) := by omega
            have hzi : (z : Int) < 9 := by omega
            have hk0 : (0 : Int) ≤ (k : Int) := by omega
            go_wp2_with fail
            refine (isLetter_any (z : Int) _).mono ?_
            rintro e w2 ⟨rfl, rfl⟩
            rw [HB4.out]
            go_wp2
            go_roundw
            case rel => exact ⟨k + 1, q, by omega, by go_num, rfl, hb5, hb6, HR2, HS.out⟩
            case measure => simp [intOf]; omega
      · obtain rfl : k = m := by omega
        have HF : Hid (s1 = R) := by
          have := HR.out
          rw [List.drop_of_length_le (by have := HM.out; omega)] at this
          exact this
        go_wp2
        go_ret
        exact ⟨ret_int HF.out, HS1.out.trans HS.out⟩
end Go.Proofs.Ytmaagihfjldgeaa

/- The live and the reached states of an automaton, the model's and the program's. -/
namespace Go.Proofs.Ytmaagihfjldgeaa
set_option maxRecDepth 100000
open Go.ChangeShapes Go.WideShapes Go.ChangeAt Go.RowKit
set_option linter.unusedVariables false
set_option linter.unusedSimpArgs false

theorem bos_src {w : World} {ao : Option Addr} {n cap : Nat} {xs : List Bool} (h : BosAt w (.slice ao n cap) xs) : SrcAt w ao (xs.map tcell) ∧ n = xs.length := by
  obtain ⟨ao', cap', e, HC⟩ := h
  injection e with e1 e2 e3
  subst e1 e2 e3
  refine ⟨fun h0 => ?_, rfl⟩
  obtain ⟨b, off, e, _, _⟩ := HC.out 0 (by simpa using h0)
  refine ⟨⟨b, off, none⟩, e, fun j u hu => ?_⟩
  rw [List.getElem?_map] at hu
  obtain ⟨x, hx, rfl⟩ := Option.map_eq_some_iff.1 hu
  obtain ⟨hj, rfl⟩ := List.getElem?_eq_some_iff.1 hx
  obtain ⟨b', off', e', _, hc⟩ := HC.out j hj
  rw [e] at e'; injection e' with e'; injection e' with e1 e2; subst e1; subst e2
  rw [add_plain]; exact hc
theorem bol_lit (w w1 : World) (h : Since w w1) (b : Nat) (hb : b = w1.heap.size) : OwnBo w.heap.size (w1.alloc (.cells #[] 4)) (.slice (some ⟨b, 0, none⟩) 0 0) [] := by
  subst hb; exact World.ownsRow_lit w1 #[] 0 h.size (Nat.zero_le _) rfl
theorem run_append_bools (w : World) (base : Nat) (ty : TypeId) (v : Value) (xs : List Bool) (hown : OwnBo base w v xs) (ao : Option Addr) (m c : Nat) (ys : List Bool) (hy : BosAt w (.slice ao m c) ys)
    (hlen : xs.length + ys.length ≤ 4194304) (hbase : base ≤ w.heap.size) :
    ∃ v' w', (Builtin.append_ #[36, 36] ty #[v, .slice ao m c]).run Try.prog w = .ok v' w' ∧ OwnBo base w' v' (xs ++ ys) ∧ w.grownBy w' v.ownBlock ∧ (v'.ownBlock = v.ownBlock ∨ v'.ownBlock = some w.heap.size) := by
  obtain ⟨hs, rfl⟩ := bos_src hy
  obtain ⟨v', w', hr, h1, h2, h3⟩ := run_append_src w base 36 ty 4 (.bool false) 1 1 Try.underlying36 info_boolB rfl (by decide) v xs.length (xs.map tcell) hown ao ys.length c (ys.map tcell) (by simp) hs
    (by intro u hu; obtain ⟨x, _, rfl⟩ := List.mem_map.1 hu; rfl) (by unfold maxLen; omega) (by omega) hbase
  exact ⟨v', w', hr, by unfold OwnBo; rw [List.length_append, List.map_append]; exact h1, h2, h3⟩
theorem wpList_append_bools {w : World} {ops : Array Oper} {rest : List Oper} {o : Oper} {a : Act} {Q : Exit → Act → World → Prop} (hgd : o.guard = none) (s x : Operand)
    (ho : o.op = .call { callee := .builtin .append, args := #[s, x], argTypes := #[36, 36] }) (base : Nat) (v : Value) (xs : List Bool) (hs : a.eval s = v) (hown : OwnBo base w v xs) (ao : Option Addr) (m c : Nat) (hx : a.eval x = .slice ao m c)
    (ys : List Bool) (hy : BosAt w (.slice ao m c) ys) (hlen : xs.length + ys.length ≤ 4194304) (hbase : base ≤ w.heap.size)
    (h : ∀ v' w', OwnBo base w' v' (xs ++ ys) → w.grownBy w' v.ownBlock → (v'.ownBlock = v.ownBlock ∨ v'.ownBlock = some w.heap.size) → wpList Try.prog ops Q rest (a.put o.dst v') w') : wpList Try.prog ops Q (o :: rest) a w :=
  wpList_plain hgd fun _ hK => by
    obtain ⟨v', w', hr, h1, h2, h3⟩ := run_append_bools w base o.type v xs hown ao m c ys hy hlen hbase
    exact wp_of_run_append s x _ ho v _ v' w' hs hx hr (hK _ _ (h v' w' h1 h2 h3))
theorem size_boolB : (Try.prog.info? 4).map (·.size) = some 1 := by kernel_rfl
theorem wpList_copyBo {w : World} {ops : Array Oper} {rest : List Oper} {o : Oper} {a : Act} {Q : Exit → Act → World → Prop} (hgd : o.guard = none) (d s : Operand)
    (ho : o.op = .call { callee := .builtin .copy, args := #[d, s], argTypes := #[36, 36] }) (base g n cap : Nat) (zs : List Value) (hd : a.eval d = .slice (some ⟨g, 0, none⟩) n cap) (hown : w.ownsRow base 4 1 (.slice (some ⟨g, 0, none⟩) n cap) n zs)
    (ao : Option Addr) (k c : Nat) (hs : a.eval s = .slice ao n c) (xs : List Bool) (hx : BosAt w (.slice ao n c) xs) (hn : xs.length = n)
    (h : ∀ w', OwnBo base w' (.slice (some ⟨g, 0, none⟩) n cap) xs → w.grownBy w' (some g) → wpList Try.prog ops Q rest (a.put o.dst (goInt n)) w') : wpList Try.prog ops Q (o :: rest) a w := by
  obtain ⟨hsrc, _⟩ := bos_src hx
  obtain ⟨w', hr, h2, h3⟩ := run_copy_full w 36 o.type 4 1 (by decide) Try.underlying36 size_boolB base g n cap zs hown ao c (xs.map tcell) (by simp [hn]) hsrc (by intro u hu; obtain ⟨x, _, rfl⟩ := List.mem_map.1 hu; rfl)
  exact wpList_of_run_copy hgd d s _ ho _ _ n w' hd hs hr (h w' (by unfold OwnBo; rw [hn]; exact h2) h3)
/-- A row of truth values whose place is known. -/
theorem OwnBo.row {base : Nat} {w : World} {v : Value} {b : List Bool} (h : OwnBo base w v b) (hn : 0 < b.length) : ∃ g cap, v = .slice (some ⟨g, 0, none⟩) b.length cap ∧ base ≤ g ∧ g < w.heap.size := by
  obtain ⟨g, cap, e, hg⟩ := own_block h hn
  exact ⟨g, cap, e, hg, (h.lt g (by rw [e]; rfl)).2⟩
theorem OwnBo.cellB {base g cap n : Nat} {w : World} {b : List Bool} (h : OwnBo base w (.slice (some ⟨g, 0, none⟩) n cap) b) (hn : n = b.length) (s : Nat) (hs : s < b.length) : w.cell? ⟨g, s, none⟩ = some (.bool (at0 b s)) ∧ w.frozen? ⟨g, s, none⟩ = false := by
  subst hn
  have h' : w.ownsRow base 4 1 (.slice (some ⟨g, 0, none⟩) b.length cap) b.length (b.map tcell) := h
  refine ⟨?_, h'.frozenAt s⟩
  rw [h'.cellAt s (by omega), at0_get b s hs]
  simp [hs, tcell]
theorem OwnBo.setB {base g cap n : Nat} {w : World} {b : List Bool} (h : OwnBo base w (.slice (some ⟨g, 0, none⟩) n cap) b) (hn : n = b.length) (s : Nat) : OwnBo base (w.setCell ⟨g, s, none⟩ (.bool true)) (.slice (some ⟨g, 0, none⟩) n cap) (b.set s true) := by
  subst hn
  have h' : w.ownsRow base 4 1 (.slice (some ⟨g, 0, none⟩) b.length cap) b.length (b.map tcell) := h
  have := (h'.stored s (.bool true)).1
  unfold OwnBo
  rw [List.length_set, List.map_set]
  exact this
def BoRow (w : World) (v : Value) (w' : World) (b : List Bool) : Prop := OwnBo w.heap.size w' v b ∧ Since w w'
set_option maxRecDepth 100000 in
theorem copiedBo_any (v : Value) (xs : List Bool) (w : World) (h : BosAt w v xs) (hl : xs.length ≤ 1048577) :
    Calls Try.prog 164 #[v] w (BoOut w xs) := by
  have HA := Lib.hid h
  obtain ⟨ao, ac, rfl⟩ := h.len
  clear h
  obtain ⟨i0, hi, hz0, hz1, hz2⟩ := info_parts info_boolB
  have HZ2 := Lib.hid hz2
  clear hz2
  obtain ⟨n, hn⟩ : ∃ n, n = xs.length := ⟨_, rfl⟩
  rw [← hn] at HA
  rw [← hn]
  have hn9 : n ≤ 1048577 := by omega
  have HN := Lib.hid hn
  clear hn hl
  go_enter Try.func164, Try.ntmps164
  go_wp2_with (first
    | (at_make; go_must (refine wpList_make_full _ rfl _ _ 36 rfl w.heap.size 4 i0 (.bool false) 1 Try.underlying36 hi hz0 hz1 .i64 .i64 _ _ n rfl rfl rfl rfl (by rw [HZ2.out]; omega) (by unfold maxLen; omega) (Nat.le_refl _) ?_); intro w1 hown hgrow)
    | (refine wpList_copyBo (o := ⟨some 9, _, _, _, _, _⟩) rfl (.tmp 7) (.tmp 8) rfl w.heap.size w.heap.size n n _ rfl hown ao n ac rfl xs (HA.out.since ((Since.refl w).grown hgrow (fun _ h => by simp at h))) HN.out.symm ?_; intro w2 ho2 hg2))
  have hsin : Since w w1 := (Since.refl w).grown hgrow (fun _ h => by simp at h)
  have hs2 := hsin.grown hg2 (fun k hk => by injection hk with hk; omega)
  have HO2 := Lib.hid ho2
  clear ho2 hg2 hown hgrow
  go_wp2
  go_ret
  exact ⟨_, rfl, HO2.out, hs2⟩
/-- Whether a letter leads from s to a state of b. -/
def leadsB (A : Aut) (s : Nat) (b : List Bool) : Bool := (List.range 9).any fun k => match tgt A s k with | some t => at0 b t | none => false
theorem leadsB_true {A : Aut} {s k t : Nat} {b : List Bool} (hk : k < 9) (h : tgt A s k = some t) (hb : at0 b t = true) : leadsB A s b = true := by
  unfold leadsB
  rw [List.any_eq_true]
  exact ⟨k, List.mem_range.2 hk, by rw [h]; exact hb⟩
theorem leadsB_false {A : Aut} {s : Nat} {b : List Bool} (h : ∀ k, k < 9 → ∀ t, tgt A s k = some t → at0 b t = false) : leadsB A s b = false := by
  unfold leadsB
  rw [List.any_eq_false]
  intro k hk
  cases e : tgt A s k with
  | none => simp
  | some t => simp [h k (List.mem_range.1 hk) t e]
theorem leadsB_cases (A : Aut) (s : Nat) (b : List Bool) : (leadsB A s b = true ∧ ∃ k t, k < 9 ∧ tgt A s k = some t ∧ at0 b t = true) ∨ (leadsB A s b = false ∧ ∀ k, k < 9 → ∀ t, tgt A s k = some t → at0 b t = false) := by
  cases e : leadsB A s b with
  | true =>
    unfold leadsB at e
    rw [List.any_eq_true] at e
    obtain ⟨k, hk, h⟩ := e
    cases e2 : tgt A s k with
    | none => rw [e2] at h; cases h
    | some t => rw [e2] at h; exact .inl ⟨rfl, k, t, List.mem_range.1 hk, e2, h⟩
  | false =>
    refine .inr ⟨rfl, fun k hk t ht => ?_⟩
    cases h : at0 b t with
    | false => rfl
    | true => rw [leadsB_true hk ht h] at e; cases e
set_option maxHeartbeats 2000000 in
set_option maxRecDepth 100000 in
theorem leadsTo_any (v : Value) (A : Aut) (s : Nat) (base g cap : Nat) (b : List Bool) (w : World) (h : AutAt w v A) (hv : ValidA A) (hs : s < A.ac.length) (hb : b.length = A.ac.length) (ho : OwnBo base w (.slice (some ⟨g, 0, none⟩) A.ac.length cap) b) :
    Calls Try.prog 165 #[v, .int .i64 s, .slice (some ⟨g, 0, none⟩) A.ac.length cap] w fun e w' => e = .returned (.bool (leadsB A s b)) ∧ Since w w' := by
  obtain ⟨a1, b1, rfl, _, ha, hb1⟩ := h
  obtain ⟨ao, ca, rfl⟩ := ha.len
  obtain ⟨bo, cb, rfl, HC⟩ := hb1
  clear ha
  obtain ⟨c1, o1, c2, o2, cc, rfl, hc1, hcell, hc2, hcs⟩ := next_cells hv HC s hs
  have HCS := Lib.hid hcs
  have HV := Lib.hid hv
  have HO := Lib.hid ho
  have hnm : A.nx.length = A.ac.length := hv.2.1
  have hn12 := hv.1
  rw [hnm]
  clear hv ho hcs HC hnm
  have hg := (HO.out.lt g rfl).2
  obtain ⟨n, hn⟩ : ∃ n, n = A.ac.length := ⟨_, rfl⟩
  rw [← hn] at hs hn12 HO ⊢
  have HN := Lib.hid hn
  have HB : Hid (b.length = n) := by rw [hn]; exact hb
  clear hn hb
  obtain ⟨y, hy⟩ : ∃ y, y = w.alloc (.cells #[.int .i64 A.st, .slice ao n ca, .slice (some ⟨c1, o1, none⟩) n cb] 39) := ⟨_, rfl⟩
  have hs0 : Since w y := by rw [hy]; exact (Since.refl w).alloc _
  have B0 : Hid (Blk y w.heap.size 39 #[.int .i64 A.st, .slice ao n ca, .slice (some ⟨c1, o1, none⟩) n cb]) := by rw [hy]; exact Blk.new rfl _ _
  have hcell2 : y.cell? ⟨c1, o1 + s, none⟩ = some (.slice (some ⟨c2, o2, none⟩) 9 cc) := (Below.cell hs0 (p := ⟨c1, o1 + s, none⟩) hc1).trans hcell
  obtain ⟨⟨p0, p1, p2⟩, _⟩ := B0.out.threeA
  rw [hy] at p0 p1 p2 hcell2
  have hsi : (s : Int) < (n : Int) := by omega
  have hs0i : (0 : Int) ≤ (s : Int) := by omega
  have HY := Lib.hid hy
  clear hy hcell
  go_enter Try.func165, Try.ntmps165
  go_wp2
  rw [← HY.out]
  clear p0 p1 p2 hcell2
  go_loopw [15] (fun i wr => ∃ k : Nat, k ≤ 9 ∧ i = .int .i64 k ∧ Hid (∀ j, j < k → ∀ t, tgt A s j = some t → at0 b t = false) ∧ wr = y) (fun i _ => 9 - (intOf i).toNat)
  case atStart => exact ⟨0, Nat.zero_le _, rfl, fun j hj => by omega, rfl⟩
  case round =>
    obtain ⟨k, hk, rfl, HJ, rfl⟩ := hrel
    by_cases hlt : k < 9
    · have hki : (k : Int) < 9 := by omega
      have hcz := HCS.out k hlt
      obtain ⟨q, hq⟩ : ∃ q, q = nextA A.nx s k := ⟨_, rfl⟩
      rw [← hq] at hcz
      have f2 : wr.cell? ⟨c2, o2 + k, none⟩ = some (.int .i64 q) := (Below.cell hs0 (p := ⟨c2, o2 + k, none⟩) hc2).trans hcz
      have hst := nextA_in HV.out (s : Int) (k : Int) ⟨hs0i, by rw [← HN.out]; omega⟩ (by simp [inB]; omega)
      obtain ⟨_, _, _, hb5, hb6⟩ := hst
      rw [← hq] at hb5 hb6
      rw [← HN.out] at hb6
      have HQ := Lib.hid hq
      clear hq hcz
      by_cases e1 : q = -1
      · subst e1
        have HJ2 : Hid (∀ j, j < k + 1 → ∀ t, tgt A s j = some t → at0 b t = false) := by
          intro j hj t ht
          by_cases e : j = k
          · subst e
            rw [tgt_none (by rw [← HQ.out]; decide)] at ht; cases ht
          · exact HJ.out j (by omega) t ht
        go_wp2
        go_roundw
        case rel => exact ⟨k + 1, by omega, by go_num, HJ2, by first | exact rfl | trivial⟩
        case measure => simp [intOf]; omega
      · have e2 : (q != -1) = true := by simpa using e1
        obtain ⟨t, rfl⟩ : ∃ t : Nat, q = t := ⟨q.toNat, by omega⟩
        have htn : t < n := by omega
        have hti : (t : Int) < (n : Int) := by omega
        have ht0 : (0 : Int) ≤ (t : Int) := by omega
        have HT : Hid (tgt A s k = some t) := tgt_some (by rw [← HN.out]; exact hs) HQ.out.symm (by rw [← HN.out]; exact htn)
        have hcb := (HO.out.since hs0).cellB HB.out.symm t (by rw [HB.out]; exact htn)
        obtain ⟨d1, _⟩ := hcb
        clear e1
        cases e3 : at0 b t with
        | true =>
          have HF : Hid (leadsB A s b = true) := leadsB_true hlt HT.out e3
          rw [e3] at d1
          clear e3
          go_wp2
          go_ret
          exact ⟨ret_bool HF.out.symm, hs0⟩
        | false =>
          have HJ2 : Hid (∀ j, j < k + 1 → ∀ t, tgt A s j = some t → at0 b t = false) := by
            intro j hj u hu
            by_cases e : j = k
            · subst e
              rw [HT.out] at hu; injection hu with hu; subst hu; exact e3
            · exact HJ.out j (by omega) u hu
          rw [e3] at d1
          clear e3
          go_wp2
          go_roundw
          case rel => exact ⟨k + 1, by omega, by go_num, HJ2, by first | exact rfl | trivial⟩
          case measure => simp [intOf]; omega
    · have hk9 : k = 9 := by omega
      subst hk9
      have HF : Hid (leadsB A s b = false) := leadsB_false HJ.out
      go_wp2
      go_ret
      exact ⟨ret_bool HF.out.symm, hs0⟩
end Go.Proofs.Ytmaagihfjldgeaa
