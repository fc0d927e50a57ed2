/- IsValidAutomaton, the model's. -/
import Derived.Test.YtcokggjekleabaaAuV
namespace Go.Proofs.Ytcokggjekleabaa
set_option maxRecDepth 100000
open Go.ChangeShapes Go.WideShapes Go.ChangeAt Go.RowKit
set_option linter.unusedVariables false
set_option linter.unusedSimpArgs false

def FitsA (A : Aut) : Prop := A.nx.length = A.ac.length ∧ (0 ≤ A.st ∧ A.st < (A.ac.length : Int)) ∧ ∀ r ∈ A.nx, RowOk A.ac.length r
instance (A : Aut) : Decidable (FitsA A) := by unfold FitsA; exact inferInstance
def fitsA (A : Aut) : Bool := decide (FitsA A)
theorem fitsA_m {A : Aut} (h : A.nx.length ≠ A.ac.length) : fitsA A = false := decide_eq_false (fun k => h k.1)
theorem fitsA_st {A : Aut} (m : Int) (hm : m = (A.ac.length : Int) - 1) (h : inB A.st 0 m = false) : fitsA A = false := decide_eq_false (fun k => by have := k.2.1; unfold inB at h; simp at h; omega)
theorem fitsA_row {A : Aut} (i : Nat) (hi : i < A.nx.length) (h : ¬ RowOk A.ac.length A.nx[i]) : fitsA A = false := decide_eq_false (fun k => h (k.2.2 _ (List.getElem_mem hi)))
theorem fitsA_all {A : Aut} (m : Int) (hm : m = (A.ac.length : Int) - 1) (h2 : A.nx.length = A.ac.length) (h3 : inB A.st 0 m = true) (h4 : ∀ j (hj : j < A.nx.length), RowOk A.ac.length A.nx[j]) : fitsA A = true :=
  decide_eq_true ⟨h2, by unfold inB at h3; simp at h3; omega, fun r hr => by obtain ⟨j, hj, rfl⟩ := List.getElem_of_mem hr; exact h4 j hj⟩
theorem validA_fits {A : Aut} (h : A.ac.length ≤ 12) : validA A = fitsA A := by
  unfold validA fitsA
  by_cases k : FitsA A
  · rw [decide_eq_true k]; exact decide_eq_true ⟨h, by omega, k⟩
  · rw [decide_eq_false k]; exact decide_eq_false (fun q => k q.2.2)
set_option maxHeartbeats 2000000 in
set_option maxRecDepth 100000 in
theorem fits_any (v : Value) (A : Aut) (w : World) (h : AutAt w v A) (hm : MxA A) :
    Calls Try.prog 59 #[v] w fun e w' => e = .returned (.bool (fitsA A)) ∧ Since w w' := by
  obtain ⟨hm1, hm2, hm3⟩ := hm
  have HL := Lib.hid hm3
  clear hm3
  unfold maxLen at hm1 hm2
  obtain ⟨a, b, rfl, _, ha, hb⟩ := h
  obtain ⟨ao, ca, rfl⟩ := ha.len
  obtain ⟨bo, cb, rfl, HC⟩ := hb
  clear ha
  obtain ⟨n, hn⟩ : ∃ n, n = A.ac.length := ⟨_, rfl⟩
  rw [← hn] at hm1 ⊢
  obtain ⟨m, hm⟩ : ∃ m, m = A.nx.length := ⟨_, rfl⟩
  rw [← hm] at hm2 ⊢
  have HN := Lib.hid hn
  have HM := Lib.hid hm
  obtain ⟨y, hy⟩ : ∃ y, y = w.alloc (.cells #[.int .i64 A.st, .slice ao n ca, .slice bo m cb] 27) := ⟨_, rfl⟩
  have hs0 : Since w y := by rw [hy]; exact (Since.refl w).alloc _
  have B0 : Hid (Blk y w.heap.size 27 #[.int .i64 A.st, .slice ao n ca, .slice bo m cb]) := by rw [hy]; exact Blk.new rfl _ _
  obtain ⟨⟨c0, c1, c2⟩, _⟩ := B0.out.threeA
  rw [hy] at c0 c1 c2
  have HY := Lib.hid hy
  clear hy
  obtain ⟨t, ht⟩ : ∃ t : Int, t = (n : Int) - 1 := ⟨_, rfl⟩
  have HT := Lib.hid ht
  have HT2 : Hid (t = (A.ac.length : Int) - 1) := by rw [ht, hn]; rfl
  cases e3 : inB A.st 0 t with
  | false =>
    have HF : Hid (fitsA A = false) := fitsA_st t HT2.out e3
    have HB := Lib.hid e3
    clear hn hm e3 ht
    go_enter Try.func59, Try.ntmps59
    go_wp2_with fail
    rw [← HY.out, ← HT.out]
    refine (l1In_any A.st 0 t _).mono ?_
    rintro e w1 ⟨rfl, rfl⟩
    rw [HB.out]
    go_wp2
    go_ret
    exact ⟨ret_bool HF.out.symm, hs0⟩
  | true =>
    have HB := Lib.hid e3
    by_cases e2 : m = n
    · have e2i : ((m : Int) != (n : Int)) = false := by simp; omega
      have HE2 := Lib.hid e2
      clear hn hm e3 ht e2
      go_enter Try.func59, Try.ntmps59
      go_wp2_with fail
      rw [← HY.out, ← HT.out]
      refine (l1In_any A.st 0 t _).mono ?_
      rintro e w1 ⟨rfl, rfl⟩
      rw [HB.out]
      rw [← HY.out] at c0 c1 c2
      go_wp2
      clear c0 c1 c2
      go_loopw [4] (fun i wr => ∃ k : Nat, k ≤ n ∧ i = .int .i64 k ∧ Hid (∀ j (hj : j < A.nx.length), j < k → RowOk n A.nx[j]) ∧ Hid (Since y wr)) (fun i _ => n - (intOf i).toNat)
      case atStart => exact ⟨0, Nat.zero_le _, rfl, fun j _ hj => by omega, Since.refl _⟩
      case round =>
        obtain ⟨k, hk, rfl, HJ, HS⟩ := hrel
        by_cases hlt : k < n
        · have hx : k < A.nx.length := by have := HM.out; have := HE2.out; omega
          have hkm : k < m := by have := HE2.out; omega
          obtain ⟨b1, off1, p, rfl, hb1, d1, g1⟩ := HC.out k hx
          have HW : Hid (Since w wr) := hs0.trans HS.out
          have d2 : wr.cell? ⟨b1, off1 + k, none⟩ = some p := (Below.cell HW.out (p := ⟨b1, off1 + k, none⟩) hb1).trans d1
          have HD2 := Lib.hid d2
          have HG := Lib.hid (g1.since HW.out)
          obtain ⟨po, pc, rfl, HR⟩ := g1.row
          obtain ⟨⟨c0, c1, c2⟩, _⟩ := (B0.out.since HS.out).threeA
          have hll := HL.out k hx
          obtain ⟨q, hq⟩ : ∃ q, q = (A.nx[k]).length := ⟨_, rfl⟩
          rw [← hq] at d2 HD2 hll
          unfold maxLen at hll
          clear d1 g1
          by_cases e9 : q = 9
          · have e9i : ((q : Int) != 9) = false := by simp; omega
            have HQ := Lib.hid hq
            have H9 := Lib.hid e9
            clear hq e9
            have HWr : Hid (∀ W, Since wr W → Since y W) := fun W h => HS.out.trans h
            go_wp2
            clear c0 c1 c2
            go_loopw [5] (fun i wz => ∃ z : Nat, z ≤ 9 ∧ i = .int .i64 z ∧ Hid (∀ j (hj : j < (A.nx[k]).length), j < z → -1 ≤ (A.nx[k])[j] ∧ (A.nx[k])[j] < (n : Int)) ∧ wz = wr) (fun i _ => 9 - (intOf i).toNat)
            case atStart => exact ⟨0, Nat.zero_le _, rfl, fun j _ hj => by omega, rfl⟩
            case round =>
              obtain ⟨z, hz, rfl, HZ, rfl⟩ := hrel
              obtain ⟨⟨c0, c1, c2⟩, _⟩ := (B0.out.since HS.out).threeA
              have d2 := HD2.out
              by_cases hzt : z < 9
              · have hzx : z < (A.nx[k]).length := by have := HQ.out; have := H9.out; omega
                have hzq : z < q := by have := H9.out; omega
                have hzi : (z : Int) < 9 := by omega
                obtain ⟨b2, off2, rfl, hb2, c3⟩ := HR.out z hzx
                have c4 : wr.cell? ⟨b2, off2 + z, none⟩ = some (.int .i64 (A.nx[k])[z]) := (Below.cell HW.out (p := ⟨b2, off2 + z, none⟩) hb2).trans c3
                obtain ⟨x, hxx⟩ : ∃ x, x = (A.nx[k])[z] := ⟨_, rfl⟩
                have HX := Lib.hid hxx
                rw [← hxx] at c4
                clear hxx c3
                cases e4 : inB x (-1) t with
                | true =>
                  have HB4 := Lib.hid e4
                  have HZ2 : Hid (∀ j (hj : j < (A.nx[k]).length), j < z + 1 → -1 ≤ (A.nx[k])[j] ∧ (A.nx[k])[j] < (n : Int)) := by
                    intro j hj hjk
                    by_cases e : j = z
                    · subst e
                      rw [← HX.out]
                      have h5 := e4
                      have h6 := HT.out
                      unfold inB at h5; simp at h5; omega
                    · exact HZ.out j hj (by omega)
                  clear e4
                  go_wp2_with fail
                  rw [← HT.out]
                  refine (l1In_any x (-1) t _).mono ?_
                  rintro e w1 ⟨rfl, rfl⟩
                  rw [HB4.out]
                  go_wp2
                  go_roundw
                  case rel => exact ⟨z + 1, by omega, by go_num, HZ2, by first | exact rfl | trivial⟩
                  case measure => simp [intOf]; omega
                | false =>
                  have HB4 := Lib.hid e4
                  have HF : Hid (fitsA A = false) := by
                    refine fitsA_row k hx (rowOk_bad z hzx ?_)
                    have h5 := e4
                    have h6 := HT2.out
                    have h7 := HX.out
                    unfold inB at h5; simp at h5
                    rw [← h7]; omega
                  clear e4
                  go_wp2_with fail
                  rw [← HT.out]
                  refine (l1In_any x (-1) t _).mono ?_
                  rintro e w1 ⟨rfl, rfl⟩
                  rw [HB4.out]
                  go_wp2
                  go_ret
                  exact ⟨ret_bool HF.out.symm, HW.out⟩
              · have hz9 : z = 9 := by omega
                subst hz9
                have HJ2 : Hid (∀ j (hj : j < A.nx.length), j < k + 1 → RowOk n A.nx[j]) := by
                  intro j hj hjk
                  by_cases e : j = k
                  · subst e
                    exact rowOk_of (by have := HQ.out; have := H9.out; omega) (fun i hi => HZ.out i hi (by have := HQ.out; have := H9.out; omega))
                  · exact HJ.out j hj (by omega)
                go_wp2
                go_roundw
                case rel => exact ⟨k + 1, by omega, by go_num, HJ2, HS.out⟩
                case measure => simp [intOf]; omega
          · have e9i : ((q : Int) != 9) = true := by simp; omega
            have HF : Hid (fitsA A = false) := fitsA_row k hx (rowOk_len (by omega))
            clear hq e9
            go_wp2
            go_ret
            exact ⟨ret_bool HF.out.symm, HW.out⟩
        · obtain rfl : k = n := by omega
          have HF : Hid (fitsA A = true) := by
            have h1 := HN.out
            have h2 := HM.out
            have h3 := HE2.out
            refine fitsA_all t HT2.out (by omega) HB.out (fun j hj => ?_)
            rw [← h1]; exact HJ.out j hj (by omega)
          go_wp2
          go_ret
          exact ⟨ret_bool HF.out.symm, hs0.trans HS.out⟩
    · have e2i : ((m : Int) != (n : Int)) = true := by simp; omega
      have HF : Hid (fitsA A = false) := fitsA_m (by omega)
      clear hn hm e3 ht e2
      go_enter Try.func59, Try.ntmps59
      go_wp2_with fail
      rw [← HY.out, ← HT.out]
      refine (l1In_any A.st 0 t _).mono ?_
      rintro e w1 ⟨rfl, rfl⟩
      rw [HB.out]
      rw [← HY.out] at c0 c1 c2
      go_wp2
      go_ret
      exact ⟨ret_bool HF.out.symm, hs0⟩
set_option maxRecDepth 100000 in
theorem specVA_any (v : Value) (A : Aut) (w : World) (h : AutAt w v A) (hm : MxA A) :
    Calls Try.prog 20 #[v] w fun e w' => e = .returned (.bool (validA A)) ∧ Since w w' := by
  have HFT : Hid (∀ W, Since w W → Calls Try.prog 59 #[v] W fun e w' => e = .returned (.bool (fitsA A)) ∧ Since W w') := fun W hW => fits_any v A W (h.since hW) hm
  obtain ⟨hm1, hm2, hm3⟩ := hm
  unfold maxLen at hm1 hm2
  obtain ⟨a, b, rfl, _, ha, hb⟩ := h
  obtain ⟨ao, ca, rfl⟩ := ha.len
  obtain ⟨bo, cb, rfl⟩ := hb.len
  clear ha hb hm3
  obtain ⟨n, hn⟩ : ∃ n, n = A.ac.length := ⟨_, rfl⟩
  rw [← hn] at HFT hm1 ⊢
  obtain ⟨m, hm⟩ : ∃ m, m = A.nx.length := ⟨_, rfl⟩
  rw [← hm] at HFT hm2 ⊢
  have hs0 : Since w (w.alloc (.cells #[.int .i64 A.st, .slice ao n ca, .slice bo m cb] 27)) := (Since.refl w).alloc _
  by_cases e1 : n ≤ 12
  · have HE : Hid (validA A = fitsA A) := validA_fits (by omega)
    have e1i : (n : Int) ≤ 12 := by omega
    clear hn hm
    go_enter Try.func20, Try.ntmps20
    go_wp2_with fail
    refine (HFT.out _ hs0).mono ?_
    rintro e w1 ⟨rfl, hs1⟩
    rw [← HE.out]
    have hs01 := hs0.trans hs1
    go_wp2
    go_ret
    exact ⟨rfl, hs01⟩
  · have HF : Hid (validA A = false) := validA_n (by omega)
    have e1i : ¬ (n : Int) ≤ 12 := by omega
    clear hn hm e1
    go_enter Try.func20, Try.ntmps20
    go_wp2
    go_ret
    exact ⟨ret_bool HF.out.symm, hs0⟩
end Go.Proofs.Ytcokggjekleabaa
