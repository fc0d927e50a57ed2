/- Comparing words: shorter lists first, then element by element. -/
import Derived.Test.YtikbobinkojnfaaInts
namespace Go.Proofs.Ytikbobinkojnfaa
open Go.ChangeShapes Go.WideShapes Go.ChangeAt Go.RowKit
set_option linter.unusedVariables false

def cmpI (a b : Int) : Int := if a < b then -1 else if b < a then 1 else 0
/-- Element by element; a list that ends first is less. -/
def lexC : List Int → List Int → Int
  | [], [] => 0
  | [], _ :: _ => -1
  | _ :: _, [] => 1
  | x :: xs, y :: ys => if x < y then -1 else if y < x then 1 else lexC xs ys
def cmpW (xs ys : List Int) : Int := if xs.length < ys.length then -1 else if ys.length < xs.length then 1 else lexC xs ys
theorem lexC_split (xs ys : List Int) (k : Nat) (h : xs.take k = ys.take k) (hx : k ≤ xs.length) (hy : k ≤ ys.length) : lexC xs ys = lexC (xs.drop k) (ys.drop k) := by
  induction k generalizing xs ys with
  | zero => rfl
  | succ k ih =>
    cases xs with
    | nil => simp at hx
    | cons x xs =>
      cases ys with
      | nil => simp at hy
      | cons y ys =>
        simp only [List.take_succ_cons, List.cons.injEq] at h
        obtain ⟨rfl, h⟩ := h
        simp only [List.length_cons] at hx hy
        rw [List.drop_succ_cons, List.drop_succ_cons, ← ih xs ys h (by omega) (by omega)]
        simp [lexC]
theorem lexC_lt (xs ys : List Int) (k : Nat) (h : xs.take k = ys.take k) (hx : k < xs.length) (hy : k < ys.length) (hlt : xs[k] < ys[k]) : lexC xs ys = -1 := by
  rw [lexC_split xs ys k h (by omega) (by omega), List.drop_eq_getElem_cons hx, List.drop_eq_getElem_cons hy]
  simp [lexC, hlt]
theorem lexC_gt (xs ys : List Int) (k : Nat) (h : xs.take k = ys.take k) (hx : k < xs.length) (hy : k < ys.length) (hlt : ys[k] < xs[k]) : lexC xs ys = 1 := by
  rw [lexC_split xs ys k h (by omega) (by omega), List.drop_eq_getElem_cons hx, List.drop_eq_getElem_cons hy]
  simp [lexC, hlt]; omega
theorem lexC_end_x (xs ys : List Int) (h : xs.take xs.length = ys.take xs.length) (hy : xs.length < ys.length) : lexC xs ys = -1 := by
  rw [lexC_split xs ys xs.length h (by omega) (by omega), List.drop_of_length_le (Nat.le_refl _), List.drop_eq_getElem_cons hy]
  simp [lexC]
theorem lexC_end_y (xs ys : List Int) (h : xs.take ys.length = ys.take ys.length) (hy : ys.length < xs.length) : lexC xs ys = 1 := by
  rw [lexC_split xs ys ys.length h (by omega) (by omega), List.drop_of_length_le (Nat.le_refl ys.length), List.drop_eq_getElem_cons hy]
  simp [lexC]
theorem lexC_same (xs ys : List Int) (k : Nat) (hx : xs.length = k) (hy : ys.length = k) (h : xs.take k = ys.take k) : lexC xs ys = 0 := by
  rw [lexC_split xs ys k h (by omega) (by omega), List.drop_of_length_le (by omega), List.drop_of_length_le (by omega)]
  rfl
theorem lexC_self (xs : List Int) : lexC xs xs = 0 := lexC_same xs xs xs.length rfl rfl rfl

/-- Two slices opened side by side: lengths, and the cells wherever there are some. -/
theorem IntsAt.open {w : World} {v : Value} {xs : List Int} (h : IntsAt w v xs) :
    (∃ ao cap, v = .slice ao 0 cap ∧ xs = []) ∨ ∃ b off cap, v = .slice (some ⟨b, off, none⟩) xs.length cap ∧ b < w.heap.size ∧ Hid (∀ i (h : i < xs.length), w.cell? ⟨b, off + i, none⟩ = some (.int .i64 xs[i])) := by
  obtain ⟨_, ⟨rfl, ao, cap, rfl⟩ | ⟨b, off, cap, rfl, hb, hc⟩⟩ := h
  · exact .inl ⟨ao, cap, rfl, rfl⟩
  · exact .inr ⟨b, off, cap, rfl, hb, hc⟩

theorem isNaN_int (a : Int) (w : World) : Calls Try.prog 63 #[.int .i64 a] w fun e w' => e = .returned (.bool false) ∧ w = w' := by
  have h : (a != a) = false := by simp
  go_enter Try.func63, Try.ntmps63
  go_wp2
  go_ret
  exact ⟨ret_bool rfl, rfl⟩
theorem cmpCompare_int (a b : Int) (w : World) : Calls Try.prog 60 #[.int .i64 a, .int .i64 b] w fun e w' => e = .returned (.int .i64 (cmpI a b)) ∧ w = w' := by
  have hcases : (a < b ∧ cmpI a b = -1) ∨ (¬ a < b ∧ b < a ∧ cmpI a b = 1) ∨ (¬ a < b ∧ ¬ b < a ∧ cmpI a b = 0) := by
    unfold cmpI
    by_cases h1 : a < b
    · exact .inl ⟨h1, by rw [if_pos h1]⟩
    · by_cases h2 : b < a
      · exact .inr (.inl ⟨h1, h2, by rw [if_neg h1, if_pos h2]⟩)
      · exact .inr (.inr ⟨h1, h2, by rw [if_neg h1, if_neg h2]⟩)
  rcases hcases with ⟨h1, h⟩ | ⟨h1, h2, h⟩ | ⟨h1, h2, h⟩
  all_goals
    have H := Lib.hid h
    clear h
    go_enter Try.func60, Try.ntmps60
    go_wp2_with (go_at_call 63; refine (isNaN_int _ _).mono ?_; rintro e w' ⟨rfl, rfl⟩)
    go_ret
    exact ⟨ret_int H.out.symm, rfl⟩
theorem cmpI_cases (a b : Int) : (a < b ∧ cmpI a b = -1) ∨ (b < a ∧ cmpI a b = 1) ∨ (a = b ∧ cmpI a b = 0) := by
  unfold cmpI
  by_cases h1 : a < b
  · exact .inl ⟨h1, by rw [if_pos h1]⟩
  · by_cases h2 : b < a
    · exact .inr (.inl ⟨h2, by rw [if_neg h1, if_pos h2]⟩)
    · exact .inr (.inr ⟨by omega, by rw [if_neg h1, if_neg h2]⟩)

set_option maxHeartbeats 1600000 in
set_option maxRecDepth 100000 in
theorem l2Cmp_any (a b : Value) (xs ys : List Int) (w : World) (ha : IntsAt w a xs) (hb : IntsAt w b ys) (hl : xs.length ≤ 4611686018427387904) (hl2 : ys.length ≤ 4611686018427387904) :
    Calls Try.prog 52 #[a, b] w fun e w' => e = .returned (.int .i64 (lexC xs ys)) ∧ Since w w' := by
  have ha' : ∃ ao c, a = .slice ao xs.length c ∧ Hid (∀ i (h : i < xs.length), ∃ b off, ao = some ⟨b, off, none⟩ ∧ b < w.heap.size ∧ w.cell? ⟨b, off + i, none⟩ = some (.int .i64 xs[i])) := by
    rcases ha.open with ⟨ao2, c2, rfl, rfl⟩ | ⟨b2, off2, c2, rfl, hb2, HC⟩
    · exact ⟨_, _, rfl, fun i h => by simp at h⟩
    · exact ⟨_, _, rfl, fun i h => ⟨_, _, rfl, hb2, HC.out i h⟩⟩
  have hb' : ∃ ao2 c2, b = .slice ao2 ys.length c2 ∧ Hid (∀ i (h : i < ys.length), ∃ b2 off2, ao2 = some ⟨b2, off2, none⟩ ∧ b2 < w.heap.size ∧ w.cell? ⟨b2, off2 + i, none⟩ = some (.int .i64 ys[i])) := by
    rcases hb.open with ⟨ao2, c2, rfl, rfl⟩ | ⟨b2, off2, c2, rfl, hb2, HC⟩
    · exact ⟨_, _, rfl, fun i h => by simp at h⟩
    · exact ⟨_, _, rfl, fun i h => ⟨_, _, rfl, hb2, HC.out i h⟩⟩
  obtain ⟨ao, c, rfl, HC1⟩ := ha'
  obtain ⟨ao2, c2, rfl, HC2⟩ := hb'
  obtain ⟨n, hn⟩ : ∃ n, n = xs.length := ⟨_, rfl⟩
  obtain ⟨m, hm⟩ : ∃ m, m = ys.length := ⟨_, rfl⟩
  rw [← hn, ← hm]
  have hn9 : n ≤ 4611686018427387904 := by omega
  have hm9 : m ≤ 4611686018427387904 := by omega
  have HN := Lib.hid hn
  have HM := Lib.hid hm
  clear hn hm hl hl2 ha hb
  go_enter Try.func52, Try.ntmps52
  go_wp2
  go_loopw [5] (fun i wr => ∃ k : Nat, k ≤ n ∧ k ≤ m ∧ i = .int .i64 k ∧ Hid (xs.take k = ys.take k) ∧ Since w wr) (fun i _ => n - (intOf i).toNat)
  case atStart => exact ⟨0, Nat.zero_le _, Nat.zero_le _, rfl, rfl, Since.refl w⟩
  case round =>
    obtain ⟨k, hk, hkm, rfl, HT, hsin⟩ := hrel
    by_cases hlt : k < n
    · have hki : (k : Int) < (n : Int) := by omega
      by_cases hlm : k < m
      · have hkj : (k : Int) < (m : Int) := by omega
        have hk0 : (0 : Int) ≤ (k : Int) := by omega
        have hx : k < xs.length := by have := HN.out; omega
        have hy : k < ys.length := by have := HM.out; omega
        obtain ⟨b1, off1, rfl, hb1, h1'⟩ := HC1.out k hx
        obtain ⟨b2, off2, rfl, hb2, h2'⟩ := HC2.out k hy
        have h1 : wr.cell? ⟨b1, off1 + k, none⟩ = some (.int .i64 xs[k]) := (Below.cell hsin (p := ⟨b1, off1 + k, none⟩) hb1).trans h1'
        have h2 : wr.cell? ⟨b2, off2 + k, none⟩ = some (.int .i64 ys[k]) := (Below.cell hsin (p := ⟨b2, off2 + k, none⟩) hb2).trans h2'
        clear h1' h2'
        rcases cmpI_cases xs[k] ys[k] with ⟨h3, h4⟩ | ⟨h3, h4⟩ | ⟨h3, h4⟩
        · have HR := Lib.hid (lexC_lt xs ys k HT.out hx hy h3)
          have hd : decide (xs[k] < ys[k]) = true := by simpa using h3
          clear h4
          go_wp2
          go_quiet (fail)
          go_wp2
          go_ret
          exact ⟨ret_int HR.out.symm, by first | exact hsin.drewN _ | exact (hsin.drewN _).drewN _⟩
        · have HR := Lib.hid (lexC_gt xs ys k HT.out hx hy h3)
          have hd : decide (xs[k] < ys[k]) = false := by simp; omega
          have hd2 : decide (ys[k] < xs[k]) = true := by simpa using h3
          clear h4
          go_wp2
          go_quiet (fail)
          go_wp2
          go_quiet (fail)
          go_wp2
          go_ret
          exact ⟨ret_int HR.out.symm, by first | exact hsin.drewN _ | exact (hsin.drewN _).drewN _⟩
        · have HR := Lib.hid (take_eq_step k hx hy HT.out h3)
          have hd : decide (xs[k] < ys[k]) = false := by simp; omega
          have hd2 : decide (ys[k] < xs[k]) = false := by simp; omega
          clear h4 h3
          go_wp2
          go_quiet (fail)
          go_wp2
          go_quiet (fail)
          go_wp2
          go_roundw
          case rel => exact ⟨k + 1, by omega, by omega, by go_num, HR, by first | exact hsin.drewN _ | exact (hsin.drewN _).drewN _⟩
          case measure => simp [intOf]; omega
      · have hkj : ¬ (k : Int) < (m : Int) := by omega
        have hmk : (m : Int) < (n : Int) := by omega
        have hmk2 : ¬ (n : Int) < (m : Int) := by omega
        have HR : Hid (lexC xs ys = 1) := lexC_end_y xs ys (by have h := HT.out; rw [show k = ys.length from by have := HM.out; omega] at h; exact h) (by have := HM.out; have := HN.out; omega)
        go_wp2
        go_ret
        exact ⟨ret_int HR.out.symm, hsin⟩
    · obtain rfl : k = n := by omega
      have hki : ¬ (k : Int) < (k : Int) := by omega
      by_cases hnm : k < m
      · have hnmi : (k : Int) < (m : Int) := by omega
        have HR : Hid (lexC xs ys = -1) := lexC_end_x xs ys (by have h := HT.out; rw [HN.out] at h; exact h) (by have := HN.out; have := HM.out; omega)
        go_wp2
        go_ret
        exact ⟨ret_int HR.out.symm, hsin⟩
      · have hnmi : ¬ (k : Int) < (m : Int) := by omega
        have hnmj : ¬ (m : Int) < (k : Int) := by omega
        have HR : Hid (lexC xs ys = 0) := lexC_same xs ys k HN.out.symm (by have := HM.out; omega) HT.out
        go_wp2
        go_ret
        exact ⟨ret_int HR.out.symm, hsin⟩

theorem IntsAt.len {w : World} {v : Value} {xs : List Int} (h : IntsAt w v xs) : ∃ ao c, v = .slice ao xs.length c := by
  rcases h.open with ⟨ao2, c2, rfl, rfl⟩ | ⟨b2, off2, c2, rfl, hb2, HC⟩
  · exact ⟨_, _, rfl⟩
  · exact ⟨_, _, rfl⟩
end Go.Proofs.Ytikbobinkojnfaa
