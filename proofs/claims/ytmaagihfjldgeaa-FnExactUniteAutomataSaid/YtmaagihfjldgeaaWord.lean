/- Words: which lists are words, the reversed word. -/
import Derived.Test.YtmaagihfjldgeaaK0
namespace Go.Proofs.Ytmaagihfjldgeaa
set_option maxRecDepth 100000
open Go.ChangeShapes Go.WideShapes Go.ChangeAt Go.RowKit
set_option linter.unusedVariables false

def letB (x : Int) : Bool := inB x 0 8
def isWordB (xs : List Int) : Bool := decide (xs.length ≤ 8) && xs.all letB
theorem all_take_snoc {xs : List Int} (k : Nat) (h : k < xs.length) (h1 : (xs.take k).all letB = true) (h2 : inB xs[k] 0 8 = true) : (xs.take (k + 1)).all letB = true := by
  rw [List.take_succ_eq_append_getElem h, List.all_append, h1]; simp [letB, h2]
theorem all_bad {xs : List Int} (k : Nat) (h : k < xs.length) (h2 : inB xs[k] 0 8 = false) : isWordB xs = false := by
  unfold isWordB
  rw [Bool.and_eq_false_iff]; right
  rw [List.all_eq_false]
  exact ⟨xs[k], List.getElem_mem h, by simp [letB, h2]⟩
theorem all_good {xs : List Int} (h : xs.all letB = true) : isWordB xs = decide (xs.length ≤ 8) := by simp [isWordB, h]

set_option maxRecDepth 100000 in
theorem specIW_any (v : Value) (xs : List Int) (w : World) (h : IntsAt w v xs) (hl : xs.length ≤ 1048577) :
    Calls Try.prog 26 #[v] w fun e w' => e = .returned (.bool (isWordB xs)) ∧ w = w' := by
  obtain ⟨_, ⟨rfl, ao, cap, rfl⟩ | ⟨b, off, cap, rfl, hb, hc⟩⟩ := h
  · go_enter Try.func26, Try.ntmps26
    go_wp2
    go_loop [3] (fun i => i = .int .i64 0) (fun _ => 0)
    case atStart => exact rfl
    case round =>
      subst hrel
      go_wp2
      go_ret
      exact ⟨ret_bool rfl, rfl⟩
  · have HC := Lib.hid hc
    clear hc
    obtain ⟨n, hn⟩ : ∃ n, n = xs.length := ⟨_, rfl⟩
    rw [← hn]
    have hn9 : n ≤ 1048577 := by omega
    have HN := Lib.hid hn
    clear hn hl
    go_enter Try.func26, Try.ntmps26
    go_wp2
    go_loop [3] (fun i => ∃ k : Nat, k ≤ n ∧ i = .int .i64 k ∧ Hid ((xs.take k).all letB = true)) (fun i => n - (intOf i).toNat)
    case atStart => exact ⟨0, Nat.zero_le _, rfl, rfl⟩
    case round =>
      obtain ⟨k, hk, rfl, HA⟩ := hrel
      by_cases hlt : k < n
      · have hx : k < xs.length := by have := HN.out; omega
        have hcell := HC.out k hx
        by_cases hg : inB xs[k] 0 8 = true
        · have HA2 := Lib.hid (all_take_snoc k hx HA.out hg)
          go_wp2_with (go_at_call 84; refine (l2Letter_any _ _).mono ?_; rintro e w' ⟨rfl, rfl⟩)
          go_round
          case rel => exact ⟨k + 1, by omega, by go_num, HA2⟩
          case measure => simp [intOf]; omega
        · have hg2 : inB xs[k] 0 8 = false := by simpa using hg
          have HB := Lib.hid (all_bad k hx hg2)
          clear hg
          go_wp2_with (go_at_call 84; refine (l2Letter_any _ _).mono ?_; rintro e w' ⟨rfl, rfl⟩)
          go_ret
          exact ⟨ret_bool HB.out.symm, rfl⟩
      · obtain rfl : k = n := by omega
        have HG : Hid (isWordB xs = decide (k ≤ 8)) := by
          have h1 := HA.out
          rw [List.take_of_length_le (by have := HN.out; omega)] at h1
          unfold Hid; rw [all_good h1, ← HN.out]
        by_cases h8 : k ≤ 8
        · have h8i : (k : Int) ≤ 8 := by omega
          go_wp2
          go_ret
          exact ⟨ret_bool (by rw [HG.out]; simp [h8]), rfl⟩
        · have h8i : ¬ (k : Int) ≤ 8 := by omega
          go_wp2
          go_ret
          exact ⟨ret_bool (by rw [HG.out]; simp [h8]), rfl⟩
set_option maxRecDepth 100000 in
theorem implIW_any (v : Value) (xs : List Int) (w : World) (h : IntsAt w v xs) (hl : xs.length ≤ 1048577) :
    Calls Try.prog 85 #[v] w fun e w' => e = .returned (.bool (isWordB xs)) ∧ w = w' := by
  obtain ⟨_, ⟨rfl, ao, cap, rfl⟩ | ⟨b, off, cap, rfl, hb, hc⟩⟩ := h
  · go_enter Try.func85, Try.ntmps85
    go_wp2
    go_loop [10] (fun i => i = .int .i64 0) (fun _ => 0)
    case atStart => exact rfl
    case round =>
      subst hrel
      go_wp2
      go_ret
      exact ⟨ret_bool rfl, rfl⟩
  · have HC := Lib.hid hc
    clear hc
    obtain ⟨n, hn⟩ : ∃ n, n = xs.length := ⟨_, rfl⟩
    rw [← hn]
    have hn9 : n ≤ 1048577 := by omega
    have HN := Lib.hid hn
    clear hn hl
    by_cases h8 : n ≤ 8
    · have hgt : ¬ (8 : Int) < (n : Int) := by omega
      have hgd : decide ((8 : Int) < (n : Int)) = false := by simp; omega
      go_enter Try.func85, Try.ntmps85
      go_wp2
      go_loop [10] (fun i => ∃ k : Nat, k ≤ n ∧ i = .int .i64 k ∧ Hid ((xs.take k).all letB = true)) (fun i => n - (intOf i).toNat)
      case atStart => exact ⟨0, Nat.zero_le _, rfl, rfl⟩
      case round =>
        obtain ⟨k, hk, rfl, HA⟩ := hrel
        by_cases hlt : k < n
        · have hx : k < xs.length := by have := HN.out; omega
          have hcell := HC.out k hx
          by_cases hg : inB xs[k] 0 8 = true
          · have HA2 := Lib.hid (all_take_snoc k hx HA.out hg)
            go_wp2_with (go_at_call 139; refine (isLetter_any _ _).mono ?_; rintro e w' ⟨rfl, rfl⟩)
            go_round
            case rel => exact ⟨k + 1, by omega, by go_num, HA2⟩
            case measure => simp [intOf]; omega
          · have hg2 : inB xs[k] 0 8 = false := by simpa using hg
            have HB := Lib.hid (all_bad k hx hg2)
            clear hg
            go_wp2_with (go_at_call 139; refine (isLetter_any _ _).mono ?_; rintro e w' ⟨rfl, rfl⟩)
            go_ret
            exact ⟨ret_bool HB.out.symm, rfl⟩
        · obtain rfl : k = n := by omega
          have HG : Hid (isWordB xs = decide (k ≤ 8)) := by
            have h1 := HA.out
            rw [List.take_of_length_le (by have := HN.out; omega)] at h1
            unfold Hid; rw [all_good h1, ← HN.out]
          go_wp2
          go_ret
          exact ⟨ret_bool (by rw [HG.out]; simp [h8]), rfl⟩
    · have hgt : (8 : Int) < (n : Int) := by omega
      have hgd : decide ((8 : Int) < (n : Int)) = true := by simpa using hgt
      have HB : Hid (isWordB xs = false) := by unfold Hid isWordB; rw [← HN.out]; simp [h8]
      go_enter Try.func85, Try.ntmps85
      go_wp2
      go_ret
      exact ⟨ret_bool HB.out.symm, rfl⟩

def revW (xs : List Int) : List Int := (xs.map invL).reverse
theorem revW_length (xs : List Int) : (revW xs).length = xs.length := by simp [revW]
theorem bits_in (a b : Int) : InI (bits .xor .i64 a b) := by
  show InI (IntKind.i64.wrap _)
  rw [IntKind.wrap_i64]; unfold InI; omega
theorem invL_in (x : Int) (h : InI x) : InI (invL x) := by
  unfold invL
  cases inB x 0 5
  · exact h
  · exact bits_in _ _
theorem revW_in (xs : List Int) (h : ∀ x ∈ xs, InI x) : ∀ x ∈ revW xs, InI x := by
  intro x hx
  simp [revW] at hx
  obtain ⟨y, hy, rfl⟩ := hx
  exact invL_in y (h y hy)
/-- What the model has appended when k elements are still to come. -/
theorem rev_drop_step (xs : List Int) (k : Nat) (h : k < xs.length) : ((xs.drop k).map invL).reverse = ((xs.drop (k + 1)).map invL).reverse ++ [invL xs[k]] := by
  rw [List.drop_eq_getElem_cons h, List.map_cons, List.reverse_cons]

/-- What the program's row holds when k elements have been turned: the last k are written. -/
def revFill (xs : List Int) (k : Nat) : List Value := List.replicate (xs.length - k) (icell 0) ++ (revW (xs.take k)).map icell
theorem revFill_zero (xs : List Int) : revFill xs 0 = List.replicate xs.length (icell 0) := by simp [revFill, revW]
theorem revFill_all (xs : List Int) : revFill xs xs.length = (revW xs).map icell := by simp [revFill]
theorem revFill_at (xs : List Int) (k j : Nat) (h : j + k + 1 = xs.length) : (revFill xs k)[j]? = some (icell 0) := by
  unfold revFill
  rw [List.getElem?_append_left (by simp; omega), List.getElem?_replicate, if_pos (by omega)]
theorem revFill_set (xs : List Int) (k j : Nat) (hk : k < xs.length) (h : j + k + 1 = xs.length) : (revFill xs k).set j (.int .i64 (invL xs[k])) = revFill xs (k + 1) := by
  unfold revFill
  rw [show xs.length - k = (xs.length - (k + 1)) + 1 from by omega, List.replicate_succ', List.append_assoc]
  rw [List.set_append_right _ _ (by simp; omega)]
  rw [show j - (List.replicate (xs.length - (k + 1)) (icell 0)).length = 0 from by simp; omega]
  have e : revW (xs.take k ++ [xs[k]]) = invL xs[k] :: revW (xs.take k) := by
    simp only [revW, List.map_append, List.map_cons, List.map_nil, List.reverse_append, List.reverse_cons, List.reverse_nil, List.nil_append, List.cons_append]
  rw [List.take_succ_eq_append_getElem hk, e]
  rfl

end Go.Proofs.Ytmaagihfjldgeaa
