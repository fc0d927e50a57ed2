/- Words: which lists are words, the reversed word. -/
import Derived.Test.YtfjlcmippnbhoaaDoorInts
import Derived.Test.YtfjlcmippnbhoaaDoorLet
namespace Go.Proofs.YtfjlcmippnbhoaaDoor
open Go.ChangeShapes Go.WideShapes Go.ChangeAt Go.RowKit
set_option linter.unusedVariables false

def letB (x : Int) : Bool := inB x 0 8
def isWordB (xs : List Int) : Bool := decide (xs.length ≤ 8) && xs.all letB
theorem all_take_snoc {xs : List Int} (k : Nat) (h : k < xs.length) (h1 : (xs.take k).all letB = true) (h2 : inB xs[k] 0 8 = true) : (xs.take (k + 1)).all letB = true := by
  rw [List.take_succ_eq_append_getElem h, List.all_append, h1]; simp [letB, h2]
theorem all_bad {xs : List Int} (k : Nat) (h : k < xs.length) (h2 : inB xs[k] 0 8 = false) : isWordB xs = false := by
  unfold isWordB
  rw [Bool.and_eq_false_iff]; right
  rw [List.all_eq_false]
  exact ⟨xs[k], List.getElem_mem h, by simp [letB, h2]⟩
theorem all_good {xs : List Int} (h : xs.all letB = true) : isWordB xs = decide (xs.length ≤ 8) := by simp [isWordB, h]

set_option maxRecDepth 100000 in
theorem specIW_any (v : Value) (xs : List Int) (w : World) (h : IntsAt w v xs) (hl : xs.length ≤ 1048577) :
    Calls Tryd.prog 25 #[v] w fun e w' => e = .returned (.bool (isWordB xs)) ∧ w = w' := by
  obtain ⟨_, ⟨rfl, ao, cap, rfl⟩ | ⟨b, off, cap, rfl, hb, hc⟩⟩ := h
  · go_enter Tryd.func25, Tryd.ntmps25
    go_wp2
    go_loop [3] (fun i => i = .int .i64 0) (fun _ => 0)
    case atStart => exact rfl
    case round =>
      subst hrel
      go_wp2
      go_ret
      exact ⟨ret_bool rfl, rfl⟩
  · have HC := Lib.hid hc
    clear hc
    obtain ⟨n, hn⟩ : ∃ n, n = xs.length := ⟨_, rfl⟩
    rw [← hn]
    have hn9 : n ≤ 1048577 := by omega
    have HN := Lib.hid hn
    clear hn hl
    go_enter Tryd.func25, Tryd.ntmps25
    go_wp2
    go_loop [3] (fun i => ∃ k : Nat, k ≤ n ∧ i = .int .i64 k ∧ Hid ((xs.take k).all letB = true)) (fun i => n - (intOf i).toNat)
    case atStart => exact ⟨0, Nat.zero_le _, rfl, rfl⟩
    case round =>
      obtain ⟨k, hk, rfl, HA⟩ := hrel
      by_cases hlt : k < n
      · have hx : k < xs.length := by have := HN.out; omega
        have hcell := HC.out k hx
        by_cases hg : inB xs[k] 0 8 = true
        · have HA2 := Lib.hid (all_take_snoc k hx HA.out hg)
          go_wp2_with (go_at_call 38; refine (l2Letter_any _ _).mono ?_; rintro e w' ⟨rfl, rfl⟩)
          go_round
          case rel => exact ⟨k + 1, by omega, by go_num, HA2⟩
          case measure => simp [intOf]; omega
        · have hg2 : inB xs[k] 0 8 = false := by simpa using hg
          have HB := Lib.hid (all_bad k hx hg2)
          clear hg
          go_wp2_with (go_at_call 38; refine (l2Letter_any _ _).mono ?_; rintro e w' ⟨rfl, rfl⟩)
          go_ret
          exact ⟨ret_bool HB.out.symm, rfl⟩
      · obtain rfl : k = n := by omega
        have HG : Hid (isWordB xs = decide (k ≤ 8)) := by
          have h1 := HA.out
          rw [List.take_of_length_le (by have := HN.out; omega)] at h1
          unfold Hid; rw [all_good h1, ← HN.out]
        by_cases h8 : k ≤ 8
        · have h8i : (k : Int) ≤ 8 := by omega
          go_wp2
          go_ret
          exact ⟨ret_bool (by rw [HG.out]; simp [h8]), rfl⟩
        · have h8i : ¬ (k : Int) ≤ 8 := by omega
          go_wp2
          go_ret
          exact ⟨ret_bool (by rw [HG.out]; simp [h8]), rfl⟩
set_option maxRecDepth 100000 in
theorem implIW_any (v : Value) (xs : List Int) (w : World) (h : IntsAt w v xs) (hl : xs.length ≤ 1048577) :
    Calls Tryd.prog 44 #[v] w fun e w' => e = .returned (.bool (isWordB xs)) ∧ w = w' := by
  obtain ⟨_, ⟨rfl, ao, cap, rfl⟩ | ⟨b, off, cap, rfl, hb, hc⟩⟩ := h
  · go_enter Tryd.func44, Tryd.ntmps44
    go_wp2
    go_loop [10] (fun i => i = .int .i64 0) (fun _ => 0)
    case atStart => exact rfl
    case round =>
      subst hrel
      go_wp2
      go_ret
      exact ⟨ret_bool rfl, rfl⟩
  · have HC := Lib.hid hc
    clear hc
    obtain ⟨n, hn⟩ : ∃ n, n = xs.length := ⟨_, rfl⟩
    rw [← hn]
    have hn9 : n ≤ 1048577 := by omega
    have HN := Lib.hid hn
    clear hn hl
    by_cases h8 : n ≤ 8
    · have hgt : ¬ (8 : Int) < (n : Int) := by omega
      have hgd : decide ((8 : Int) < (n : Int)) = false := by simp; omega
      go_enter Tryd.func44, Tryd.ntmps44
      go_wp2
      go_loop [10] (fun i => ∃ k : Nat, k ≤ n ∧ i = .int .i64 k ∧ Hid ((xs.take k).all letB = true)) (fun i => n - (intOf i).toNat)
      case atStart => exact ⟨0, Nat.zero_le _, rfl, rfl⟩
      case round =>
        obtain ⟨k, hk, rfl, HA⟩ := hrel
        by_cases hlt : k < n
        · have hx : k < xs.length := by have := HN.out; omega
          have hcell := HC.out k hx
          by_cases hg : inB xs[k] 0 8 = true
          · have HA2 := Lib.hid (all_take_snoc k hx HA.out hg)
            go_wp2_with (go_at_call 37; refine (isLetter_any _ _).mono ?_; rintro e w' ⟨rfl, rfl⟩)
            go_round
            case rel => exact ⟨k + 1, by omega, by go_num, HA2⟩
            case measure => simp [intOf]; omega
          · have hg2 : inB xs[k] 0 8 = false := by simpa using hg
            have HB := Lib.hid (all_bad k hx hg2)
            clear hg
            go_wp2_with (go_at_call 37; refine (isLetter_any _ _).mono ?_; rintro e w' ⟨rfl, rfl⟩)
            go_ret
            exact ⟨ret_bool HB.out.symm, rfl⟩
        · obtain rfl : k = n := by omega
          have HG : Hid (isWordB xs = decide (k ≤ 8)) := by
            have h1 := HA.out
            rw [List.take_of_length_le (by have := HN.out; omega)] at h1
            unfold Hid; rw [all_good h1, ← HN.out]
          go_wp2
          go_ret
          exact ⟨ret_bool (by rw [HG.out]; simp [h8]), rfl⟩
    · have hgt : (8 : Int) < (n : Int) := by omega
      have hgd : decide ((8 : Int) < (n : Int)) = true := by simpa using hgt
      have HB : Hid (isWordB xs = false) := by unfold Hid isWordB; rw [← HN.out]; simp [h8]
      go_enter Tryd.func44, Tryd.ntmps44
      go_wp2
      go_ret
      exact ⟨ret_bool HB.out.symm, rfl⟩

def revW (xs : List Int) : List Int := (xs.map invL).reverse
theorem revW_length (xs : List Int) : (revW xs).length = xs.length := by simp [revW]
theorem bits_in (a b : Int) : InI (bits .xor .i64 a b) := by
  show InI (IntKind.i64.wrap _)
  rw [IntKind.wrap_i64]; unfold InI; omega
theorem invL_in (x : Int) (h : InI x) : InI (invL x) := by
  unfold invL
  cases inB x 0 5
  · exact h
  · exact bits_in _ _
theorem revW_in (xs : List Int) (h : ∀ x ∈ xs, InI x) : ∀ x ∈ revW xs, InI x := by
  intro x hx
  simp [revW] at hx
  obtain ⟨y, hy, rfl⟩ := hx
  exact invL_in y (h y hy)
/-- What the model has appended when k elements are still to come. -/
theorem rev_drop_step (xs : List Int) (k : Nat) (h : k < xs.length) : ((xs.drop k).map invL).reverse = ((xs.drop (k + 1)).map invL).reverse ++ [invL xs[k]] := by
  rw [List.drop_eq_getElem_cons h, List.map_cons, List.reverse_cons]

/-- What the program's row holds when k elements have been turned: the last k are written. -/
def revFill (xs : List Int) (k : Nat) : List Value := List.replicate (xs.length - k) (icell 0) ++ (revW (xs.take k)).map icell
theorem revFill_zero (xs : List Int) : revFill xs 0 = List.replicate xs.length (icell 0) := by simp [revFill, revW]
theorem revFill_all (xs : List Int) : revFill xs xs.length = (revW xs).map icell := by simp [revFill]
theorem revFill_at (xs : List Int) (k j : Nat) (h : j + k + 1 = xs.length) : (revFill xs k)[j]? = some (icell 0) := by
  unfold revFill
  rw [List.getElem?_append_left (by simp; omega), List.getElem?_replicate, if_pos (by omega)]
theorem revFill_set (xs : List Int) (k j : Nat) (hk : k < xs.length) (h : j + k + 1 = xs.length) : (revFill xs k).set j (.int .i64 (invL xs[k])) = revFill xs (k + 1) := by
  unfold revFill
  rw [show xs.length - k = (xs.length - (k + 1)) + 1 from by omega, List.replicate_succ', List.append_assoc]
  rw [List.set_append_right _ _ (by simp; omega)]
  rw [show j - (List.replicate (xs.length - (k + 1)) (icell 0)).length = 0 from by simp; omega]
  have e : revW (xs.take k ++ [xs[k]]) = invL xs[k] :: revW (xs.take k) := by
    simp only [revW, List.map_append, List.map_cons, List.map_nil, List.reverse_append, List.reverse_cons, List.reverse_nil, List.nil_append, List.cons_append]
  rw [List.take_succ_eq_append_getElem hk, e]
  rfl

set_option maxRecDepth 100000 in
theorem specRW_any (v : Value) (xs : List Int) (w : World) (h : IntsAt w v xs) (hl : xs.length ≤ 1048577) :
    Calls Tryd.prog 24 #[v] w (OwnOut w (revW xs)) := by
  obtain ⟨hin, ⟨rfl, ao, cap, rfl⟩ | ⟨b, off, cap, rfl, hb, hc⟩⟩ := h
  · go_enter Tryd.func24, Tryd.ntmps24
    go_wp2
    go_loopw [3, 4] (fun v i wr => v = .slice (some ⟨w.heap.size, 0, none⟩) 0 0 ∧ i = .int .i64 (-1) ∧ wr = w.alloc (.cells #[] 3)) (fun _ _ _ => 0)
    case atStart => exact ⟨rfl, rfl, rfl⟩
    case round =>
      obtain ⟨rfl, rfl, rfl⟩ := hrel
      go_wp2
      go_ret
      exact ⟨_, rfl, ⟨fun x hx => by simp [revW] at hx, World.ownsRow_lit w _ 0 (Nat.le_refl _) (by decide) (by simp)⟩, (Since.refl w).alloc _⟩
  · have HC := Lib.hid hc
    have HIN := Lib.hid hin
    clear hc hin
    obtain ⟨n, hn⟩ : ∃ n, n = xs.length := ⟨_, rfl⟩
    rw [← hn]
    have hn9 : n ≤ 1048577 := by omega
    have HN := Lib.hid hn
    clear hn hl
    go_enter Tryd.func24, Tryd.ntmps24
    go_wp2
    go_loopw [3, 4] (fun out i wr => ∃ (k m : Nat), k ≤ n ∧ i = .int .i64 ((k : Int) - 1) ∧ Hid (m + k = n) ∧ wr.ownsRow w.heap.size 3 1 out m ((((xs.drop k).map invL).reverse).map icell) ∧ Since w wr) (fun _ i _ => (intOf i + 1).toNat)
    case atStart => exact ⟨n, 0, Nat.le_refl _, rfl, by unfold Hid; omega, by rw [List.drop_of_length_le (by have := HN.out; omega)]; exact World.ownsRow_lit w _ 0 (Nat.le_refl _) (by decide) (by simp), (Since.refl w).alloc _⟩
    case round =>
      obtain ⟨k, m, hk, rfl, HM, hown, hsin⟩ := hrel
      by_cases hlt : 1 ≤ k
      · obtain ⟨j, rfl⟩ : ∃ j, k = j + 1 := ⟨k - 1, by omega⟩
        have hx : j < xs.length := by have := HN.out; omega
        have hcell : wr.cell? ⟨b, off + j, none⟩ = some (.int .i64 xs[j]) := (Below.cell hsin (p := ⟨b, off + j, none⟩) hb).trans (HC.out j hx)
        have hji : ((j + 1 : Nat) : Int) - 1 = (j : Int) := by omega
        have HB1 : Hid ((m + 1) * 8 ≤ 140737488355328) := by have := HM.out; unfold Hid; omega
        have HB2 : Hid (m + 1 ≤ maxLen) := by have := HM.out; unfold Hid maxLen; omega
        rw [hji]
        clear hji
        go_wp2_with (first
          | (go_at_call 11; refine (specIL_any _ _).mono ?_; rintro e w' ⟨rfl, rfl⟩)
          | (at_builtin; go_must (refine append_cell rfl _ _ 30 rfl 3 (.int .i64 0) 8 Tryd.underlying30 info_int rfl _ m _ rfl hown hsin _ rfl rfl HB1.out HB2.out ?_); intro v' w1 hown1 hsin1))
        have hown2 : w1.ownsRow w.heap.size 3 1 v' (m + 1) ((((xs.drop j).map invL).reverse).map icell) := by
          rw [rev_drop_step xs j hx, List.map_append]; exact hown1
        go_roundw
        case rel => exact ⟨j, m + 1, by omega, by go_num, by have := HM.out; unfold Hid; omega, hown2, hsin1⟩
        case measure => simp [intOf]
      · obtain rfl : k = 0 := by omega
        have hown2 : wr.ownsRow w.heap.size 3 1 u3 (revW xs).length ((revW xs).map icell) := by
          rw [revW_length, ← HN.out, show n = m from by have := HM.out; omega]; exact hown
        go_wp2
        go_ret
        exact ⟨_, rfl, ⟨revW_in xs HIN.out, hown2⟩, hsin⟩

set_option maxRecDepth 100000 in
theorem implRW_any (v : Value) (xs : List Int) (w : World) (h : IntsAt w v xs) (hl : xs.length ≤ 1048577) :
    Calls Tryd.prog 21 #[v] w (OwnOut w (revW xs)) := by
  obtain ⟨i0, hi, hz0, hz1, hz2⟩ := info_parts info_int
  have HZ2 := Lib.hid hz2
  clear hz2
  obtain ⟨hin, ⟨rfl, ao, cap, rfl⟩ | ⟨b, off, cap, rfl, hb, hcell⟩⟩ := h
  · go_enter Tryd.func21, Tryd.ntmps21
    go_wp2_with (at_make; go_must (refine wpList_make_full _ rfl _ _ 30 rfl w.heap.size 3 i0 (.int .i64 0) 1 Tryd.underlying30 hi hz0 hz1 .i64 .i64 _ _ 0 rfl rfl rfl rfl (by rw [HZ2.out]; omega) (by unfold maxLen; omega) (Nat.le_refl _) ?_); intro w1 hown hgrow)
    have hsin : Since w w1 := (Since.refl w).grown hgrow (fun _ h => by simp at h)
    rw [made_ints] at hown
    go_loopw [11] (fun i wr => i = .int .i64 0 ∧ wr = w1) (fun _ _ => 0)
    case atStart => exact ⟨rfl, rfl⟩
    case round =>
      obtain ⟨rfl, rfl⟩ := hrel
      go_wp2
      go_ret
      exact ⟨_, rfl, ⟨fun x hx => by simp [revW] at hx, hown⟩, hsin⟩
  · have HIN := Lib.hid hin
    have HCELL := Lib.hid hcell
    clear hin hcell
    obtain ⟨n, hn⟩ : ∃ n, n = xs.length := ⟨_, rfl⟩
    rw [← hn]
    have hn9 : n ≤ 1048577 := by omega
    have HN := Lib.hid hn
    clear hn hl
    go_enter Tryd.func21, Tryd.ntmps21
    go_wp2_with (at_make; go_must (refine wpList_make_full _ rfl _ _ 30 rfl w.heap.size 3 i0 (.int .i64 0) 1 Tryd.underlying30 hi hz0 hz1 .i64 .i64 _ _ n rfl rfl rfl rfl (by rw [HZ2.out]; omega) (by unfold maxLen; omega) (Nat.le_refl _) ?_); intro w1 hown hgrow)
    have hsin : Since w w1 := (Since.refl w).grown hgrow (fun _ h => by simp at h)
    have hrow : w1.ownsRow w.heap.size 3 1 (.slice (some ⟨w.heap.size, 0, none⟩) n n) n (revFill xs 0) := by
      rw [revFill_zero, ← HN.out]
      rw [made_ints] at hown
      exact hown
    clear hown hgrow
    go_loopw [11] (fun i wr => ∃ k : Nat, k ≤ n ∧ i = .int .i64 k ∧ wr.ownsRow w.heap.size 3 1 (.slice (some ⟨w.heap.size, 0, none⟩) n n) n (revFill xs k) ∧ Since w wr) (fun i _ => n - (intOf i).toNat)
    case atStart => exact ⟨0, Nat.zero_le _, rfl, hrow, hsin⟩
    case round =>
      obtain ⟨k, hk, rfl, hown, hsin⟩ := hrel
      by_cases hlt : k < n
      · have hkx : k < xs.length := by have := HN.out; omega
        have hsrc : wr.cell? ⟨b, off + k, none⟩ = some (.int .i64 xs[k]) := (Below.cell hsin (p := ⟨b, off + k, none⟩) hb).trans (HCELL.out k hkx)
        obtain ⟨j, hj⟩ : ∃ j, j + k + 1 = n := ⟨n - 1 - k, by omega⟩
        have hji : (n : Int) - 1 - (k : Int) = (j : Int) := by omega
        have hjn : (n : Int) - 1 = ((j + k : Nat) : Int) := by omega
        have hj1 : (j : Int) < (n : Int) := by omega
        have hj2 : j < n := by omega
        have hdst : (wr.cell? ⟨w.heap.size, j, none⟩) = some (icell 0) := (hown.cellAt j (by omega)).trans (revFill_at xs k j (by have := HN.out; omega))
        unfold icell at hdst
        have hfz := hown.frozenAt j
        have hst := (hown.stored j (.int .i64 (invL xs[k]))).1
        rw [revFill_set xs k j hkx (by have := HN.out; omega)] at hst
        have HST := Lib.hid hst
        have HJ := Lib.hid hj
        clear hst hj hjn
        go_wp2_with (go_at_call 10; refine (implIL_any _ _).mono ?_; rintro e w' ⟨rfl, rfl⟩)
        go_roundw
        case rel => exact ⟨k + 1, by omega, by go_num, HST.out, hsin.setCell (Nat.le_refl _) _⟩
        case measure => simp [intOf]; omega
      · obtain rfl : k = n := by omega
        have hfin := revFill_all xs
        rw [← HN.out] at hfin
        rw [hfin] at hown
        go_wp2
        go_ret
        exact ⟨_, rfl, ⟨revW_in xs HIN.out, by rw [revW_length, ← HN.out]; exact hown⟩, hsin⟩
end Go.Proofs.YtfjlcmippnbhoaaDoor
