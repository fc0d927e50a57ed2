/- IsExpr and IsValidExpr, the program's and the model's. -/
import Derived.Test.YtblmiocjhbpklaaDoorTof8
namespace Go.Proofs.YtblmiocjhbpklaaDoor
set_option maxRecDepth 100000
open Go.ChangeShapes Go.WideShapes Go.ChangeAt Go.RowKit
set_option linter.unusedVariables false
set_option linter.unusedSimpArgs false

theorem ari_push {s s' : List Tr} {t : Tok} (h : pushT s t = some s') : ariT t = (opN t : Int) ∧ opN t ≤ s.length ∧ s'.length = s.length - opN t + 1 := by
  obtain ⟨h1, h2, h3⟩ := pushT_len h
  exact ⟨by unfold ariT; rw [if_pos h1], h2, h3⟩
theorem ari_stop {s : List Tr} {t : Tok} (h : pushT s t = none) : ariT t < 0 ∨ (s.length : Int) < ariT t := by
  unfold pushT at h
  split at h
  · cases h
  · rename_i hc
    unfold ariT
    by_cases hok : okT t = true
    · rw [if_pos hok]
      right
      have : ¬ opN t ≤ s.length := fun h => hc ⟨hok, h⟩
      omega
    · rw [if_neg hok]; left; decide
theorem ari_le (t : Tok) : -1 ≤ ariT t ∧ ariT t ≤ 2 := by
  have := opN_le t
  unfold ariT
  split <;> omega
set_option maxHeartbeats 1000000 in
set_option maxRecDepth 100000 in
theorem specIX_any (v : Value) (xs : List Tok) (w : World) (h : ExAt w v xs) (hl : xs.length ≤ 1048577) :
    Calls Tryd.prog 68 #[v] w fun e w' => e = .returned (.bool (isXB xs)) ∧ Since w w' := by
  obtain ⟨a, rfl, ha⟩ := h
  obtain ⟨ao, ac, rfl, HC⟩ := ha.row
  clear ha
  obtain ⟨n, hn⟩ : ∃ n, n = xs.length := ⟨_, rfl⟩
  rw [← hn]
  have HN := Lib.hid hn
  have hn9 : n ≤ 1048577 := by omega
  clear hn hl
  obtain ⟨y, hy⟩ : ∃ y, y = w.alloc (.cells #[.slice ao n ac] 26) := ⟨_, rfl⟩
  have hsy : Since w y := by rw [hy]; exact (Since.refl w).alloc _
  have BE : Hid (Blk y w.heap.size 26 #[.slice ao n ac]) := by rw [hy]; exact Blk.new rfl _ _
  go_enter Tryd.func68, Tryd.ntmps68
  go_wp2_with fail
  rw [← hy]
  clear hy
  go_loopw [3, 4] (fun d i wr => ∃ (k : Nat) (s : List Tr) (m : Nat), k ≤ n ∧ i = .int .i64 k ∧ d = .int .i64 m ∧ Hid (m = s.length) ∧ Hid (stk [] (xs.take k) = some s) ∧ Hid (Since y wr)) (fun _ i _ => n - (intOf i).toNat)
  case atStart => exact ⟨0, [], 0, Nat.zero_le _, rfl, rfl, rfl, rfl, Since.refl y⟩
  case round =>
    obtain ⟨k, s, m, hk, rfl, rfl, HM, HS, HW⟩ := hrel
    obtain ⟨p0, p1⟩ := (BE.out.since HW.out).one
    have hm9 : m ≤ 1048577 := by have := stk_len HS.out; have := HM.out; simp at *; omega
    by_cases hlt : k < n
    · have hx : k < xs.length := by have := HN.out; omega
      obtain ⟨b, off, rfl, hb, c0, c1, c2, c3⟩ := HC.out k hx
      have s1 := since_cells (hsy.trans HW.out) hb
      rw [← s1] at c0 c1 c2 c3
      clear s1
      have hki : (k : Int) < (n : Int) := by omega
      have hk0 : (0 : Int) ≤ (k : Int) := by omega
      have HST := Lib.hid (stk_step hx HS.out)
      have HSTOP : Hid (pushT s xs[k] = none → isXB xs = false) := fun h => isXB_none (stk_stop hx HS.out h)
      obtain ⟨t, ht⟩ : ∃ t, t = xs[k] := ⟨_, rfl⟩
      rw [← ht] at c0 c1 c2 c3 HST HSTOP
      clear ht
      go_wp2_with fail
      clear c0 c1 c2 c3 p0 p1
      refine (l8Arity_any t _).mono ?_
      rintro e w1 ⟨rfl, hs1⟩
      have hyw := HW.out.trans hs1
      obtain ⟨a, ha⟩ : ∃ a, a = ariT t := ⟨_, rfl⟩
      have hal := ari_le t
      rw [← ha] at hal ⊢
      have HA := Lib.hid ha
      clear ha
      obtain ⟨p0, p1⟩ := (BE.out.since hyw).one
      cases hp : pushT s t with
      | none =>
        have hst := ari_stop hp
        rw [← HA.out, ← HM.out] at hst
        have HB := Lib.hid (HSTOP.out hp)
        clear hp
        by_cases ha0 : a < 0
        · go_wp2
          go_ret
          exact ⟨ret_bool HB.out.symm, hsy.trans hyw⟩
        · have ham : (m : Int) < a := by omega
          go_wp2
          go_ret
          exact ⟨ret_bool HB.out.symm, hsy.trans hyw⟩
      | some s2 =>
        obtain ⟨q1, q2, q3⟩ := ari_push hp
        rw [← HA.out] at q1
        have ha0 : ¬ a < 0 := by omega
        have ham : ¬ (m : Int) < a := by have := HM.out; omega
        have HST2 : Hid (stk [] (xs.take (k + 1)) = some s2) := by unfold Hid; rw [HST.out, hp]
        have hm2 : Hid (m - opN t + 1 = s2.length) := by unfold Hid; rw [q3, HM.out]
        have hmi : (m : Int) - a + 1 = ((m - opN t + 1 : Nat) : Int) := by have := HM.out; omega
        have HMI := Lib.hid hmi
        clear hp q1 q2 q3 hmi
        go_wp2
        go_roundw
        case rel => exact ⟨k + 1, s2, m - opN t + 1, by omega, by go_num, by rw [← HMI.out], hm2.out, HST2.out, hyw⟩
        case measure => simp [intOf]; omega
    · obtain rfl : k = n := by omega
      have hfull : stk [] xs = some s := by
        have := HS.out
        rw [List.take_of_length_le (by have := HN.out; omega)] at this
        exact this
      have HB := Lib.hid (isXB_of hfull)
      rw [← HM.out] at HB
      clear hfull
      by_cases h1 : m = 1
      · subst h1
        go_wp2
        go_ret
        exact ⟨ret_bool (by rw [HB.out]; rfl), hsy.trans HW.out⟩
      · have hb1 : ((m : Int) == 1) = false := by simp; omega
        have HB2 : Hid (isXB xs = false) := by unfold Hid; rw [HB.out]; exact decide_eq_false h1
        clear h1
        go_wp2
        go_ret
        exact ⟨ret_bool HB2.out.symm, hsy.trans HW.out⟩
theorem tree_ptr {w : World} {xs : List Tok} {lo hi : Nat} {v : Value} (h : TreeAt w (treeT xs) lo hi v) : (isXB xs = false ∧ v = .pointer none) ∨ (isXB xs = true ∧ ∃ g, v = .pointer (some ⟨g, 0, none⟩)) := by
  cases ho : treeO xs with
  | none =>
    left
    unfold treeT at h
    rw [ho] at h
    exact ⟨by unfold isXB; rw [ho]; rfl, h⟩
  | some T =>
    right
    unfold treeT at h
    rw [ho] at h
    have hk := (treeO_some ho).1
    refine ⟨by unfold isXB; rw [ho]; rfl, ?_⟩
    cases T with
    | nil => exact hk.elim
    | node t l r => obtain ⟨_, g, _, _, _, _, _, _, e, _⟩ := h; exact ⟨g, e⟩
set_option maxRecDepth 100000 in
theorem implIX_any (v : Value) (xs : List Tok) (w : World) (hf : Forms w) (h : ExAt w v xs) (hl : xs.length ≤ 1048577) :
    Calls Tryd.prog 101 #[v] w fun e w' => e = .returned (.bool (isXB xs)) ∧ Since w w' := by
  obtain ⟨a, rfl, ha⟩ := h
  have HA := Lib.hid ha
  obtain ⟨ao, ac, rfl⟩ := ha.len
  clear ha
  have hs0 : Since w (w.alloc (.cells #[.slice ao xs.length ac] 26)) := (Since.refl w).alloc _
  have HF := Lib.hid (hf.since hs0)
  clear hf
  go_enter Tryd.func101, Tryd.ntmps101
  go_wp2_with fail
  refine (treeOf_any _ xs _ HF.out ⟨_, rfl, HA.out.since hs0⟩ hl).mono ?_
  rintro e w1 ⟨v1, rfl, ht, hs1⟩
  have hs01 := hs0.trans hs1
  rcases tree_ptr ht with ⟨hb, rfl⟩ | ⟨hb, g, rfl⟩
  all_goals
    have HB := Lib.hid hb
    clear ht hb
    go_wp2
    go_ret
    exact ⟨ret_bool HB.out.symm, hs01⟩
theorem validXB_of (xs : List Tok) : validXB xs = (decide (xs.length ≤ 24) && isXB xs) := rfl
set_option maxRecDepth 100000 in
theorem specVX_any (v : Value) (xs : List Tok) (w : World) (h : ExAt w v xs) (hl : xs.length ≤ 1048577) :
    Calls Tryd.prog 23 #[v] w fun e w' => e = .returned (.bool (validXB xs)) ∧ Since w w' := by
  obtain ⟨a, rfl, ha⟩ := h
  have HA := Lib.hid ha
  obtain ⟨ao, ac, rfl⟩ := ha.len
  clear ha
  have hs0 : Since w (w.alloc (.cells #[.slice ao xs.length ac] 26)) := (Since.refl w).alloc _
  rw [validXB_of]
  by_cases h24 : xs.length ≤ 24
  · rw [decide_eq_true h24, Bool.true_and]
    have h24i : (xs.length : Int) ≤ 24 := by omega
    clear h24
    go_enter Tryd.func23, Tryd.ntmps23
    go_wp2_with fail
    refine (specIX_any _ xs _ ⟨_, rfl, HA.out.since hs0⟩ hl).mono ?_
    rintro e w1 ⟨rfl, hs1⟩
    have hs01 := hs0.trans hs1
    obtain ⟨z, hz⟩ : ∃ z, z = isXB xs := ⟨_, rfl⟩
    rw [← hz]
    have HZ := Lib.hid hz
    clear hz
    go_wp2
    go_ret
    exact ⟨ret_bool HZ.out, hs01⟩
  · rw [decide_eq_false h24, Bool.false_and]
    have h24i : ¬ (xs.length : Int) ≤ 24 := by omega
    clear h24
    go_enter Tryd.func23, Tryd.ntmps23
    go_wp2
    go_ret
    exact ⟨rfl, hs0⟩
set_option maxRecDepth 100000 in
theorem implVX_any (v : Value) (xs : List Tok) (w : World) (hf : Forms w) (h : ExAt w v xs) (hl : xs.length ≤ 1048577) :
    Calls Tryd.prog 48 #[v] w fun e w' => e = .returned (.bool (validXB xs)) ∧ Since w w' := by
  obtain ⟨a, rfl, ha⟩ := h
  have HA := Lib.hid ha
  obtain ⟨ao, ac, rfl⟩ := ha.len
  clear ha
  have hs0 : Since w (w.alloc (.cells #[.slice ao xs.length ac] 26)) := (Since.refl w).alloc _
  have HF := Lib.hid (hf.since hs0)
  rw [validXB_of]
  by_cases h24 : xs.length ≤ 24
  · rw [decide_eq_true h24, Bool.true_and]
    have h24i : (xs.length : Int) ≤ 24 := by omega
    clear h24
    go_enter Tryd.func48, Tryd.ntmps48
    go_wp2_with fail
    refine (implIX_any _ xs _ HF.out ⟨_, rfl, HA.out.since hs0⟩ hl).mono ?_
    rintro e w1 ⟨rfl, hs1⟩
    have hs01 := hs0.trans hs1
    obtain ⟨z, hz⟩ : ∃ z, z = isXB xs := ⟨_, rfl⟩
    rw [← hz]
    have HZ := Lib.hid hz
    clear hz
    go_wp2
    go_ret
    exact ⟨ret_bool HZ.out, hs01⟩
  · rw [decide_eq_false h24, Bool.false_and]
    have h24i : ¬ (xs.length : Int) ≤ 24 := by omega
    clear h24
    go_enter Tryd.func48, Tryd.ntmps48
    go_wp2
    go_ret
    exact ⟨rfl, hs0⟩
end Go.Proofs.YtblmiocjhbpklaaDoor
