/- The laws' comparisons, marks and checks of lists of steps. -/
import Derived.Test.YtpmkpeclfhmhlaaK3
namespace Go.Proofs.Ytpmkpeclfhmhlaa
set_option maxRecDepth 100000
open Go.ChangeShapes Go.WideShapes Go.ChangeAt Go.RowKit
set_option linter.unusedVariables false
set_option linter.unusedSimpArgs false

theorem eqStep_any (a b : Stp) (w : World) : Calls Try.prog 72 #[sv a, sv b] w fun en w' => en = .returned (.bool (decide (a = b))) ∧ Since w w' := by
  obtain ⟨ai, ax⟩ := a
  obtain ⟨bi, bx⟩ := b
  have hs : Since w ((w.alloc (.cells #[.int .i64 ai, .bool ax] 49)).alloc (.cells #[.int .i64 bi, .bool bx] 49)) := ((Since.refl w).alloc _).alloc _
  have hd : Hid (decide ((⟨ai, ax⟩ : Stp) = ⟨bi, bx⟩) = (ai == bi && ax == bx)) := by
    unfold Hid
    rw [Bool.eq_iff_iff]; simp only [decide_eq_true_eq, Stp.eq_iff, Bool.and_eq_true, beq_iff_eq]
  rw [hd.out]
  clear hd
  unfold sv
  dsimp only
  by_cases h1 : ai = bi
  · have n1 : (ai != bi) = false := by simpa using h1
    have n2 : Hid ((ai == bi) = true) := by unfold Hid; simpa using h1
    rw [n2.out]
    clear h1 n2
    cases ax <;> cases bx
    all_goals
      go_enter Try.func72, Try.ntmps72
      go_wp2
      go_ret
      exact ⟨rfl, hs⟩
  · have n1 : (ai != bi) = true := by simpa using h1
    have n2 : Hid ((ai == bi) = false) := by unfold Hid; simpa using h1
    rw [n2.out]
    clear h1 n2
    go_enter Try.func72, Try.ntmps72
    go_wp2
    go_ret
    exact ⟨rfl, hs⟩
theorem take_eq_stepS {xs ys : List Stp} (k : Nat) (h1 : k < xs.length) (h2 : k < ys.length) (h : xs.take k = ys.take k) (he : xs[k] = ys[k]) : xs.take (k + 1) = ys.take (k + 1) := by
  rw [List.take_succ_eq_append_getElem h1, List.take_succ_eq_append_getElem h2, h, he]
theorem ne_of_atS {xs ys : List Stp} (k : Nat) (h1 : k < xs.length) (h2 : k < ys.length) (he : xs[k] ≠ ys[k]) : xs ≠ ys := by
  intro e; subst e; exact he rfl
set_option maxRecDepth 100000 in
theorem eqStepS_any (a b : Value) (xs ys : List Stp) (w : World) (ha : StpsAt w a xs) (hb : StpsAt w b ys) (hl : xs.length ≤ 1152921504606846976) (hl2 : ys.length ≤ 1152921504606846976) :
    Calls Try.prog 37 #[a, b] w fun e w' => e = .returned (.bool (decide (xs = ys))) ∧ Since w w' := by
  obtain ⟨ao1, cap1, rfl, HC1⟩ := ha
  obtain ⟨ao2, cap2, rfl, HC2⟩ := hb
  by_cases hlen : xs.length = ys.length
  · rw [← hlen]
    obtain ⟨n, hn⟩ : ∃ n, n = xs.length := ⟨_, rfl⟩
    rw [← hn]
    have hn9 : n ≤ 1152921504606846976 := by omega
    have HN := Lib.hid hn
    have HN2 : Hid (n = ys.length) := by rw [hn]; exact hlen
    have HNE : (((n : Nat) : Int) != ((n : Nat) : Int)) = false := by simp
    clear hn hlen hl hl2
    go_enter Try.func37, Try.ntmps37
    go_wp2
    go_loopw [5] (fun i wr => ∃ k : Nat, k ≤ n ∧ i = .int .i64 k ∧ Hid (xs.take k = ys.take k) ∧ Since w wr) (fun i _ => n - (intOf i).toNat)
    case atStart => exact ⟨0, Nat.zero_le _, rfl, rfl, Since.refl w⟩
    case round =>
      obtain ⟨k, hk, rfl, HT, hsin⟩ := hrel
      by_cases hlt : k < n
      · have hx : k < xs.length := by have := HN.out; omega
        have hy : k < ys.length := by have := HN2.out; omega
        obtain ⟨b1, off1, rfl, hb1, c10, c11⟩ := HC1.out k hx
        obtain ⟨b2, off2, rfl, hb2, c20, c21⟩ := HC2.out k hy
        have s1 := since_cells hsin hb1
        have s2 := since_cells hsin hb2
        rw [← s1] at c10 c11
        rw [← s2] at c20 c21
        clear s1 s2
        have hki : (k : Int) < (n : Int) := by omega
        have hk0 : (0 : Int) ≤ (k : Int) := by omega
        go_wp2
        by_cases he : xs[k] = ys[k]
        · have HE := Lib.hid (show decide (xs[k] = ys[k]) = true from decide_eq_true he)
          have HF := Lib.hid (take_eq_stepS k hx hy HT.out he)
          clear he
          go_still_tail 8, (by kernel_rfl)
          go_wp2_with fail
          refine (eqStep_any xs[k] ys[k] _).mono ?_
          rintro e w1 ⟨rfl, hs1⟩
          rw [HE.out]
          have hs := hsin.trans (Since.of_drew hs1)
          go_wp2
          go_roundw
          case rel => exact ⟨k + 1, by omega, by go_num, HF, hs⟩
          case measure => simp [intOf]; omega
        · have HE := Lib.hid (show decide (xs[k] = ys[k]) = false from decide_eq_false he)
          have HF := Lib.hid (show decide (xs = ys) = false from decide_eq_false (ne_of_atS k hx hy he))
          clear he
          go_still_tail 8, (by kernel_rfl)
          go_wp2_with fail
          refine (eqStep_any xs[k] ys[k] _).mono ?_
          rintro e w1 ⟨rfl, hs1⟩
          rw [HE.out]
          have hs := hsin.trans (Since.of_drew hs1)
          go_wp2
          go_ret
          exact ⟨ret_bool HF.out.symm, hs⟩
      · obtain rfl : k = n := by omega
        have HE : Hid (decide (xs = ys) = true) := by
          have := HT.out
          rw [List.take_of_length_le (by have := HN.out; omega), List.take_of_length_le (by have := HN2.out; omega)] at this
          unfold Hid; simpa using this
        go_wp2
        go_ret
        exact ⟨ret_bool HE.out.symm, hsin⟩
  · have HE : Hid (decide (xs = ys) = false) := by unfold Hid; simp; intro e; rw [e] at hlen; exact hlen rfl
    have hne : ((xs.length : Int) != (ys.length : Int)) = true := by simp; omega
    obtain ⟨n, hn⟩ : ∃ n, n = xs.length := ⟨_, rfl⟩
    obtain ⟨m, hm⟩ : ∃ m, m = ys.length := ⟨_, rfl⟩
    rw [← hn, ← hm] at hne ⊢
    have hn9 : n ≤ 4611686018427387904 := by omega
    have hm9 : m ≤ 4611686018427387904 := by omega
    clear hn hm hlen hl hl2 HC1 HC2
    go_enter Try.func37, Try.ntmps37
    go_wp2
    go_ret
    exact ⟨ret_bool HE.out.symm, Since.refl _⟩

/-- What markStepS writes. -/
def stpAt (k : Int) (i : Nat) : Stp := ⟨k + 2 * (i : Int), (k + 2 * (i : Int) + 1) % 3 == 0⟩
def countS (k : Int) (n : Nat) : List Stp := (List.range n).map (stpAt k)
theorem countS_length (k : Int) (n : Nat) : (countS k n).length = n := by simp [countS]
theorem countS_at (k : Int) (n i : Nat) (h : i < n) : (countS k n)[i]'(by rw [countS_length]; exact h) = stpAt k i := by simp [countS]
/-- A row xs of which the first j are written. -/
def markedS (xs : List Stp) (k : Int) (j : Nat) : List Stp := countS k j ++ xs.drop j
theorem markedS_zero (xs : List Stp) (k : Int) : markedS xs k 0 = xs := by simp [markedS, countS]
theorem markedS_all (xs : List Stp) (k : Int) : markedS xs k xs.length = countS k xs.length := by simp [markedS]
theorem markedS_length (xs : List Stp) (k : Int) (j : Nat) (h : j ≤ xs.length) : (markedS xs k j).length = xs.length := by simp [markedS, countS_length]; omega
theorem markedS_set (xs : List Stp) (k : Int) (j : Nat) (h : j < xs.length) : (markedS xs k j).set j (stpAt k j) = markedS xs k (j + 1) := by
  unfold markedS
  rw [List.set_append_right _ _ (by simp [countS]), countS_length, Nat.sub_self, List.drop_eq_getElem_cons h, List.set_cons_zero]
  have : countS k (j + 1) = countS k j ++ [stpAt k j] := by simp [countS, List.range_succ]
  rw [this, List.append_assoc]; rfl
def MarkSOut (base : Nat) (w : World) (v : Value) (k : Int) (n : Nat) (e : Ending) (w' : World) : Prop :=
  e = .returned (.int .i64 (k + 2 * n)) ∧ OwnSt base w' v (countS k n) ∧ w.grownBy w' v.ownBlock
set_option maxRecDepth 100000 in
theorem markStepS_any (base : Nat) (v : Value) (xs : List Stp) (k : Int) (w : World) (h : OwnSt base w v xs) (hk0 : 0 ≤ k) (hk9 : k ≤ 1152921504606846976) (hl : xs.length ≤ 288230376151711744) :
    Calls Try.prog 38 #[v, .int .i64 k] w (MarkSOut base w v k xs.length) := by
  have hown := h
  have hcase : v = .slice none 0 0 ∧ xs.length = 0 ∨ ∃ g cap, v = .slice (some ⟨g, 0, none⟩) xs.length cap ∧ base ≤ g := by
    rcases hown.2 with ⟨a, b⟩ | ⟨g, cap, cur, a, b, _⟩
    · exact .inl ⟨a, b⟩
    · exact .inr ⟨g, cap, a, b⟩
  have hown : w.ownsRow base 49 2 v xs.length (scells xs) := h
  clear h
  obtain ⟨n, hn⟩ : ∃ n, n = xs.length := ⟨_, rfl⟩
  rw [← hn] at hcase hown hl ⊢
  rcases hcase with ⟨rfl, hn0⟩ | ⟨g, cap, rfl, hg⟩
  · subst hn0
    clear hn hown
    go_enter Try.func38, Try.ntmps38
    go_wp2
    go_loopw [1, 5] (fun q i wr => q = .int .i64 k ∧ i = .int .i64 0 ∧ wr = w) (fun _ _ _ => 0)
    case atStart => exact ⟨rfl, rfl, rfl⟩
    case round =>
      obtain ⟨rfl, rfl, rfl⟩ := hrel
      go_wp2
      go_ret
      exact ⟨ret_int (by simp), World.ownsRow_nil _ _ _ _, ⟨rfl, rfl, rfl, Nat.le_refl _, fun _ _ _ => rfl⟩⟩
  · have hown0 : w.ownsRow base 49 2 (.slice (some ⟨g, 0, none⟩) n cap) n (scells (markedS xs k 0)) := by rw [markedS_zero]; exact hown
    clear hown
    have HN := Lib.hid hn
    clear hn
    go_enter Try.func38, Try.ntmps38
    go_wp2
    go_loopw [1, 5] (fun q i wr => ∃ j : Nat, j ≤ n ∧ i = .int .i64 j ∧ q = .int .i64 (k + 2 * j) ∧ wr.ownsRow base 49 2 (.slice (some ⟨g, 0, none⟩) n cap) n (scells (markedS xs k j)) ∧ w.grownBy wr (some g)) (fun _ i _ => n - (intOf i).toNat)
    case atStart => exact ⟨0, Nat.zero_le _, rfl, by simp, hown0, ⟨rfl, rfl, rfl, Nat.le_refl _, fun _ _ _ => rfl⟩⟩
    case round =>
      obtain ⟨j, hj, rfl, rfl, hown, hgr⟩ := hrel
      by_cases hlt : j < n
      · have hx : j < xs.length := by have := HN.out; omega
        have hml : (markedS xs k j).length = xs.length := markedS_length xs k j (by omega)
        have hmj : j < (markedS xs k j).length := by omega
        obtain ⟨d0, d1⟩ := ownSt_cells hown (by rw [hml]; exact HN.out) j hmj
        obtain ⟨m0, hm0⟩ : ∃ m : Stp, m = (markedS xs k j)[j]'hmj := ⟨_, rfl⟩
        rw [← hm0] at d0 d1
        clear hm0
        have f0 := hown.frozenAt (j * 2)
        have f1 := hown.frozenAt (j * 2 + 1)
        have hst := row_set2 hown j (by omega) (stpAt k j)
        rw [markedS_set xs k j hx] at hst
        unfold stpAt at hst
        have HST := Lib.hid hst
        have HG := Lib.hid (grow_tr (grow_tr hgr (hown.stored (j * 2) (.int .i64 (k + 2 * (j : Int)))).2) ((hown.stored (j * 2) (.int .i64 (k + 2 * (j : Int)))).1.stored (j * 2 + 1) (.bool ((k + 2 * (j : Int) + 1) % 3 == 0))).2)
        have hq0 : 0 ≤ k + 2 * (j : Int) + 1 := by omega
        clear hst hml hmj hown
        go_wp2
        go_roundw
        case rel => exact ⟨j + 1, by omega, by go_num, by go_num, HST.out, HG.out⟩
        case measure => simp [intOf]; omega
      · obtain rfl : j = n := by omega
        have hr : markedS xs k j = countS k j := by
          have := HN.out; subst this; exact markedS_all xs k
        rw [hr] at hown
        have HO := Lib.hid (OwnSt.ofRow hown (by rw [countS_length]))
        clear hr hown
        go_wp2
        go_ret
        exact ⟨rfl, HO.out, hgr⟩
set_option maxRecDepth 100000 in
theorem heldStepS_any (v : Value) (k : Int) (n : Nat) (w : World) (h : StpsAt w v (countS k n)) (hk0 : 0 ≤ k) (hk9 : k ≤ 1152921504606846976) (hl : n ≤ 288230376151711744) :
    Calls Try.prog 39 #[v, .int .i64 k] w fun e w' => e = .returned (.int .i64 (k + 2 * n)) ∧ w = w' := by
  obtain ⟨ao, cap, rfl, HC⟩ := h
  rw [countS_length]
  have HC2 : Hid (∀ i, i < n → ∃ b off, ao = some ⟨b, off, none⟩ ∧ w.cell? ⟨b, off + i * 2, none⟩ = some (.int .i64 (k + 2 * (i : Int))) ∧ w.cell? ⟨b, off + i * 2 + 1, none⟩ = some (.bool ((k + 2 * (i : Int) + 1) % 3 == 0))) := by
    intro i hi
    obtain ⟨b, off, e, _, c0, c1⟩ := HC.out i (by rw [countS_length]; exact hi)
    rw [countS_at k n i hi] at c0 c1
    exact ⟨b, off, e, c0, c1⟩
  clear HC
  go_enter Try.func39, Try.ntmps39
  go_wp2
  go_loop [1, 5] (fun q i => ∃ j : Nat, j ≤ n ∧ i = .int .i64 j ∧ q = .int .i64 (k + 2 * j)) (fun _ i => n - (intOf i).toNat)
  case atStart => exact ⟨0, Nat.zero_le _, rfl, by simp⟩
  case round =>
    obtain ⟨j, hj, rfl, rfl⟩ := hrel
    by_cases hlt : j < n
    · obtain ⟨b, off, rfl, c0, c1⟩ := HC2.out j hlt
      have b0 : (k + 2 * (j : Int) != k + 2 * (j : Int)) = false := by simp
      have b1 : (((k + 2 * (j : Int) + 1) % 3 == 0) != ((k + 2 * (j : Int) + 1) % 3 == 0)) = false := by simp
      have hq0 : 0 ≤ k + 2 * (j : Int) + 1 := by omega
      go_wp2
      go_round
      case rel => exact ⟨j + 1, by omega, by go_num, by go_num⟩
      case measure => simp [intOf]; omega
    · obtain rfl : j = n := by omega
      go_wp2
      go_ret
      exact ⟨rfl, rfl⟩
end Go.Proofs.Ytpmkpeclfhmhlaa
