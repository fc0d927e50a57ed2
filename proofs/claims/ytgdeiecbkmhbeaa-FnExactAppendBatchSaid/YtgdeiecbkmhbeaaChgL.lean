/- The laws' helpers on changes and batches: copies, sizes, comparisons, marks and checks. -/
import Derived.Test.YtgdeiecbkmhbeaaChg
import Derived.Test.YtgdeiecbkmhbeaaK1
import Derived.Test.YtgdeiecbkmhbeaaEqG
namespace Go.Proofs.Ytgdeiecbkmhbeaa
set_option maxRecDepth 100000
open Go.ChangeShapes Go.WideShapes Go.ChangeAt Go.RowKit
set_option linter.unusedVariables false
set_option linter.unusedSimpArgs false

theorem filledC_get (xs : List Chg) (k i : Nat) (hk : k ≤ xs.length) (hi : i < xs.length) : i < (filled xs zeroC k).length := by rw [filled_length xs zeroC k hk]; exact hi
set_option maxHeartbeats 2000000 in
set_option maxRecDepth 100000 in
theorem toChange_any (c : Chg) (w : World) : Calls Try.prog 107 #[cv c] w fun en w' => en = .returned (cv c) ∧ Since w w' := by
  obtain ⟨ci, ⟨d0, d1, d2, d3⟩⟩ := c
  unfold cv
  dsimp only
  obtain ⟨y, hy⟩ : ∃ y, y = ((w.alloc (.cells #[.bool ci, .int .i64 d0, .int .i64 d1, .int .i64 d2, .int .i64 d3] 134)).alloc (.cells #[.bool false, .int .i64 0, .int .i64 0, .int .i64 0, .int .i64 0] 98)).alloc (.cells #[.bool ci, .int .i64 0, .int .i64 0, .int .i64 0, .int .i64 0] 98) := ⟨_, rfl⟩
  have hs0 : Since w y := by rw [hy]; exact (((Since.refl w).alloc _).alloc _).alloc _
  have hz : w.heap.size + 1 + 1 + 1 = y.heap.size := by rw [hy]; simp
  have B1 : Hid (Blk y (w.heap.size + 1) 98 #[.bool false, .int .i64 0, .int .i64 0, .int .i64 0, .int .i64 0]) := by rw [hy]; exact (Blk.new (by simp) _ _).alloc _
  have B2 : Hid (Blk y (w.heap.size + 1 + 1) 98 #[.bool ci, .int .i64 0, .int .i64 0, .int .i64 0, .int .i64 0]) := by rw [hy]; exact Blk.new (by simp) _ _
  go_enter Try.func107, Try.ntmps107
  go_wp2_with fail
  rw [← hy]
  clear hy
  refine (toEdge_any ⟨d0, d1, d2, d3⟩ _).mono ?_
  rintro e w1 ⟨rfl, hs1⟩
  have hs01 := hs0.trans hs1
  obtain ⟨⟨p0, p1, p2, p3, p4⟩, f0, f1, f2, f3, f4⟩ := (B1.out.since hs1).fiveC
  obtain ⟨⟨q0, q1, q2, q3, q4⟩, g0, g1, g2, g3, g4⟩ := (B2.out.since hs1).fiveC
  clear B1 B2
  go_wp2_with fail
  refine bodyPost_ret (v := .agg #[.bool ci, .int .i64 d0, .int .i64 d1, .int .i64 d2, .int .i64 d3]) (by simp [results, Try.results107, go_sem, *]) rfl ⟨rfl, ?_⟩
  iterate 9 (with_reducible refine Since.setCell ?_ (by (first | omega | (simp; omega) | simp)) _)
  exact hs01
set_option maxRecDepth 100000 in
theorem eqChange_any (a b : Chg) (w : World) : Calls Try.prog 110 #[cv a, cv b] w fun en w' => en = .returned (.bool (decide (a = b))) ∧ Since w w' := by
  obtain ⟨ai, ae⟩ := a
  obtain ⟨bi, be⟩ := b
  have hs : Since w ((w.alloc (.cells #[.bool ai, .int .i64 ae.id, .int .i64 ae.fr, .int .i64 ae.3, .int .i64 ae.lb] 98)).alloc (.cells #[.bool bi, .int .i64 be.id, .int .i64 be.fr, .int .i64 be.3, .int .i64 be.lb] 98)) := ((Since.refl w).alloc _).alloc _
  have hd : Hid (decide ((⟨ai, ae⟩ : Chg) = ⟨bi, be⟩) = (ai == bi && decide (ae = be))) := by
    unfold Hid
    rw [Bool.eq_iff_iff]; simp only [decide_eq_true_eq, Chg.eq_iff, Bool.and_eq_true, beq_iff_eq]
  rw [hd.out]
  clear hd
  unfold cv
  dsimp only
  obtain ⟨q, hq⟩ : ∃ q, q = decide (ae = be) := ⟨_, rfl⟩
  rw [← hq]
  have HQ := Lib.hid hq
  clear hq
  cases ai <;> cases bi <;> cases q
  all_goals
    go_enter Try.func110, Try.ntmps110
    first
    | (go_wp2_with fail
       refine (eqEdge_any ae be _).mono ?_
       rintro e w1 ⟨rfl, hs1⟩
       rw [← HQ.out]
       have hs2 := hs.trans hs1
       go_wp2
       go_ret
       exact ⟨rfl, hs2⟩)
    | (go_wp2
       go_ret
       exact ⟨rfl, hs⟩)
theorem take_eq_stepC {xs ys : List Chg} (k : Nat) (h1 : k < xs.length) (h2 : k < ys.length) (h : xs.take k = ys.take k) (he : xs[k] = ys[k]) : xs.take (k + 1) = ys.take (k + 1) := by
  rw [List.take_succ_eq_append_getElem h1, List.take_succ_eq_append_getElem h2, h, he]
theorem ne_of_atC {xs ys : List Chg} (k : Nat) (h1 : k < xs.length) (h2 : k < ys.length) (he : xs[k] ≠ ys[k]) : xs ≠ ys := by
  intro e; subst e; exact he rfl
set_option maxRecDepth 100000 in
theorem eqChangeS_any (a b : Value) (xs ys : List Chg) (w : World) (ha : ChgsAt w a xs) (hb : ChgsAt w b ys) (hl : xs.length ≤ 1152921504606846976) (hl2 : ys.length ≤ 1152921504606846976) :
    Calls Try.prog 73 #[a, b] w fun e w' => e = .returned (.bool (decide (xs = ys))) ∧ Since w w' := by
  obtain ⟨_, ao1, cap1, rfl, HC1⟩ := ha
  obtain ⟨_, ao2, cap2, rfl, HC2⟩ := hb
  by_cases hlen : xs.length = ys.length
  · rw [← hlen]
    obtain ⟨n, hn⟩ : ∃ n, n = xs.length := ⟨_, rfl⟩
    rw [← hn]
    have hn9 : n ≤ 1152921504606846976 := by omega
    have HN := Lib.hid hn
    have HN2 : Hid (n = ys.length) := by rw [hn]; exact hlen
    have HNE : (((n : Nat) : Int) != ((n : Nat) : Int)) = false := by simp
    clear hn hlen hl hl2
    go_enter Try.func73, Try.ntmps73
    go_wp2
    go_loopw [5] (fun i wr => ∃ k : Nat, k ≤ n ∧ i = .int .i64 k ∧ Hid (xs.take k = ys.take k) ∧ Since w wr) (fun i _ => n - (intOf i).toNat)
    case atStart => exact ⟨0, Nat.zero_le _, rfl, rfl, Since.refl w⟩
    case round =>
      obtain ⟨k, hk, rfl, HT, hsin⟩ := hrel
      by_cases hlt : k < n
      · have hx : k < xs.length := by have := HN.out; omega
        have hy : k < ys.length := by have := HN2.out; omega
        obtain ⟨b1, off1, rfl, hb1, c10, c11, c12, c13, c14⟩ := HC1.out k hx
        obtain ⟨b2, off2, rfl, hb2, c20, c21, c22, c23, c24⟩ := HC2.out k hy
        have s1 := since_cells hsin hb1
        have s2 := since_cells hsin hb2
        rw [← s1] at c10 c11 c12 c13 c14
        rw [← s2] at c20 c21 c22 c23 c24
        clear s1 s2
        have hki : (k : Int) < (n : Int) := by omega
        have hk0 : (0 : Int) ≤ (k : Int) := by omega
        go_wp2
        by_cases he : xs[k] = ys[k]
        · have HE := Lib.hid (show decide (xs[k] = ys[k]) = true from decide_eq_true he)
          have HF := Lib.hid (take_eq_stepC k hx hy HT.out he)
          clear he
          go_still_tail 8, (by kernel_rfl)
          go_wp2_with fail
          refine (eqChange_any xs[k] ys[k] _).mono ?_
          rintro e w1 ⟨rfl, hs1⟩
          rw [HE.out]
          have hs := hsin.trans (Since.of_drew hs1)
          go_wp2
          go_roundw
          case rel => exact ⟨k + 1, by omega, by go_num, HF, hs⟩
          case measure => simp [intOf]; omega
        · have HE := Lib.hid (show decide (xs[k] = ys[k]) = false from decide_eq_false he)
          have HF := Lib.hid (show decide (xs = ys) = false from decide_eq_false (ne_of_atC k hx hy he))
          clear he
          go_still_tail 8, (by kernel_rfl)
          go_wp2_with fail
          refine (eqChange_any xs[k] ys[k] _).mono ?_
          rintro e w1 ⟨rfl, hs1⟩
          rw [HE.out]
          have hs := hsin.trans (Since.of_drew hs1)
          go_wp2
          go_ret
          exact ⟨ret_bool HF.out.symm, hs⟩
      · obtain rfl : k = n := by omega
        have HE : Hid (decide (xs = ys) = true) := by
          have := HT.out
          rw [List.take_of_length_le (by have := HN.out; omega), List.take_of_length_le (by have := HN2.out; omega)] at this
          unfold Hid; simpa using this
        go_wp2
        go_ret
        exact ⟨ret_bool HE.out.symm, hsin⟩
  · have HE : Hid (decide (xs = ys) = false) := by unfold Hid; simp; intro e; rw [e] at hlen; exact hlen rfl
    have hne : ((xs.length : Int) != (ys.length : Int)) = true := by simp; omega
    obtain ⟨n, hn⟩ : ∃ n, n = xs.length := ⟨_, rfl⟩
    obtain ⟨m, hm⟩ : ∃ m, m = ys.length := ⟨_, rfl⟩
    rw [← hn, ← hm] at hne ⊢
    have hn9 : n ≤ 4611686018427387904 := by omega
    have hm9 : m ≤ 4611686018427387904 := by omega
    clear hn hm hlen hl hl2 HC1 HC2
    go_enter Try.func73, Try.ntmps73
    go_wp2
    go_ret
    exact ⟨ret_bool HE.out.symm, Since.refl _⟩

/-- What markChangeS writes. -/
def chgAt (k : Int) (i : Nat) : Chg := ⟨(k + 5 * (i : Int)) % 3 == 0, ⟨k + 5 * (i : Int) + 1, k + 5 * (i : Int) + 1 + 1, k + 5 * (i : Int) + 1 + 1 + 1, k + 5 * (i : Int) + 1 + 1 + 1 + 1⟩⟩
def countC (k : Int) (n : Nat) : List Chg := (List.range n).map (chgAt k)
theorem countC_length (k : Int) (n : Nat) : (countC k n).length = n := by simp [countC]
theorem countC_at (k : Int) (n i : Nat) (h : i < n) : (countC k n)[i]'(by rw [countC_length]; exact h) = chgAt k i := by simp [countC]
theorem countC_in (k : Int) (n : Nat) (hk0 : 0 ≤ k) (hk9 : k ≤ 1152921504606846976) (hl : n ≤ 288230376151711744) : ∀ x ∈ countC k n, x.ed.In := by
  intro x hx
  obtain ⟨i, hi, rfl⟩ := List.mem_map.1 hx
  have := List.mem_range.1 hi
  unfold chgAt Edg.In InI
  dsimp only
  omega
/-- A row xs of which the first j are written. -/
def markedC (xs : List Chg) (k : Int) (j : Nat) : List Chg := countC k j ++ xs.drop j
theorem markedC_zero (xs : List Chg) (k : Int) : markedC xs k 0 = xs := by simp [markedC, countC]
theorem markedC_all (xs : List Chg) (k : Int) : markedC xs k xs.length = countC k xs.length := by simp [markedC]
theorem markedC_length (xs : List Chg) (k : Int) (j : Nat) (h : j ≤ xs.length) : (markedC xs k j).length = xs.length := by simp [markedC, countC_length]; omega
theorem markedC_set (xs : List Chg) (k : Int) (j : Nat) (h : j < xs.length) : (markedC xs k j).set j (chgAt k j) = markedC xs k (j + 1) := by
  unfold markedC
  rw [List.set_append_right _ _ (by simp [countC]), countC_length, Nat.sub_self, List.drop_eq_getElem_cons h, List.set_cons_zero]
  have : countC k (j + 1) = countC k j ++ [chgAt k j] := by simp [countC, List.range_succ]
  rw [this, List.append_assoc]; rfl
theorem row_grown5 {w w0 : World} {base g n cap : Nat} {xs : List Value} {e : TypeId} (hgr : w0.grownBy w (some g)) (h : w.ownsRow base e 5 (.slice (some ⟨g, 0, none⟩) n cap) n xs) (j : Nat) (a b c d f : Value) :
    w0.grownBy (((((w.setCell ⟨g, j * 5, none⟩ a).setCell ⟨g, j * 5 + 1, none⟩ b).setCell ⟨g, j * 5 + 2, none⟩ c).setCell ⟨g, j * 5 + 3, none⟩ d).setCell ⟨g, j * 5 + 4, none⟩ f) (some g) := by
  have h1 := h.stored (j * 5) a
  have h2 := h1.1.stored (j * 5 + 1) b
  have h3 := h2.1.stored (j * 5 + 2) c
  have h4 := h3.1.stored (j * 5 + 3) d
  have h5 := h4.1.stored (j * 5 + 4) f
  exact grow_tr (grow_tr (grow_tr (grow_tr (grow_tr hgr h1.2) h2.2) h3.2) h4.2) h5.2
def MarkCOut (base : Nat) (w : World) (v : Value) (k : Int) (n : Nat) (e : Ending) (w' : World) : Prop :=
  e = .returned (.int .i64 (k + 5 * n)) ∧ OwnC base w' v (countC k n) ∧ w.grownBy w' v.ownBlock
set_option maxRecDepth 100000 in
theorem markChangeS_any (base : Nat) (v : Value) (xs : List Chg) (k : Int) (w : World) (h : OwnC base w v xs) (hk0 : 0 ≤ k) (hk9 : k ≤ 1152921504606846976) (hl : xs.length ≤ 288230376151711744) :
    Calls Try.prog 74 #[v, .int .i64 k] w (MarkCOut base w v k xs.length) := by
  have hown := h.2
  have hcase : v = .slice none 0 0 ∧ xs.length = 0 ∨ ∃ g cap, v = .slice (some ⟨g, 0, none⟩) xs.length cap ∧ base ≤ g := by
    rcases hown.2 with ⟨a, b⟩ | ⟨g, cap, cur, a, b, _⟩
    · exact .inl ⟨a, b⟩
    · exact .inr ⟨g, cap, a, b⟩
  clear h
  have HCI := Lib.hid (countC_in k xs.length hk0 hk9 hl)
  obtain ⟨n, hn⟩ : ∃ n, n = xs.length := ⟨_, rfl⟩
  rw [← hn] at hcase hown hl HCI ⊢
  rcases hcase with ⟨rfl, hn0⟩ | ⟨g, cap, rfl, hg⟩
  · subst hn0
    clear hn hown
    go_enter Try.func74, Try.ntmps74
    go_wp2
    go_loopw [1, 5] (fun q i wr => q = .int .i64 k ∧ i = .int .i64 0 ∧ wr = w) (fun _ _ _ => 0)
    case atStart => exact ⟨rfl, rfl, rfl⟩
    case round =>
      obtain ⟨rfl, rfl, rfl⟩ := hrel
      go_wp2
      go_ret
      exact ⟨ret_int (by simp), ⟨HCI.out, World.ownsRow_nil _ _ _ _⟩, ⟨rfl, rfl, rfl, Nat.le_refl _, fun _ _ _ => rfl⟩⟩
  · have hown0 : w.ownsRow base 98 5 (.slice (some ⟨g, 0, none⟩) n cap) n (ccells (markedC xs k 0)) := by rw [markedC_zero]; exact hown
    clear hown
    have HN := Lib.hid hn
    clear hn
    go_enter Try.func74, Try.ntmps74
    go_wp2
    go_loopw [1, 5] (fun q i wr => ∃ j : Nat, j ≤ n ∧ i = .int .i64 j ∧ q = .int .i64 (k + 5 * j) ∧ wr.ownsRow base 98 5 (.slice (some ⟨g, 0, none⟩) n cap) n (ccells (markedC xs k j)) ∧ w.grownBy wr (some g)) (fun _ i _ => n - (intOf i).toNat)
    case atStart => exact ⟨0, Nat.zero_le _, rfl, by simp, hown0, ⟨rfl, rfl, rfl, Nat.le_refl _, fun _ _ _ => rfl⟩⟩
    case round =>
      obtain ⟨j, hj, rfl, rfl, hown, hgr⟩ := hrel
      by_cases hlt : j < n
      · have hx : j < xs.length := by have := HN.out; omega
        have hml : (markedC xs k j).length = xs.length := markedC_length xs k j (by omega)
        have hmj : j < (markedC xs k j).length := by omega
        obtain ⟨d0, d1, d2, d3, d4⟩ := ownC_cells hown (by rw [hml]; exact HN.out) j hmj
        obtain ⟨m0, hm0⟩ : ∃ m : Chg, m = (markedC xs k j)[j]'hmj := ⟨_, rfl⟩
        rw [← hm0] at d0 d1 d2 d3 d4
        clear hm0
        have f0 := hown.frozenAt (j * 5)
        have f1 := hown.frozenAt (j * 5 + 1)
        have f2 := hown.frozenAt (j * 5 + 2)
        have f3 := hown.frozenAt (j * 5 + 3)
        have f4 := hown.frozenAt (j * 5 + 4)
        have hst := row_setC hown j (by omega) (chgAt k j)
        rw [markedC_set xs k j hx] at hst
        unfold chgAt at hst
        have HST := Lib.hid hst
        have HG := Lib.hid (row_grown5 hgr hown j (.bool ((k + 5 * (j : Int)) % 3 == 0)) (.int .i64 (k + 5 * (j : Int) + 1)) (.int .i64 (k + 5 * (j : Int) + 1 + 1)) (.int .i64 (k + 5 * (j : Int) + 1 + 1 + 1)) (.int .i64 (k + 5 * (j : Int) + 1 + 1 + 1 + 1)))
        have hq0 : 0 ≤ k + 5 * (j : Int) := by omega
        clear hst hml hmj hown
        go_wp2
        go_roundw
        case rel => exact ⟨j + 1, by omega, by go_num, by go_num, HST.out, HG.out⟩
        case measure => simp [intOf]; omega
      · obtain rfl : j = n := by omega
        have hr : markedC xs k j = countC k j := by
          have := HN.out; subst this; exact markedC_all xs k
        rw [hr] at hown
        have HO := Lib.hid (OwnC.ofRow HCI.out hown (by rw [countC_length]))
        clear hr hown
        go_wp2
        go_ret
        exact ⟨rfl, HO.out, hgr⟩
set_option maxRecDepth 100000 in
theorem heldChangeS_any (v : Value) (k : Int) (n : Nat) (w : World) (h : ChgsAt w v (countC k n)) (hk0 : 0 ≤ k) (hk9 : k ≤ 1152921504606846976) (hl : n ≤ 288230376151711744) :
    Calls Try.prog 75 #[v, .int .i64 k] w fun e w' => e = .returned (.int .i64 (k + 5 * n)) ∧ w = w' := by
  obtain ⟨_, ao, cap, rfl, HC⟩ := h
  rw [countC_length]
  have HC2 : Hid (∀ i, i < n → ∃ b off, ao = some ⟨b, off, none⟩ ∧ w.cell? ⟨b, off + i * 5, none⟩ = some (.bool ((k + 5 * (i : Int)) % 3 == 0)) ∧ w.cell? ⟨b, off + i * 5 + 1, none⟩ = some (.int .i64 (k + 5 * (i : Int) + 1)) ∧
      w.cell? ⟨b, off + i * 5 + 2, none⟩ = some (.int .i64 (k + 5 * (i : Int) + 1 + 1)) ∧ w.cell? ⟨b, off + i * 5 + 3, none⟩ = some (.int .i64 (k + 5 * (i : Int) + 1 + 1 + 1)) ∧ w.cell? ⟨b, off + i * 5 + 4, none⟩ = some (.int .i64 (k + 5 * (i : Int) + 1 + 1 + 1 + 1))) := by
    intro i hi
    obtain ⟨b, off, e, _, c0, c1, c2, c3, c4⟩ := HC.out i (by rw [countC_length]; exact hi)
    rw [countC_at k n i hi] at c0 c1 c2 c3 c4
    exact ⟨b, off, e, c0, c1, c2, c3, c4⟩
  clear HC
  go_enter Try.func75, Try.ntmps75
  go_wp2
  go_loop [1, 5] (fun q i => ∃ j : Nat, j ≤ n ∧ i = .int .i64 j ∧ q = .int .i64 (k + 5 * j)) (fun _ i => n - (intOf i).toNat)
  case atStart => exact ⟨0, Nat.zero_le _, rfl, by simp⟩
  case round =>
    obtain ⟨j, hj, rfl, rfl⟩ := hrel
    by_cases hlt : j < n
    · obtain ⟨b, off, rfl, c0, c1, c2, c3, c4⟩ := HC2.out j hlt
      have a0 : (((k + 5 * (j : Int)) % 3 == 0) != ((k + 5 * (j : Int)) % 3 == 0)) = false := by simp
      have a1 : (k + 5 * (j : Int) + 1 != k + 5 * (j : Int) + 1) = false := by simp
      have a2 : (k + 5 * (j : Int) + 1 + 1 != k + 5 * (j : Int) + 1 + 1) = false := by simp
      have a3 : (k + 5 * (j : Int) + 1 + 1 + 1 != k + 5 * (j : Int) + 1 + 1 + 1) = false := by simp
      have a4 : (k + 5 * (j : Int) + 1 + 1 + 1 + 1 != k + 5 * (j : Int) + 1 + 1 + 1 + 1) = false := by simp
      have hq0 : 0 ≤ k + 5 * (j : Int) := by omega
      go_wp2
      go_round
      case rel => exact ⟨j + 1, by omega, by go_num, by go_num⟩
      case measure => simp [intOf]; omega
    · obtain rfl : j = n := by omega
      go_wp2
      go_ret
      exact ⟨rfl, rfl⟩
set_option maxRecDepth 100000 in
theorem toChangeS_any (v : Value) (xs : List Chg) (w : World) (h : ChgsAt w v xs) (hl : xs.length ≤ 1048577) :
    Calls Try.prog 70 #[v] w (COut w xs) := by
  have HI := Lib.hid h.1
  obtain ⟨_, ao, cap0, rfl, HC⟩ := h
  obtain ⟨i0, hi, hz0, hz1, hz2⟩ := info_parts info_chg
  have HZ2 := Lib.hid hz2
  clear hz2
  obtain ⟨n, hn⟩ : ∃ n, n = xs.length := ⟨_, rfl⟩
  rw [← hn]
  have hn9 : n ≤ 1048577 := by omega
  have HN := Lib.hid hn
  clear hn hl
  go_enter Try.func70, Try.ntmps70
  go_wp2_with (at_make; go_must (refine wpList_make_full _ rfl _ _ 27 rfl w.heap.size 98 i0 (cv zeroC) 5 Try.underlying27 hi hz0 hz1 .i64 .i64 _ _ n rfl rfl rfl rfl (by rw [HZ2.out]; omega) (by unfold maxLen; omega) (Nat.le_refl _) ?_); intro w1 hown hgrow)
  have hsin : Since w w1 := (Since.refl w).grown hgrow (fun _ h => by simp at h)
  have hrow : w1.ownsRow w.heap.size 98 5 (.slice (some ⟨w.heap.size, 0, none⟩) n n) n (ccells (filled xs zeroC 0)) := by
    rw [filled_zero, ← HN.out]
    rw [made_chgs] at hown
    exact hown
  clear hown hgrow
  go_loopw [4] (fun i wr => ∃ k : Nat, k ≤ n ∧ i = .int .i64 k ∧ wr.ownsRow w.heap.size 98 5 (.slice (some ⟨w.heap.size, 0, none⟩) n n) n (ccells (filled xs zeroC k)) ∧ Since w wr) (fun i _ => n - (intOf i).toNat)
  case atStart => exact ⟨0, Nat.zero_le _, rfl, hrow, hsin⟩
  case round =>
    obtain ⟨k, hk, rfl, hown, hsin⟩ := hrel
    by_cases hlt : k < n
    · have hx : k < xs.length := by have := HN.out; omega
      obtain ⟨b, off, rfl, hb, c0, c1, c2, c3, c4⟩ := HC.out k hx
      have s1 := since_cells hsin hb
      rw [← s1] at c0 c1 c2 c3 c4
      clear s1
      have HROW := Lib.hid hown
      clear hown
      go_wp2_with fail
      refine (toChange_any xs[k] _).mono ?_
      rintro e w2 ⟨rfl, hs2⟩
      have hs3 := hsin.trans hs2
      have hown2 := row_since HROW.out hs2
      have hfl : k < (filled xs zeroC k).length := filledC_get xs k k (by omega) hx
      obtain ⟨d0, d1, d2, d3, d4⟩ := ownC_cells hown2 (by rw [filled_length _ _ _ (by omega)]; exact HN.out) k hfl
      have f0 := hown2.frozenAt (k * 5)
      have f1 := hown2.frozenAt (k * 5 + 1)
      have f2 := hown2.frozenAt (k * 5 + 2)
      have f3 := hown2.frozenAt (k * 5 + 3)
      have f4 := hown2.frozenAt (k * 5 + 4)
      have hst := row_setC hown2 k hfl xs[k]
      rw [filled_set xs zeroC k hx] at hst
      have HST := Lib.hid hst
      clear hst hown2
      go_wp2
      go_roundw
      case rel => exact ⟨k + 1, by omega, by go_num, HST.out, ((((hs3.setCell (Nat.le_refl _) _).setCell (Nat.le_refl _) _).setCell (Nat.le_refl _) _).setCell (Nat.le_refl _) _).setCell (Nat.le_refl _) _⟩
      case measure => simp [intOf]; omega
    · obtain rfl : k = n := by omega
      have hfin := filled_all xs zeroC k (by rw [← HN.out]; exact Nat.le_refl _)
      rw [hfin] at hown
      have HO := Lib.hid (OwnC.ofRow HI.out hown HN.out)
      clear hfin hown
      go_wp2
      go_ret
      exact ⟨_, rfl, HO.out, hsin⟩
theorem szChangeS_any (v : Value) (xs : List Chg) (left : Int) (w : World) (h : ChgsAt w v xs) (hl : xs.length ≤ maxLen) (h0 : 0 ≤ left) (h1 : left ≤ 1048576) :
    Calls Try.prog 69 #[v, .int .i64 left] w fun e w' => e = .returned (.int .i64 (szLeft xs.length left)) ∧ w = w' := by
  obtain ⟨_, ao, cap, rfl, _⟩ := h
  unfold maxLen at hl
  obtain ⟨n, hn⟩ : ∃ n, n = xs.length := ⟨_, rfl⟩
  rw [← hn] at hl ⊢
  clear hn
  by_cases hb : left - (n : Int) < 0
  · have HE : Hid (szLeft n left = -1) := by unfold Hid szLeft; rw [if_pos hb]
    go_enter Try.func69, Try.ntmps69
    go_wp2
    go_ret
    exact ⟨ret_int HE.out.symm, rfl⟩
  · have HE : Hid (szLeft n left = left - (n : Int)) := by unfold Hid szLeft; rw [if_neg hb]
    go_enter Try.func69, Try.ntmps69
    go_wp2
    go_ret
    exact ⟨ret_int HE.out.symm, rfl⟩
set_option maxRecDepth 100000 in
theorem toBatch_any (v : Value) (x : List Chg) (w : World) (h : BchAt w v x) (h1 : x.length ≤ 1048577) :
    Calls Try.prog 31 #[v] w (BOut w x) := by
  obtain ⟨b, rfl, hb⟩ := h
  have HB := Lib.hid hb
  obtain ⟨_, bo, cb, rfl, _⟩ := hb
  obtain ⟨y, hy⟩ : ∃ y, y = (((w.alloc (.cells #[.slice bo x.length cb] 50)).alloc (.cells #[.slice none 0 0] 29)).alloc (.cells #[.slice none 0 0] 29)) := ⟨_, rfl⟩
  have hs0 : Since w y := by rw [hy]; exact (((Since.refl w).alloc _).alloc _).alloc _
  have hz : w.heap.size + 1 + 1 + 1 = y.heap.size := by rw [hy]; simp
  have B1 : Hid (Blk y (w.heap.size + 1) 29 #[.slice none 0 0]) := by rw [hy]; exact (Blk.new (by simp) _ _).alloc _
  have B2 : Hid (Blk y (w.heap.size + 1 + 1) 29 #[.slice none 0 0]) := by rw [hy]; exact Blk.new (by simp) _ _
  go_enter Try.func31, Try.ntmps31
  go_wp2_with fail
  rw [← hy]
  clear hy
  refine (toChangeS_any _ x _ (HB.out.since hs0) h1).mono ?_
  rintro e w1 ⟨v1, rfl, ho1, hs1⟩
  obtain ⟨ao1, cap1, rfl⟩ := ho1.len
  have HO1 := Lib.hid ho1
  clear ho1
  have hs01 := hs0.trans hs1
  have b1 := Lib.hid (B1.out.since hs1)
  have b2 := Lib.hid (B2.out.since hs1)
  have hw1 : y.heap.size ≤ w1.heap.size := hs1.size
  clear B1 B2
  obtain ⟨p0, q0⟩ := b1.out.one
  obtain ⟨r0, s0⟩ := b2.out.one
  go_wp2_with fail
  refine bodyPost_ret (v := .agg #[.slice ao1 x.length cap1]) (by simp [results, Try.results31, go_sem, *]) rfl ?_
  refine ⟨_, rfl, OwnB.mk (((HO1.out.far (by simp; omega) _).far (by simp; omega) _).mono (by omega)), ?_⟩
  exact (hs01.setCell (by simp; omega) _).setCell (by simp) _
theorem szBatch_any (v : Value) (x : List Chg) (left y : Int) (w : World) (h : BchAt w v x) (hl : x.length ≤ maxLen) (h0 : 0 ≤ left) (h1 : left ≤ 1048576) (hy : szLeft x.length left = y) :
    Calls Try.prog 29 #[v, .int .i64 left] w fun e w' => e = .returned (.int .i64 y) ∧ Since w w' := by
  obtain ⟨b, rfl, hb⟩ := h
  have HB := Lib.hid hb
  obtain ⟨_, bo, cb, rfl, _⟩ := hb
  have hs0 : Since w (w.alloc (.cells #[.slice bo x.length cb] 50)) := (Since.refl w).alloc _
  have HY := Lib.hid hy
  have HC : (y = -1) ∨ (0 ≤ y) := by
    unfold szLeft at hy
    split at hy <;> omega
  clear hy
  rcases HC with hc | hc
  · subst hc
    go_enter Try.func29, Try.ntmps29
    go_wp2_with fail
    refine (szChangeS_any _ x _ _ (HB.out.since hs0) hl h0 h1).mono ?_
    rintro e w1 ⟨rfl, rfl⟩
    rw [HY.out]
    go_wp2
    go_ret
    exact ⟨rfl, hs0⟩
  · have hd : decide (y < 0) = false := by simp; omega
    go_enter Try.func29, Try.ntmps29
    go_wp2_with fail
    refine (szChangeS_any _ x _ _ (HB.out.since hs0) hl h0 h1).mono ?_
    rintro e w1 ⟨rfl, rfl⟩
    rw [HY.out]
    go_wp2
    go_ret
    exact ⟨rfl, hs0⟩
set_option maxRecDepth 100000 in
theorem eqBatch_any (a b : Value) (x y : List Chg) (w : World) (ha : BchAt w a x) (hb : BchAt w b y) (h1 : x.length ≤ 1152921504606846976) (h2 : y.length ≤ 1152921504606846976) :
    Calls Try.prog 33 #[a, b] w fun e w' => e = .returned (.bool (decide (x = y))) ∧ Since w w' := by
  obtain ⟨a1, rfl, ha1⟩ := ha
  obtain ⟨b1, rfl, hb1⟩ := hb
  have HA := Lib.hid ha1
  have HB := Lib.hid hb1
  obtain ⟨_, ao, ac, rfl, _⟩ := ha1
  obtain ⟨_, bo, bc, rfl, _⟩ := hb1
  have hs0 : Since w ((w.alloc (.cells #[.slice ao x.length ac] 29)).alloc (.cells #[.slice bo y.length bc] 29)) := ((Since.refl w).alloc _).alloc _
  obtain ⟨c, hc⟩ : ∃ c, c = decide (x = y) := ⟨_, rfl⟩
  rw [← hc]
  have HC := Lib.hid hc
  clear hc
  cases c
  all_goals
    go_enter Try.func33, Try.ntmps33
    go_wp2_with fail
    refine (eqChangeS_any _ _ x y _ (HA.out.since hs0) (HB.out.since hs0) h1 h2).mono ?_
    rintro e w1 ⟨rfl, hs1⟩
    rw [← HC.out]
    have hs01 := hs0.trans hs1
    go_wp2
    go_ret
    exact ⟨rfl, hs01⟩
def MarkBOut (lo hi : Nat) (w : World) (v : Value) (k : Int) (x : List Chg) (e : Ending) (w' : World) : Prop :=
  e = .returned (.int .i64 (k + 5 * x.length)) ∧ OwnB lo hi w' v (countC k x.length) ∧ Within lo hi w w'
set_option maxRecDepth 100000 in
theorem markBatch_any (lo hi : Nat) (v : Value) (x : List Chg) (k : Int) (w : World) (h : OwnB lo hi w v x) (hk0 : 0 ≤ k) (hk9 : k ≤ 1152921504606846976) (hl : x.length ≤ 288230376151711744) :
    Calls Try.prog 34 #[v, .int .i64 k] w (MarkBOut lo hi w v k x) := by
  obtain ⟨b, rfl, hb, rb⟩ := h
  have HB := Lib.hid hb
  clear hb
  obtain ⟨bo, bc, rfl⟩ := HB.out.len
  have hs0 : Since w (w.alloc (.cells #[.slice bo x.length bc] 29)) := (Since.refl w).alloc _
  go_enter Try.func34, Try.ntmps34
  go_wp2_with fail
  refine (markChangeS_any lo _ x k _ (HB.out.since hs0) hk0 hk9 hl).mono ?_
  rintro e w1 ⟨rfl, ho1, hg1⟩
  have HO : Hid (OwnB lo hi w1 (.agg #[.slice bo x.length bc]) (countC k x.length)) := ⟨_, rfl, ho1, rb⟩
  have hw1 : Hid (Within lo hi w w1) := (Within.of_since hs0).trans (Within.of_grown hg1 rb)
  clear ho1 hg1
  go_wp2
  go_ret
  exact ⟨rfl, HO.out, hw1.out⟩
set_option maxRecDepth 100000 in
theorem heldBatch_any (v : Value) (x : List Chg) (k : Int) (w : World) (h : BchAt w v (countC k x.length)) (hk0 : 0 ≤ k) (hk9 : k ≤ 1152921504606846976) (hl : x.length ≤ 288230376151711744) :
    Calls Try.prog 35 #[v, .int .i64 k] w fun e w' => e = .returned (.int .i64 (k + 5 * x.length)) ∧ Since w w' := by
  obtain ⟨b, rfl, hb⟩ := h
  have HB : Hid (ChgsAt w b (countC k x.length)) := hb
  obtain ⟨_, bo, bc, rfl, _⟩ := hb
  have hcl : (countC k x.length).length = x.length := countC_length _ _
  rw [hcl] at HB ⊢
  clear hcl
  have hs0 : Since w (w.alloc (.cells #[.slice bo x.length bc] 29)) := (Since.refl w).alloc _
  have hd : decide (k + 5 * (x.length : Int) < 0) = false := by simp; omega
  go_enter Try.func35, Try.ntmps35
  go_wp2_with fail
  refine (heldChangeS_any _ k x.length _ (HB.out.since hs0) hk0 hk9 hl).mono ?_
  rintro e w1 ⟨rfl, rfl⟩
  go_wp2
  go_ret
  exact ⟨rfl, hs0⟩
theorem szB_small {x : List Chg} {left : Int} (hl : left ≤ 1048576) (h : ¬ szLeft x.length left < 0) : (0 ≤ szLeft x.length left ∧ szLeft x.length left ≤ 1048576) ∧ x.length ≤ 1048577 := by
  unfold szLeft at h ⊢
  by_cases c : left - (x.length : Int) < 0
  · rw [if_pos c] at h; omega
  · rw [if_neg c] at h ⊢; omega
end Go.Proofs.Ytgdeiecbkmhbeaa
