/- Slices of truth values: how they read; the laws' own copies, sizes, comparisons, marks and checks. -/
import Derived.Test.YtcokggjekleabaaK1
import Derived.Lib.SmallJoins
import Derived.Deep.Slices
namespace Go.Proofs.Ytcokggjekleabaa
set_option maxRecDepth 100000
open Go.ChangeShapes Go.WideShapes Go.ChangeAt Go.RowKit Go.Joins Go.Deep
set_option linter.unusedVariables false
set_option linter.unusedSimpArgs false

def tcell (x : Bool) : Value := .bool x
theorem info_boolB : (Try.prog.info? 4).map (fun i => (i.zero, i.size, i.bytes)) = some (some (.bool false), 1, 1) := by kernel_rfl
theorem made_bools (n : Nat) : (madeCells (Value.bool false).cells (n * 1)).toList = List.replicate n (.bool false) := by
  rw [Nat.mul_one]; exact toList_madeCells_one _ n
/-- v is a slice that reads as xs. -/
def BosAt (w : World) (v : Value) (xs : List Bool) : Prop :=
  ∃ ao cap, v = .slice ao xs.length cap ∧ Hid (∀ i (h : i < xs.length), ∃ b off, ao = some ⟨b, off, none⟩ ∧ b < w.heap.size ∧ w.cell? ⟨b, off + i, none⟩ = some (.bool xs[i]))
theorem BosAt.since {w w' : World} {v : Value} {xs : List Bool} (h : BosAt w v xs) (k : Since w w') : BosAt w' v xs := by
  obtain ⟨ao, cap, rfl, hc⟩ := h
  refine ⟨ao, cap, rfl, fun i hi => ?_⟩
  obtain ⟨b, off, e, hb, c0⟩ := hc.out i hi
  exact ⟨b, off, e, Nat.lt_of_lt_of_le hb k.size, (Below.cell k (p := ⟨b, off + i, none⟩) hb).trans c0⟩
theorem BosAt.len {w : World} {v : Value} {xs : List Bool} (h : BosAt w v xs) : ∃ ao cap, v = .slice ao xs.length cap := by
  obtain ⟨ao, cap, e, _⟩ := h; exact ⟨ao, cap, e⟩
theorem BosAt.nil (w : World) (ao : Option Addr) (cap : Nat) : BosAt w (.slice ao 0 cap) [] := ⟨ao, cap, rfl, fun i hi => by simp at hi⟩
/-- v is a slice of the call's own (of a block from base on) that reads as xs. -/
def OwnBo (base : Nat) (w : World) (v : Value) (xs : List Bool) : Prop := w.ownsRow base 4 1 v xs.length (xs.map tcell)
theorem OwnBo.at {base : Nat} {w : World} {v : Value} {xs : List Bool} (h : OwnBo base w v xs) : BosAt w v xs := by
  have h2' : w.ownsRow base 4 1 v xs.length (xs.map tcell) := h
  rcases h2'.2 with ⟨hv, hn⟩ | ⟨g, cap, cur, rfl, hb, hg, _⟩
  · exact ⟨none, 0, by rw [hv, hn], fun i hi => by omega⟩
  · refine ⟨_, cap, rfl, fun i hi => ⟨g, 0, rfl, heap_lt hg, ?_⟩⟩
    rw [Nat.zero_add, h2'.cellAt i (by omega)]
    simp [hi, tcell]
theorem OwnBo.mono {base base' : Nat} {w : World} {v : Value} {xs : List Bool} (h : OwnBo base w v xs) (hb : base' ≤ base) : OwnBo base' w v xs := row_mono h hb
theorem OwnBo.since {base : Nat} {w w' : World} {v : Value} {xs : List Bool} (h : OwnBo base w v xs) (k : Since w w') : OwnBo base w' v xs := row_since h k
theorem OwnBo.within {lo hi a b base : Nat} {w w' : World} {v : Value} {xs : List Bool} (h : OwnBo base w v xs) (hv : InR a b v) (k : Within lo hi w w') (hd : b ≤ lo ∨ hi ≤ a) : OwnBo base w' v xs := ownsRow_within h hv k hd
theorem OwnBo.inR {base : Nat} {w : World} {v : Value} {xs : List Bool} (h : OwnBo base w v xs) : InR base w.heap.size v := fun k hk => h.lt k hk
theorem OwnBo.len {base : Nat} {w : World} {v : Value} {xs : List Bool} (h : OwnBo base w v xs) : ∃ ao cap, v = .slice ao xs.length cap := h.at.len
theorem OwnBo.far {base : Nat} {w : World} {v : Value} {xs : List Bool} (h : OwnBo base w v xs) {p : Addr} (hp : p.block < base) (u : Value) : OwnBo base (w.setCell p u) v xs := ownsRow_setCell_below h hp u
theorem OwnBo.nil (base : Nat) (w : World) : OwnBo base w (.slice none 0 0) [] := World.ownsRow_nil _ _ _ _
def BoOut (w : World) (xs : List Bool) (e : Ending) (w' : World) : Prop := ∃ v, e = .returned v ∧ OwnBo w.heap.size w' v xs ∧ Since w w'
set_option maxRecDepth 100000 in
theorem szBoolS_any (v : Value) (xs : List Bool) (left : Int) (w : World) (h : BosAt w v xs) (hl : xs.length ≤ maxLen) (h0 : 0 ≤ left) (h1 : left ≤ 1048576) :
    Calls Try.prog 83 #[v, .int .i64 left] w fun e w' => e = .returned (.int .i64 (szLeft xs.length left)) ∧ w = w' := by
  obtain ⟨ao, cap, rfl⟩ := h.len
  clear h
  unfold maxLen at hl
  obtain ⟨n, hn⟩ : ∃ n, n = xs.length := ⟨_, rfl⟩
  rw [← hn] at hl ⊢
  clear hn
  by_cases hb : left - (n : Int) < 0
  · have HE : Hid (szLeft n left = -1) := by unfold Hid szLeft; rw [if_pos hb]
    go_enter Try.func83, Try.ntmps83
    go_wp2
    go_ret
    exact ⟨ret_int HE.out.symm, rfl⟩
  · have HE : Hid (szLeft n left = left - (n : Int)) := by unfold Hid szLeft; rw [if_neg hb]
    go_enter Try.func83, Try.ntmps83
    go_wp2
    go_ret
    exact ⟨ret_int HE.out.symm, rfl⟩
set_option maxRecDepth 100000 in
theorem toBoolS_any (v : Value) (xs : List Bool) (w : World) (h : BosAt w v xs) (hl : xs.length ≤ 1048577) :
    Calls Try.prog 86 #[v] w (BoOut w xs) := by
  obtain ⟨i0, hi, hz0, hz1, hz2⟩ := info_parts info_boolB
  have HZ2 := Lib.hid hz2
  clear hz2
  obtain ⟨ao, cap, rfl, HC⟩ := h
  obtain ⟨n, hn⟩ : ∃ n, n = xs.length := ⟨_, rfl⟩
  rw [← hn]
  have hn9 : n ≤ 1048577 := by omega
  have HN := Lib.hid hn
  clear hn hl
  go_enter Try.func86, Try.ntmps86
  go_wp2_with (at_make; go_must (refine wpList_make_full _ rfl _ _ 24 rfl w.heap.size 4 i0 (.bool false) 1 Try.underlying24 hi hz0 hz1 .i64 .i64 _ _ n rfl rfl rfl rfl (by rw [HZ2.out]; omega) (by unfold maxLen; omega) (Nat.le_refl _) ?_); intro w1 hown hgrow)
  have hsin : Since w w1 := (Since.refl w).grown hgrow (fun _ h => by simp at h)
  have hrow : w1.ownsRow w.heap.size 4 1 (.slice (some ⟨w.heap.size, 0, none⟩) n n) n (filled (xs.map tcell) (tcell false) 0) := by
    rw [filled_zero, List.length_map, ← HN.out]
    rw [made_bools] at hown
    exact hown
  clear hown hgrow
  go_loopw [4] (fun i wr => ∃ k : Nat, k ≤ n ∧ i = .int .i64 k ∧ wr.ownsRow w.heap.size 4 1 (.slice (some ⟨w.heap.size, 0, none⟩) n n) n (filled (xs.map tcell) (tcell false) k) ∧ Since w wr) (fun i _ => n - (intOf i).toNat)
  case atStart => exact ⟨0, Nat.zero_le _, rfl, hrow, hsin⟩
  case round =>
    obtain ⟨k, hk, rfl, hown, hsin⟩ := hrel
    by_cases hlt : k < n
    · have hkx : k < xs.length := by have := HN.out; omega
      obtain ⟨b, off, rfl, hb, hcell⟩ := HC.out k hkx
      have hsrc : wr.cell? ⟨b, off + k, none⟩ = some (.bool xs[k]) := (Below.cell hsin (p := ⟨b, off + k, none⟩) hb).trans hcell
      have hdst : (wr.cell? ⟨w.heap.size, k, none⟩) = some (tcell false) := (hown.cellAt k (by omega)).trans (filled_at _ _ k (by simpa using hkx))
      unfold tcell at hdst
      have hfz := hown.frozenAt k
      have hst := (hown.stored k (.bool xs[k])).1
      have hfs := filled_set (xs.map tcell) (tcell false) k (by simpa using hkx)
      rw [List.getElem_map] at hfs
      rw [show (Value.bool xs[k]) = tcell xs[k] from rfl, hfs] at hst
      have HST := Lib.hid hst
      clear hst hfs hcell
      go_wp2
      go_roundw
      case rel => exact ⟨k + 1, by omega, by go_num, HST.out, hsin.setCell (Nat.le_refl _) _⟩
      case measure => simp [intOf]; omega
    · obtain rfl : k = n := by omega
      have hfin := filled_all (xs.map tcell) (tcell false) k (by rw [List.length_map, ← HN.out]; exact Nat.le_refl _)
      rw [hfin] at hown
      have HO := Lib.hid hown
      clear hown
      go_wp2
      go_ret
      exact ⟨_, rfl, by unfold OwnBo; rw [← HN.out]; exact HO.out, hsin⟩
theorem take_eq_stepB {xs ys : List Bool} (k : Nat) (h1 : k < xs.length) (h2 : k < ys.length) (h : xs.take k = ys.take k) (he : xs[k] = ys[k]) : xs.take (k + 1) = ys.take (k + 1) := by
  rw [List.take_succ_eq_append_getElem h1, List.take_succ_eq_append_getElem h2, h, he]
set_option maxRecDepth 100000 in
theorem eqBoolS_any (a b : Value) (xs ys : List Bool) (w : World) (ha : BosAt w a xs) (hb : BosAt w b ys) (hl : xs.length ≤ 4611686018427387904) (hl2 : ys.length ≤ 4611686018427387904) :
    Calls Try.prog 77 #[a, b] w fun e w' => e = .returned (.bool (decide (xs = ys))) ∧ Since w w' := by
  obtain ⟨ao1, cap1, rfl, HC1⟩ := ha
  obtain ⟨ao2, cap2, rfl, HC2⟩ := hb
  by_cases hlen : xs.length = ys.length
  · rw [← hlen]
    obtain ⟨n, hn⟩ : ∃ n, n = xs.length := ⟨_, rfl⟩
    rw [← hn]
    have hn9 : n ≤ 4611686018427387904 := by omega
    have HN := Lib.hid hn
    have HN2 : Hid (n = ys.length) := by rw [hn]; exact hlen
    have HNE : (((n : Nat) : Int) != ((n : Nat) : Int)) = false := by simp
    clear hn hlen hl hl2
    go_enter Try.func77, Try.ntmps77
    go_wp2
    go_loopw [5] (fun i wr => ∃ k : Nat, k ≤ n ∧ i = .int .i64 k ∧ Hid (xs.take k = ys.take k) ∧ Since w wr) (fun i _ => n - (intOf i).toNat)
    case atStart => exact ⟨0, Nat.zero_le _, rfl, rfl, Since.refl w⟩
    case round =>
      obtain ⟨k, hk, rfl, HT, hsin⟩ := hrel
      by_cases hlt : k < n
      · have hx : k < xs.length := by have := HN.out; omega
        have hy : k < ys.length := by have := HN2.out; omega
        obtain ⟨b1, off1, rfl, hb1, c1⟩ := HC1.out k hx
        obtain ⟨b2, off2, rfl, hb2, c2⟩ := HC2.out k hy
        have h1 : wr.cell? ⟨b1, off1 + k, none⟩ = some (.bool xs[k]) := (Below.cell hsin (p := ⟨b1, off1 + k, none⟩) hb1).trans c1
        have h2 : wr.cell? ⟨b2, off2 + k, none⟩ = some (.bool ys[k]) := (Below.cell hsin (p := ⟨b2, off2 + k, none⟩) hb2).trans c2
        clear c1 c2
        have hki : (k : Int) < (n : Int) := by omega
        have hk0 : (0 : Int) ≤ (k : Int) := by omega
        by_cases he : xs[k] = ys[k]
        · have HE : Hid (xs.take (k + 1) = ys.take (k + 1)) := take_eq_stepB k hx hy HT.out he
          rw [← he] at h2
          have hb0 : (xs[k] != xs[k]) = false := by simp
          clear he
          go_wp2
          go_quiet (fail)
          go_wp2
          go_roundw
          case rel => exact ⟨k + 1, by omega, by go_num, HE, hsin.drewN _⟩
          case measure => simp [intOf]; omega
        · have HE : Hid (decide (xs = ys) = false) := by
            unfold Hid
            refine decide_eq_false ?_
            intro e; subst e; exact he rfl
          have hxy : (xs[k] = true ∧ ys[k] = false) ∨ (xs[k] = false ∧ ys[k] = true) := by
            cases e1 : xs[k] <;> cases e2 : ys[k] <;> simp_all
          clear he
          rcases hxy with ⟨e1, e2⟩ | ⟨e1, e2⟩
          all_goals
            rw [e1] at h1
            rw [e2] at h2
            clear e1 e2
            go_wp2
            go_quiet (fail)
            go_wp2
            go_ret
            exact ⟨ret_bool HE.out.symm, hsin.drewN _⟩
      · obtain rfl : k = n := by omega
        have HE : Hid (decide (xs = ys) = true) := by
          have := HT.out
          rw [List.take_of_length_le (by have := HN.out; omega), List.take_of_length_le (by have := HN2.out; omega)] at this
          unfold Hid; simpa using this
        go_wp2
        go_ret
        exact ⟨ret_bool HE.out.symm, hsin⟩
  · have HE : Hid (decide (xs = ys) = false) := by unfold Hid; simp; intro e; rw [e] at hlen; exact hlen rfl
    have hne : ((xs.length : Int) != (ys.length : Int)) = true := by simp; omega
    obtain ⟨n, hn⟩ : ∃ n, n = xs.length := ⟨_, rfl⟩
    obtain ⟨m, hm⟩ : ∃ m, m = ys.length := ⟨_, rfl⟩
    clear HC1 HC2
    rw [← hn, ← hm] at hne ⊢
    have hn9 : n ≤ 4611686018427387904 := by omega
    have hm9 : m ≤ 4611686018427387904 := by omega
    clear hn hm hlen hl hl2
    go_enter Try.func77, Try.ntmps77
    go_wp2
    go_ret
    exact ⟨ret_bool HE.out.symm, Since.refl _⟩
/-- What markBoolS writes. -/
def countB (k : Int) (n : Nat) : List Bool := (List.range n).map fun (i : Nat) => (k + (i : Int)) % 3 == 0
theorem countB_length (k : Int) (n : Nat) : (countB k n).length = n := by simp [countB]
theorem countB_at (k : Int) (n i : Nat) (h : i < n) : (countB k n)[i]'(by rw [countB_length]; exact h) = ((k + (i : Int)) % 3 == 0) := by simp [countB]
def markedB (xs : List Bool) (k : Int) (j : Nat) : List Value := (countB k j).map tcell ++ (xs.drop j).map tcell
theorem markedB_zero (xs : List Bool) (k : Int) : markedB xs k 0 = xs.map tcell := by simp [markedB, countB]
theorem markedB_all (xs : List Bool) (k : Int) : markedB xs k xs.length = (countB k xs.length).map tcell := by simp [markedB]
theorem markedB_set (xs : List Bool) (k : Int) (j : Nat) (h : j < xs.length) : (markedB xs k j).set j (.bool ((k + (j : Int)) % 3 == 0)) = markedB xs k (j + 1) := by
  unfold markedB
  rw [List.set_append_right _ _ (by simp [countB]), List.length_map, countB_length, Nat.sub_self, List.drop_eq_getElem_cons h, List.map_cons, List.set_cons_zero]
  have : countB k (j + 1) = countB k j ++ [(k + (j : Int)) % 3 == 0] := by simp [countB, List.range_succ]
  rw [this, List.map_append, List.append_assoc]; rfl
theorem markedB_at (xs : List Bool) (k : Int) (j : Nat) (h : j < xs.length) : (markedB xs k j)[j]? = some (tcell xs[j]) := by
  unfold markedB
  rw [List.getElem?_append_right (by simp [countB]), List.length_map, countB_length, Nat.sub_self, List.getElem?_map]
  simp [h]
def MarkBOut (base : Nat) (w : World) (v : Value) (k : Int) (n : Nat) (e : Ending) (w' : World) : Prop :=
  e = .returned (.int .i64 (k + n)) ∧ OwnBo base w' v (countB k n) ∧ w.grownBy w' v.ownBlock
set_option maxRecDepth 100000 in
theorem markBoolS_any (base : Nat) (v : Value) (xs : List Bool) (k : Int) (w : World) (h : OwnBo base w v xs) (hk0 : 0 ≤ k) (hk9 : k ≤ 2305843009213693952) (hl : xs.length ≤ 2305843009213693952) :
    Calls Try.prog 79 #[v, .int .i64 k] w (MarkBOut base w v k xs.length) := by
  have hown : w.ownsRow base 4 1 v xs.length (xs.map tcell) := h
  clear h
  have hcase : v = .slice none 0 0 ∧ xs.length = 0 ∨ ∃ g cap, v = .slice (some ⟨g, 0, none⟩) xs.length cap ∧ base ≤ g := by
    rcases hown.2 with ⟨a, b⟩ | ⟨g, cap, cur, a, b, _⟩
    · exact .inl ⟨a, b⟩
    · exact .inr ⟨g, cap, a, b⟩
  obtain ⟨n, hn⟩ : ∃ n, n = xs.length := ⟨_, rfl⟩
  rw [← hn] at hcase hown hl ⊢
  rcases hcase with ⟨rfl, hn0⟩ | ⟨g, cap, rfl, hg⟩
  · subst hn0
    clear hn hown
    go_enter Try.func79, Try.ntmps79
    go_wp2
    go_loopw [1, 5] (fun q i wr => q = .int .i64 k ∧ i = .int .i64 0 ∧ wr = w) (fun _ _ _ => 0)
    case atStart => exact ⟨rfl, rfl, rfl⟩
    case round =>
      obtain ⟨rfl, rfl, rfl⟩ := hrel
      go_wp2
      go_ret
      exact ⟨ret_int (by simp), by simp [OwnBo, countB]; exact World.ownsRow_nil _ _ _ _, ⟨rfl, rfl, rfl, Nat.le_refl _, fun _ _ _ => rfl⟩⟩
  · have hown0 : w.ownsRow base 4 1 (.slice (some ⟨g, 0, none⟩) n cap) n (markedB xs k 0) := by rw [markedB_zero]; exact hown
    clear hown
    have HN := Lib.hid hn
    clear hn
    go_enter Try.func79, Try.ntmps79
    go_wp2
    go_loopw [1, 5] (fun q i wr => ∃ j : Nat, j ≤ n ∧ i = .int .i64 j ∧ q = .int .i64 (k + j) ∧ wr.ownsRow base 4 1 (.slice (some ⟨g, 0, none⟩) n cap) n (markedB xs k j) ∧ w.grownBy wr (some g)) (fun _ i _ => n - (intOf i).toNat)
    case atStart => exact ⟨0, Nat.zero_le _, rfl, by simp, hown0, ⟨rfl, rfl, rfl, Nat.le_refl _, fun _ _ _ => rfl⟩⟩
    case round =>
      obtain ⟨j, hj, rfl, rfl, hown, hgr⟩ := hrel
      by_cases hlt : j < n
      · have hx : j < xs.length := by have := HN.out; omega
        have hdst := (hown.cellAt j (by omega)).trans (markedB_at xs k j hx)
        unfold tcell at hdst
        have hfz := hown.frozenAt j
        have hst := hown.stored j (.bool ((k + (j : Int)) % 3 == 0))
        rw [markedB_set xs k j hx] at hst
        have HST := Lib.hid hst.1
        have HG := Lib.hid (grow_tr hgr hst.2)
        have hq0 : 0 ≤ k + (j : Int) := by omega
        clear hst
        go_wp2
        go_roundw
        case rel => exact ⟨j + 1, by omega, by go_num, by go_num, HST.out, HG.out⟩
        case measure => simp [intOf]; omega
      · obtain rfl : j = n := by omega
        have hr : markedB xs k j = (countB k j).map tcell := by
          have := HN.out; subst this; exact markedB_all xs k
        rw [hr] at hown
        have HO := Lib.hid hown
        clear hown
        go_wp2
        go_ret
        exact ⟨rfl, by unfold OwnBo; rw [countB_length]; exact HO.out, hgr⟩
set_option maxRecDepth 100000 in
theorem heldBoolS_any (v : Value) (k : Int) (n : Nat) (w : World) (h : BosAt w v (countB k n)) (hk0 : 0 ≤ k) (hk9 : k ≤ 2305843009213693952) (hl : n ≤ 2305843009213693952) :
    Calls Try.prog 81 #[v, .int .i64 k] w fun e w' => e = .returned (.int .i64 (k + n)) ∧ w = w' := by
  obtain ⟨ao, cap, rfl, HC⟩ := h
  rw [countB_length]
  have HC2 : Hid (∀ i, i < n → ∃ b off, ao = some ⟨b, off, none⟩ ∧ w.cell? ⟨b, off + i, none⟩ = some (.bool ((k + (i : Int)) % 3 == 0))) := by
    intro i hi
    obtain ⟨b, off, e, _, c0⟩ := HC.out i (by rw [countB_length]; exact hi)
    rw [countB_at k n i hi] at c0
    exact ⟨b, off, e, c0⟩
  clear HC
  go_enter Try.func81, Try.ntmps81
  go_wp2
  go_loop [1, 5] (fun q i => ∃ j : Nat, j ≤ n ∧ i = .int .i64 j ∧ q = .int .i64 (k + j)) (fun _ i => n - (intOf i).toNat)
  case atStart => exact ⟨0, Nat.zero_le _, rfl, by simp⟩
  case round =>
    obtain ⟨j, hj, rfl, rfl⟩ := hrel
    by_cases hlt : j < n
    · obtain ⟨b, off, rfl, c0⟩ := HC2.out j hlt
      have b1 : (((k + (j : Int)) % 3 == 0) != ((k + (j : Int)) % 3 == 0)) = false := by simp
      have hq0 : 0 ≤ k + (j : Int) := by omega
      go_wp2
      go_round
      case rel => exact ⟨j + 1, by omega, by go_num, by go_num⟩
      case measure => simp [intOf]; omega
    · obtain rfl : j = n := by omega
      go_wp2
      go_ret
      exact ⟨rfl, rfl⟩
end Go.Proofs.Ytcokggjekleabaa
