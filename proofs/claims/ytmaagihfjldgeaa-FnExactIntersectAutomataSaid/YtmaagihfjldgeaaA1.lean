/- Boo, Iss, Aut, AutL, AuM, AuL, AuB, NuC, ClM: small words and contracts that the other texts use. -/
import Derived.Test.YtmaagihfjldgeaaK1
import Derived.Lib.SmallJoins
import Derived.Deep.Slices
import Derived.Test.YtmaagihfjldgeaaK0
/- Slices of truth values: how they read; the laws' own copies, sizes, comparisons, marks and checks. -/
namespace Go.Proofs.Ytmaagihfjldgeaa
set_option maxRecDepth 100000
open Go.ChangeShapes Go.WideShapes Go.ChangeAt Go.RowKit Go.Joins Go.Deep
set_option linter.unusedVariables false
set_option linter.unusedSimpArgs false

def tcell (x : Bool) : Value := .bool x
theorem info_boolB : (Try.prog.info? 4).map (fun i => (i.zero, i.size, i.bytes)) = some (some (.bool false), 1, 1) := by kernel_rfl
theorem made_bools (n : Nat) : (madeCells (Value.bool false).cells (n * 1)).toList = List.replicate n (.bool false) := by
  rw [Nat.mul_one]; exact toList_madeCells_one _ n
/-- v is a slice that reads as xs. -/
def BosAt (w : World) (v : Value) (xs : List Bool) : Prop :=
  ∃ ao cap, v = .slice ao xs.length cap ∧ Hid (∀ i (h : i < xs.length), ∃ b off, ao = some ⟨b, off, none⟩ ∧ b < w.heap.size ∧ w.cell? ⟨b, off + i, none⟩ = some (.bool xs[i]))
theorem BosAt.since {w w' : World} {v : Value} {xs : List Bool} (h : BosAt w v xs) (k : Since w w') : BosAt w' v xs := by
  obtain ⟨ao, cap, rfl, hc⟩ := h
  refine ⟨ao, cap, rfl, fun i hi => ?_⟩
  obtain ⟨b, off, e, hb, c0⟩ := hc.out i hi
  exact ⟨b, off, e, Nat.lt_of_lt_of_le hb k.size, (Below.cell k (p := ⟨b, off + i, none⟩) hb).trans c0⟩
theorem BosAt.len {w : World} {v : Value} {xs : List Bool} (h : BosAt w v xs) : ∃ ao cap, v = .slice ao xs.length cap := by
  obtain ⟨ao, cap, e, _⟩ := h; exact ⟨ao, cap, e⟩
theorem BosAt.nil (w : World) (ao : Option Addr) (cap : Nat) : BosAt w (.slice ao 0 cap) [] := ⟨ao, cap, rfl, fun i hi => by simp at hi⟩
/-- v is a slice of the call's own (of a block from base on) that reads as xs. -/
def OwnBo (base : Nat) (w : World) (v : Value) (xs : List Bool) : Prop := w.ownsRow base 4 1 v xs.length (xs.map tcell)
theorem OwnBo.at {base : Nat} {w : World} {v : Value} {xs : List Bool} (h : OwnBo base w v xs) : BosAt w v xs := by
  have h2' : w.ownsRow base 4 1 v xs.length (xs.map tcell) := h
  rcases h2'.2 with ⟨hv, hn⟩ | ⟨g, cap, cur, rfl, hb, hg, _⟩
  · exact ⟨none, 0, by rw [hv, hn], fun i hi => by omega⟩
  · refine ⟨_, cap, rfl, fun i hi => ⟨g, 0, rfl, heap_lt hg, ?_⟩⟩
    rw [Nat.zero_add, h2'.cellAt i (by omega)]
    simp [hi, tcell]
theorem OwnBo.mono {base base' : Nat} {w : World} {v : Value} {xs : List Bool} (h : OwnBo base w v xs) (hb : base' ≤ base) : OwnBo base' w v xs := row_mono h hb
theorem OwnBo.since {base : Nat} {w w' : World} {v : Value} {xs : List Bool} (h : OwnBo base w v xs) (k : Since w w') : OwnBo base w' v xs := row_since h k
theorem OwnBo.within {lo hi a b base : Nat} {w w' : World} {v : Value} {xs : List Bool} (h : OwnBo base w v xs) (hv : InR a b v) (k : Within lo hi w w') (hd : b ≤ lo ∨ hi ≤ a) : OwnBo base w' v xs := ownsRow_within h hv k hd
theorem OwnBo.inR {base : Nat} {w : World} {v : Value} {xs : List Bool} (h : OwnBo base w v xs) : InR base w.heap.size v := fun k hk => h.lt k hk
theorem OwnBo.len {base : Nat} {w : World} {v : Value} {xs : List Bool} (h : OwnBo base w v xs) : ∃ ao cap, v = .slice ao xs.length cap := h.at.len
theorem OwnBo.far {base : Nat} {w : World} {v : Value} {xs : List Bool} (h : OwnBo base w v xs) {p : Addr} (hp : p.block < base) (u : Value) : OwnBo base (w.setCell p u) v xs := ownsRow_setCell_below h hp u
theorem OwnBo.nil (base : Nat) (w : World) : OwnBo base w (.slice none 0 0) [] := World.ownsRow_nil _ _ _ _
def BoOut (w : World) (xs : List Bool) (e : Ending) (w' : World) : Prop := ∃ v, e = .returned v ∧ OwnBo w.heap.size w' v xs ∧ Since w w'
set_option maxRecDepth 100000 in
theorem szBoolS_any (v : Value) (xs : List Bool) (left : Int) (w : World) (h : BosAt w v xs) (hl : xs.length ≤ maxLen) (h0 : 0 ≤ left) (h1 : left ≤ 1048576) :
    Calls Try.prog 114 #[v, .int .i64 left] w fun e w' => e = .returned (.int .i64 (szLeft xs.length left)) ∧ w = w' := by
  obtain ⟨ao, cap, rfl⟩ := h.len
  clear h
  unfold maxLen at hl
  obtain ⟨n, hn⟩ : ∃ n, n = xs.length := ⟨_, rfl⟩
  rw [← hn] at hl ⊢
  clear hn
  by_cases hb : left - (n : Int) < 0
  · have HE : Hid (szLeft n left = -1) := by unfold Hid szLeft; rw [if_pos hb]
    go_enter Try.func114, Try.ntmps114
    go_wp2
    go_ret
    exact ⟨ret_int HE.out.symm, rfl⟩
  · have HE : Hid (szLeft n left = left - (n : Int)) := by unfold Hid szLeft; rw [if_neg hb]
    go_enter Try.func114, Try.ntmps114
    go_wp2
    go_ret
    exact ⟨ret_int HE.out.symm, rfl⟩
set_option maxRecDepth 100000 in
theorem toBoolS_any (v : Value) (xs : List Bool) (w : World) (h : BosAt w v xs) (hl : xs.length ≤ 1048577) :
    Calls Try.prog 116 #[v] w (BoOut w xs) := by
  obtain ⟨i0, hi, hz0, hz1, hz2⟩ := info_parts info_boolB
  have HZ2 := Lib.hid hz2
  clear hz2
  obtain ⟨ao, cap, rfl, HC⟩ := h
  obtain ⟨n, hn⟩ : ∃ n, n = xs.length := ⟨_, rfl⟩
  rw [← hn]
  have hn9 : n ≤ 1048577 := by omega
  have HN := Lib.hid hn
  clear hn hl
  go_enter Try.func116, Try.ntmps116
  go_wp2_with (at_make; go_must (refine wpList_make_full _ rfl _ _ 36 rfl w.heap.size 4 i0 (.bool false) 1 Try.underlying36 hi hz0 hz1 .i64 .i64 _ _ n rfl rfl rfl rfl (by rw [HZ2.out]; omega) (by unfold maxLen; omega) (Nat.le_refl _) ?_); intro w1 hown hgrow)
  have hsin : Since w w1 := (Since.refl w).grown hgrow (fun _ h => by simp at h)
  have hrow : w1.ownsRow w.heap.size 4 1 (.slice (some ⟨w.heap.size, 0, none⟩) n n) n (filled (xs.map tcell) (tcell false) 0) := by
    rw [filled_zero, List.length_map, ← HN.out]
    rw [made_bools] at hown
    exact hown
  clear hown hgrow
  go_loopw [4] (fun i wr => ∃ k : Nat, k ≤ n ∧ i = .int .i64 k ∧ wr.ownsRow w.heap.size 4 1 (.slice (some ⟨w.heap.size, 0, none⟩) n n) n (filled (xs.map tcell) (tcell false) k) ∧ Since w wr) (fun i _ => n - (intOf i).toNat)
  case atStart => exact ⟨0, Nat.zero_le _, rfl, hrow, hsin⟩
  case round =>
    obtain ⟨k, hk, rfl, hown, hsin⟩ := hrel
    by_cases hlt : k < n
    · have hkx : k < xs.length := by have := HN.out; omega
      obtain ⟨b, off, rfl, hb, hcell⟩ := HC.out k hkx
      have hsrc : wr.cell? ⟨b, off + k, none⟩ = some (.bool xs[k]) := (Below.cell hsin (p := ⟨b, off + k, none⟩) hb).trans hcell
      have hdst : (wr.cell? ⟨w.heap.size, k, none⟩) = some (tcell false) := (hown.cellAt k (by omega)).trans (filled_at _ _ k (by simpa using hkx))
      unfold tcell at hdst
      have hfz := hown.frozenAt k
      have hst := (hown.stored k (.bool xs[k])).1
      have hfs := filled_set (xs.map tcell) (tcell false) k (by simpa using hkx)
      rw [List.getElem_map] at hfs
      rw [show (Value.bool xs[k]) = tcell xs[k] from rfl, hfs] at hst
      have HST := Lib.hid hst
      clear hst hfs hcell
      go_wp2
      go_roundw
      case rel => exact ⟨k + 1, by omega, by go_num, HST.out, hsin.setCell (Nat.le_refl _) _⟩
      case measure => simp [intOf]; omega
    · obtain rfl : k = n := by omega
      have hfin := filled_all (xs.map tcell) (tcell false) k (by rw [List.length_map, ← HN.out]; exact Nat.le_refl _)
      rw [hfin] at hown
      have HO := Lib.hid hown
      clear hown
      go_wp2
      go_ret
      exact ⟨_, rfl, by unfold OwnBo; rw [← HN.out]; exact HO.out, hsin⟩
theorem take_eq_stepB {xs ys : List Bool} (k : Nat) (h1 : k < xs.length) (h2 : k < ys.length) (h : xs.take k = ys.take k) (he : xs[k] = ys[k]) : xs.take (k + 1) = ys.take (k + 1) := by
  rw [List.take_succ_eq_append_getElem h1, List.take_succ_eq_append_getElem h2, h, he]
set_option maxRecDepth 100000 in
theorem eqBoolS_any (a b : Value) (xs ys : List Bool) (w : World) (ha : BosAt w a xs) (hb : BosAt w b ys) (hl : xs.length ≤ 4611686018427387904) (hl2 : ys.length ≤ 4611686018427387904) :
    Calls Try.prog 118 #[a, b] w fun e w' => e = .returned (.bool (decide (xs = ys))) ∧ Since w w' := by
  obtain ⟨ao1, cap1, rfl, HC1⟩ := ha
  obtain ⟨ao2, cap2, rfl, HC2⟩ := hb
  by_cases hlen : xs.length = ys.length
  · rw [← hlen]
    obtain ⟨n, hn⟩ : ∃ n, n = xs.length := ⟨_, rfl⟩
    rw [← hn]
    have hn9 : n ≤ 4611686018427387904 := by omega
    have HN := Lib.hid hn
    have HN2 : Hid (n = ys.length) := by rw [hn]; exact hlen
    have HNE : (((n : Nat) : Int) != ((n : Nat) : Int)) = false := by simp
    clear hn hlen hl hl2
    go_enter Try.func118, Try.ntmps118
    go_wp2
    go_loopw [5] (fun i wr => ∃ k : Nat, k ≤ n ∧ i = .int .i64 k ∧ Hid (xs.take k = ys.take k) ∧ Since w wr) (fun i _ => n - (intOf i).toNat)
    case atStart => exact ⟨0, Nat.zero_le _, rfl, rfl, Since.refl w⟩
    case round =>
      obtain ⟨k, hk, rfl, HT, hsin⟩ := hrel
      by_cases hlt : k < n
      · have hx : k < xs.length := by have := HN.out; omega
        have hy : k < ys.length := by have := HN2.out; omega
        obtain ⟨b1, off1, rfl, hb1, c1⟩ := HC1.out k hx
        obtain ⟨b2, off2, rfl, hb2, c2⟩ := HC2.out k hy
        have h1 : wr.cell? ⟨b1, off1 + k, none⟩ = some (.bool xs[k]) := (Below.cell hsin (p := ⟨b1, off1 + k, none⟩) hb1).trans c1
        have h2 : wr.cell? ⟨b2, off2 + k, none⟩ = some (.bool ys[k]) := (Below.cell hsin (p := ⟨b2, off2 + k, none⟩) hb2).trans c2
        clear c1 c2
        have hki : (k : Int) < (n : Int) := by omega
        have hk0 : (0 : Int) ≤ (k : Int) := by omega
        by_cases he : xs[k] = ys[k]
        · have HE : Hid (xs.take (k + 1) = ys.take (k + 1)) := take_eq_stepB k hx hy HT.out he
          rw [← he] at h2
          have hb0 : (xs[k] != xs[k]) = false := by simp
          clear he
          go_wp2
          go_quiet (fail)
          go_wp2
          go_roundw
          case rel => exact ⟨k + 1, by omega, by go_num, HE, hsin.drewN _⟩
          case measure => simp [intOf]; omega
        · have HE : Hid (decide (xs = ys) = false) := by
            unfold Hid
            refine decide_eq_false ?_
            intro e; subst e; exact he rfl
          have hxy : (xs[k] = true ∧ ys[k] = false) ∨ (xs[k] = false ∧ ys[k] = true) := by
            cases e1 : xs[k] <;> cases e2 : ys[k] <;> simp_all
          clear he
          rcases hxy with ⟨e1, e2⟩ | ⟨e1, e2⟩
          all_goals
            rw [e1] at h1
            rw [e2] at h2
            clear e1 e2
            go_wp2
            go_quiet (fail)
            go_wp2
            go_ret
            exact ⟨ret_bool HE.out.symm, hsin.drewN _⟩
      · obtain rfl : k = n := by omega
        have HE : Hid (decide (xs = ys) = true) := by
          have := HT.out
          rw [List.take_of_length_le (by have := HN.out; omega), List.take_of_length_le (by have := HN2.out; omega)] at this
          unfold Hid; simpa using this
        go_wp2
        go_ret
        exact ⟨ret_bool HE.out.symm, hsin⟩
  · have HE : Hid (decide (xs = ys) = false) := by unfold Hid; simp; intro e; rw [e] at hlen; exact hlen rfl
    have hne : ((xs.length : Int) != (ys.length : Int)) = true := by simp; omega
    obtain ⟨n, hn⟩ : ∃ n, n = xs.length := ⟨_, rfl⟩
    obtain ⟨m, hm⟩ : ∃ m, m = ys.length := ⟨_, rfl⟩
    clear HC1 HC2
    rw [← hn, ← hm] at hne ⊢
    have hn9 : n ≤ 4611686018427387904 := by omega
    have hm9 : m ≤ 4611686018427387904 := by omega
    clear hn hm hlen hl hl2
    go_enter Try.func118, Try.ntmps118
    go_wp2
    go_ret
    exact ⟨ret_bool HE.out.symm, Since.refl _⟩
/-- What markBoolS writes. -/
def countB (k : Int) (n : Nat) : List Bool := (List.range n).map fun (i : Nat) => (k + (i : Int)) % 3 == 0
theorem countB_length (k : Int) (n : Nat) : (countB k n).length = n := by simp [countB]
theorem countB_at (k : Int) (n i : Nat) (h : i < n) : (countB k n)[i]'(by rw [countB_length]; exact h) = ((k + (i : Int)) % 3 == 0) := by simp [countB]
def markedB (xs : List Bool) (k : Int) (j : Nat) : List Value := (countB k j).map tcell ++ (xs.drop j).map tcell
theorem markedB_zero (xs : List Bool) (k : Int) : markedB xs k 0 = xs.map tcell := by simp [markedB, countB]
theorem markedB_all (xs : List Bool) (k : Int) : markedB xs k xs.length = (countB k xs.length).map tcell := by simp [markedB]
theorem markedB_set (xs : List Bool) (k : Int) (j : Nat) (h : j < xs.length) : (markedB xs k j).set j (.bool ((k + (j : Int)) % 3 == 0)) = markedB xs k (j + 1) := by
  unfold markedB
  rw [List.set_append_right _ _ (by simp [countB]), List.length_map, countB_length, Nat.sub_self, List.drop_eq_getElem_cons h, List.map_cons, List.set_cons_zero]
  have : countB k (j + 1) = countB k j ++ [(k + (j : Int)) % 3 == 0] := by simp [countB, List.range_succ]
  rw [this, List.map_append, List.append_assoc]; rfl
theorem markedB_at (xs : List Bool) (k : Int) (j : Nat) (h : j < xs.length) : (markedB xs k j)[j]? = some (tcell xs[j]) := by
  unfold markedB
  rw [List.getElem?_append_right (by simp [countB]), List.length_map, countB_length, Nat.sub_self, List.getElem?_map]
  simp [h]
def MarkBOut (base : Nat) (w : World) (v : Value) (k : Int) (n : Nat) (e : Ending) (w' : World) : Prop :=
  e = .returned (.int .i64 (k + n)) ∧ OwnBo base w' v (countB k n) ∧ w.grownBy w' v.ownBlock
set_option maxRecDepth 100000 in
theorem markBoolS_any (base : Nat) (v : Value) (xs : List Bool) (k : Int) (w : World) (h : OwnBo base w v xs) (hk0 : 0 ≤ k) (hk9 : k ≤ 2305843009213693952) (hl : xs.length ≤ 2305843009213693952) :
    Calls Try.prog 120 #[v, .int .i64 k] w (MarkBOut base w v k xs.length) := by
  have hown : w.ownsRow base 4 1 v xs.length (xs.map tcell) := h
  clear h
  have hcase : v = .slice none 0 0 ∧ xs.length = 0 ∨ ∃ g cap, v = .slice (some ⟨g, 0, none⟩) xs.length cap ∧ base ≤ g := by
    rcases hown.2 with ⟨a, b⟩ | ⟨g, cap, cur, a, b, _⟩
    · exact .inl ⟨a, b⟩
    · exact .inr ⟨g, cap, a, b⟩
  obtain ⟨n, hn⟩ : ∃ n, n = xs.length := ⟨_, rfl⟩
  rw [← hn] at hcase hown hl ⊢
  rcases hcase with ⟨rfl, hn0⟩ | ⟨g, cap, rfl, hg⟩
  · subst hn0
    clear hn hown
    go_enter Try.func120, Try.ntmps120
    go_wp2
    go_loopw [1, 5] (fun q i wr => q = .int .i64 k ∧ i = .int .i64 0 ∧ wr = w) (fun _ _ _ => 0)
    case atStart => exact ⟨rfl, rfl, rfl⟩
    case round =>
      obtain ⟨rfl, rfl, rfl⟩ := hrel
      go_wp2
      go_ret
      exact ⟨ret_int (by simp), by simp [OwnBo, countB]; exact World.ownsRow_nil _ _ _ _, ⟨rfl, rfl, rfl, Nat.le_refl _, fun _ _ _ => rfl⟩⟩
  · have hown0 : w.ownsRow base 4 1 (.slice (some ⟨g, 0, none⟩) n cap) n (markedB xs k 0) := by rw [markedB_zero]; exact hown
    clear hown
    have HN := Lib.hid hn
    clear hn
    go_enter Try.func120, Try.ntmps120
    go_wp2
    go_loopw [1, 5] (fun q i wr => ∃ j : Nat, j ≤ n ∧ i = .int .i64 j ∧ q = .int .i64 (k + j) ∧ wr.ownsRow base 4 1 (.slice (some ⟨g, 0, none⟩) n cap) n (markedB xs k j) ∧ w.grownBy wr (some g)) (fun _ i _ => n - (intOf i).toNat)
    case atStart => exact ⟨0, Nat.zero_le _, rfl, by simp, hown0, ⟨rfl, rfl, rfl, Nat.le_refl _, fun _ _ _ => rfl⟩⟩
    case round =>
      obtain ⟨j, hj, rfl, rfl, hown, hgr⟩ := hrel
      by_cases hlt : j < n
      · have hx : j < xs.length := by have := HN.out; omega
        have hdst := (hown.cellAt j (by omega)).trans (markedB_at xs k j hx)
        unfold tcell at hdst
        have hfz := hown.frozenAt j
        have hst := hown.stored j (.bool ((k + (j : Int)) % 3 == 0))
        rw [markedB_set xs k j hx] at hst
        have HST := Lib.hid hst.1
        have HG := Lib.hid (grow_tr hgr hst.2)
        have hq0 : 0 ≤ k + (j : Int) := by omega
        clear hst
        go_wp2
        go_roundw
        case rel => exact ⟨j + 1, by omega, by go_num, by go_num, HST.out, HG.out⟩
        case measure => simp [intOf]; omega
      · obtain rfl : j = n := by omega
        have hr : markedB xs k j = (countB k j).map tcell := by
          have := HN.out; subst this; exact markedB_all xs k
        rw [hr] at hown
        have HO := Lib.hid hown
        clear hown
        go_wp2
        go_ret
        exact ⟨rfl, by unfold OwnBo; rw [countB_length]; exact HO.out, hgr⟩
set_option maxRecDepth 100000 in
theorem heldBoolS_any (v : Value) (k : Int) (n : Nat) (w : World) (h : BosAt w v (countB k n)) (hk0 : 0 ≤ k) (hk9 : k ≤ 2305843009213693952) (hl : n ≤ 2305843009213693952) :
    Calls Try.prog 126 #[v, .int .i64 k] w fun e w' => e = .returned (.int .i64 (k + n)) ∧ w = w' := by
  obtain ⟨ao, cap, rfl, HC⟩ := h
  rw [countB_length]
  have HC2 : Hid (∀ i, i < n → ∃ b off, ao = some ⟨b, off, none⟩ ∧ w.cell? ⟨b, off + i, none⟩ = some (.bool ((k + (i : Int)) % 3 == 0))) := by
    intro i hi
    obtain ⟨b, off, e, _, c0⟩ := HC.out i (by rw [countB_length]; exact hi)
    rw [countB_at k n i hi] at c0
    exact ⟨b, off, e, c0⟩
  clear HC
  go_enter Try.func126, Try.ntmps126
  go_wp2
  go_loop [1, 5] (fun q i => ∃ j : Nat, j ≤ n ∧ i = .int .i64 j ∧ q = .int .i64 (k + j)) (fun _ i => n - (intOf i).toNat)
  case atStart => exact ⟨0, Nat.zero_le _, rfl, by simp⟩
  case round =>
    obtain ⟨j, hj, rfl, rfl⟩ := hrel
    by_cases hlt : j < n
    · obtain ⟨b, off, rfl, c0⟩ := HC2.out j hlt
      have b1 : (((k + (j : Int)) % 3 == 0) != ((k + (j : Int)) % 3 == 0)) = false := by simp
      have hq0 : 0 ≤ k + (j : Int) := by omega
      go_wp2
      go_round
      case rel => exact ⟨j + 1, by omega, by go_num, by go_num⟩
      case measure => simp [intOf]; omega
    · obtain rfl : j = n := by omega
      go_wp2
      go_ret
      exact ⟨rfl, rfl⟩
end Go.Proofs.Ytmaagihfjldgeaa

/- Slices of int slices: how they read; the laws' own copies, sizes, comparisons, marks and checks. -/
namespace Go.Proofs.Ytmaagihfjldgeaa
set_option maxRecDepth 100000
open Go.ChangeShapes Go.WideShapes Go.ChangeAt Go.RowKit Go.Joins Go.Deep
set_option linter.unusedVariables false
set_option linter.unusedSimpArgs false

abbrev nilS : Value := .slice none 0 0
theorem info_ints : (Try.prog.info? 24).map (fun i => (i.zero, i.size, i.bytes)) = some (some (.slice none 0 0), 1, 24) := by kernel_rfl
theorem made_intss (n : Nat) : (madeCells (Value.slice none 0 0).cells (n * 1)).toList = List.replicate n nilS := by
  rw [Nat.mul_one]; exact toList_madeCells_one _ n
/-- v is a slice of int slices that reads as xs. -/
def IssAt (w : World) (v : Value) (xs : List (List Int)) : Prop :=
  ∃ ao cap, v = .slice ao xs.length cap ∧ Hid (∀ i (h : i < xs.length), ∃ b off p, ao = some ⟨b, off, none⟩ ∧ b < w.heap.size ∧ w.cell? ⟨b, off + i, none⟩ = some p ∧ IntsAt w p xs[i])
theorem IssAt.since {w w' : World} {v : Value} {xs : List (List Int)} (h : IssAt w v xs) (k : Since w w') : IssAt w' v xs := by
  obtain ⟨ao, cap, rfl, hc⟩ := h
  refine ⟨ao, cap, rfl, fun i hi => ?_⟩
  obtain ⟨b, off, p, e, hb, c0, c1⟩ := hc.out i hi
  exact ⟨b, off, p, e, Nat.lt_of_lt_of_le hb k.size, (Below.cell k (p := ⟨b, off + i, none⟩) hb).trans c0, c1.since k⟩
theorem IssAt.len {w : World} {v : Value} {xs : List (List Int)} (h : IssAt w v xs) : ∃ ao cap, v = .slice ao xs.length cap := by
  obtain ⟨ao, cap, e, _⟩ := h; exact ⟨ao, cap, e⟩
theorem IssAt.nil (w : World) (ao : Option Addr) (cap : Nat) : IssAt w (.slice ao 0 cap) [] := ⟨ao, cap, rfl, fun i hi => by simp at hi⟩
/-- Two values that lie in different blocks (or one in none). -/
def Apart (a b : Value) : Prop := a.ownBlock = none ∨ a.ownBlock ≠ b.ownBlock
theorem Apart.symm {a b : Value} (h : Apart a b) : Apart b a := by
  rcases h with e | e
  · cases hb : b.ownBlock with
    | none => exact .inl hb
    | some q => exact .inr (by rw [hb, e]; simp)
  · exact .inr (fun e2 => e e2.symm)
/-- v is a slice of int slices of the call's own, all in blocks from lo on and below hi, the rows apart. -/
def OwnSS (lo hi : Nat) (w : World) (v : Value) (xs : List (List Int)) : Prop :=
  ∃ ps : List Value, w.ownsRow lo 24 1 v xs.length ps ∧ ps.length = xs.length ∧ InR lo hi v ∧
    (∀ i (h : i < ps.length) (h2 : i < xs.length), Own lo w ps[i] xs[i] ∧ InR lo hi ps[i]) ∧ ∀ i j (hi : i < ps.length) (hj : j < ps.length), i ≠ j → Apart ps[i] ps[j]
section
variable {lo hi : Nat} {w w' : World} {v : Value} {xs : List (List Int)}
theorem OwnSS.at (h : OwnSS lo hi w v xs) : IssAt w v xs := by
  obtain ⟨ps, h1, h2, _, h4, _⟩ := h
  rcases h1.2 with ⟨hv, hn⟩ | ⟨g, cap, cur, rfl, hb, hg, _⟩
  · exact ⟨none, 0, by rw [hv, hn], fun i hi => by omega⟩
  · refine ⟨_, cap, rfl, fun i hi => ⟨g, 0, ps[i], rfl, heap_lt hg, ?_, (h4 i (by omega) hi).1.at⟩⟩
    rw [Nat.zero_add, h1.cellAt i (by omega)]
    simp [h2, hi]
theorem OwnSS.since (h : OwnSS lo hi w v xs) (k : Since w w') : OwnSS lo hi w' v xs := by
  obtain ⟨ps, h1, h2, h3, h4, h5⟩ := h
  exact ⟨ps, row_since h1 k, h2, h3, fun i hi h => ⟨(h4 i hi h).1.since k, (h4 i hi h).2⟩, h5⟩
theorem OwnSS.within {a b : Nat} (h : OwnSS a b w v xs) (k : Within lo hi w w') (hd : b ≤ lo ∨ hi ≤ a) : OwnSS a b w' v xs := by
  obtain ⟨ps, h1, h2, h3, h4, h5⟩ := h
  exact ⟨ps, ownsRow_within h1 h3 k hd, h2, h3, fun i hi h => ⟨(h4 i hi h).1.within (h4 i hi h).2 k hd, (h4 i hi h).2⟩, h5⟩
theorem OwnSS.wider {a b : Nat} (h : OwnSS lo hi w v xs) (ha : a ≤ lo) (hb : hi ≤ b) : OwnSS a b w v xs := by
  obtain ⟨ps, h1, h2, h3, h4, h5⟩ := h
  exact ⟨ps, row_mono h1 ha, h2, h3.mono ha hb, fun i hi h => ⟨(h4 i hi h).1.mono ha, (h4 i hi h).2.mono ha hb⟩, h5⟩
theorem OwnSS.len (h : OwnSS lo hi w v xs) : ∃ ao cap, v = .slice ao xs.length cap := h.at.len
theorem OwnSS.nil (w : World) (lo hi : Nat) : OwnSS lo hi w nilS [] := ⟨[], World.ownsRow_nil _ _ _ _, rfl, fun k hk => by simp [Value.ownBlock] at hk, fun i hi h => by simp at h, fun i j hi hj => by simp at hi⟩
theorem OwnSS.far {B : Nat} (h : OwnSS lo hi w v xs) (hB : B < lo ∨ hi ≤ B) (i : Nat) (u : Value) : OwnSS lo hi (w.setCell ⟨B, i, none⟩ u) v xs := by
  have k : Within B (B + 1) w (w.setCell ⟨B, i, none⟩ u) := ⟨rfl, rfl, rfl, by simp [World.setCell], fun k _ hn => Below.heap_setCell w ⟨B, i, none⟩ u k (by show k ≠ B; omega)⟩
  exact h.within k (by omega)
end
theorem own_block_of {base size n : Nat} {e : TypeId} {w : World} {v : Value} {xs : List Value} (h : w.ownsRow base e size v n xs) : ∀ b, v.ownBlock = some b → ∃ cur fz, w.heap[b]? = some (.cells cur e fz) := by
  intro b hb
  rcases h.2 with ⟨rfl, _⟩ | ⟨g, cap, cur, rfl, _, hg, _⟩
  · simp [Value.ownBlock] at hb
  · simp [Value.ownBlock] at hb
    subst hb
    exact ⟨_, _, hg⟩
/-- A row of ints lies in no block of a row of another type. -/
theorem apart_types {b1 b2 s1 s2 n1 n2 : Nat} {e1 e2 : TypeId} {w : World} {a b : Value} {xs ys : List Value} (h : w.ownsRow b1 e1 s1 a n1 xs) (k : w.ownsRow b2 e2 s2 b n2 ys) (hne : e1 ≠ e2) : Apart a b := by
  cases hb : b.ownBlock with
  | none => exact Apart.symm (.inl hb)
  | some g =>
    obtain ⟨cur, fz, hg⟩ := own_block_of k g hb
    exact .inr (by rw [hb]; exact other_type h hg hne)
/-- All rows' lengths, and the rows themselves. -/
def totS (xs : List (List Int)) : Nat := (xs.map List.length).sum
theorem totS_cons (x : List Int) (xs : List (List Int)) : totS (x :: xs) = x.length + totS xs := by simp [totS]
theorem totS_get : ∀ (xs : List (List Int)) (i : Nat) (h : i < xs.length), (xs[i]).length ≤ totS xs
  | x :: xs, 0, h => by simp [totS]
  | x :: xs, i + 1, h => by have := totS_get xs i (by simpa using h); rw [totS_cons, List.getElem_cons_succ]; omega
theorem totS_take : ∀ (xs : List (List Int)) (i : Nat) (h : i < xs.length), totS (xs.take (i + 1)) = totS (xs.take i) + (xs[i]).length
  | x :: xs, 0, h => by simp [totS]
  | x :: xs, i + 1, h => by
    have := totS_take xs i (by simpa using h)
    rw [List.take_succ_cons, List.take_succ_cons, totS_cons, totS_cons, List.getElem_cons_succ, this]; omega
theorem totS_take_le (xs : List (List Int)) (i : Nat) : totS (xs.take i) ≤ totS xs := by
  unfold totS
  have h : (xs.take i ++ xs.drop i) = xs := List.take_append_drop i xs
  have : (xs.map List.length).sum = ((xs.take i).map List.length).sum + ((xs.drop i).map List.length).sum := by
    rw [← List.sum_append, ← List.map_append, h]
  omega
/-- What a loop that fills a row of int rows has done after k rounds. -/
def FillS (B : Nat) (w wr : World) (n k : Nat) (xs : List (List Int)) : Prop :=
  ∃ ps : List Value, ps.length = k ∧ wr.ownsRow B 24 1 (.slice (some ⟨B, 0, none⟩) n n) n (ps ++ List.replicate (n - k) nilS) ∧
    (∀ i (h : i < ps.length) (h2 : i < xs.length), Own (B + 1) wr ps[i] xs[i]) ∧ (∀ i j (hi : i < ps.length) (hj : j < ps.length), i ≠ j → Apart ps[i] ps[j]) ∧ Since w wr
theorem FillS.zero {w w1 : World} {n : Nat} {xs : List (List Int)} (hown : w1.ownsRow w.heap.size 24 1 (.slice (some ⟨w.heap.size, 0, none⟩) n n) n (madeCells (Value.slice none 0 0).cells (n * 1)).toList) (hs : Since w w1) : FillS w.heap.size w w1 n 0 xs := by
  refine ⟨[], rfl, ?_, fun i h => by simp at h, fun i j h => by simp at h, hs⟩
  rw [made_intss] at hown
  rw [Nat.sub_zero, List.nil_append]; exact hown
theorem FillS.cells {B : Nat} {w wr : World} {n k : Nat} {xs : List (List Int)} (h : FillS B w wr n k xs) (hk : k < n) : wr.cell? ⟨B, k, none⟩ = some nilS ∧ wr.frozen? ⟨B, k, none⟩ = false := by
  obtain ⟨ps, hl, hr, _, _, _⟩ := h
  refine ⟨?_, hr.frozenAt _⟩
  rw [hr.cellAt k (by omega), List.getElem?_append_right (by omega), List.getElem?_replicate, if_pos (by omega)]
theorem FillS.since {B : Nat} {w wr w2 : World} {n k : Nat} {xs : List (List Int)} (h : FillS B w wr n k xs) (hs : Since wr w2) : FillS B w w2 n k xs := by
  obtain ⟨ps, hl, hr, h4, h5, hsw⟩ := h
  exact ⟨ps, hl, row_since hr hs, fun i hi h => (h4 i hi h).since hs, h5, hsw.trans hs⟩
theorem FillS.step {B : Nat} {w wr w2 : World} {n k : Nat} {xs : List (List Int)} {p : Value} (h : FillS B w wr n k xs) (hB : w.heap.size ≤ B) (hB2 : B < wr.heap.size) (hk : k < n) (hkg : k < xs.length) (hs : Since wr w2) (ho : Own wr.heap.size w2 p xs[k]) :
    FillS B w (w2.setCell ⟨B, k, none⟩ p) n (k + 1) xs := by
  obtain ⟨ps, hl, hr, h4, h5, hsw⟩ := h
  have hst := (row_since hr hs).stored k p
  refine ⟨ps ++ [p], by simp [hl], ?_, fun i hi h2 => ?_, fun i j hi hj hne => ?_, (hsw.trans hs).setCell hB _⟩
  · have e : (ps ++ List.replicate (n - k) nilS).set k p = (ps ++ [p]) ++ List.replicate (n - (k + 1)) nilS := by
      rw [List.set_append, if_neg (by omega), hl, Nat.sub_self, show n - k = (n - (k + 1)) + 1 from by omega, List.replicate_succ, List.set_cons_zero, List.append_assoc]; rfl
    rw [← e]; exact hst.1
  · by_cases e : i < ps.length
    · rw [List.getElem_append_left e]
      exact ((h4 i e h2).since hs).far (p := ⟨B, k, none⟩) (Nat.lt_succ_self _) p
    · have e2 : i = k := by simp at hi; omega
      subst e2
      have : (ps ++ [p])[i] = p := by rw [List.getElem_append_right (by omega)]; simp
      rw [this]
      exact (ho.far (p := ⟨B, i, none⟩) hB2 p).mono hB2
  · have key : ∀ i (hi : i < ps.length) (h2 : i < xs.length), Apart ps[i] p := by
      intro i hi h2
      cases e : (ps[i]).ownBlock with
      | none => exact .inl e
      | some g =>
        right
        intro e2
        rw [e] at e2
        have l1 := (h4 i hi h2).2.lt g e
        have l2 := ho.2.lt g e2.symm
        omega
    by_cases e : i < ps.length
    · rw [List.getElem_append_left e]
      by_cases e' : j < ps.length
      · rw [List.getElem_append_left e']; exact h5 i j e e' hne
      · have : (ps ++ [p])[j] = p := by rw [List.getElem_append_right (by omega)]; simp
        rw [this]; exact key i e (by omega)
    · have hi2 : (ps ++ [p])[i] = p := by rw [List.getElem_append_right (by omega)]; simp
      by_cases e' : j < ps.length
      · rw [List.getElem_append_left e', hi2]; exact (key j e' (by omega)).symm
      · simp at hi hj; omega
theorem FillS.done {B : Nat} {w wr : World} {n : Nat} {xs : List (List Int)} (h : FillS B w wr n n xs) (hn : n = xs.length) (hB : w.heap.size ≤ B) : OwnSS w.heap.size wr.heap.size wr (.slice (some ⟨B, 0, none⟩) n n) xs := by
  obtain ⟨ps, hl, hr, h4, h5, hsw⟩ := h
  rw [Nat.sub_self] at hr
  simp only [List.replicate_zero, List.append_nil] at hr
  subst hn
  refine ⟨ps, row_mono hr hB, by omega, fun k hk => ?_, fun i hi h2 => ⟨(h4 i hi h2).mono (by omega), ?_⟩, h5⟩
  · have := hr.lt k hk; omega
  · intro k hk
    have := (h4 i hi h2).2.lt k hk; omega
def SSOut (w : World) (xs : List (List Int)) (e : Ending) (w' : World) : Prop := ∃ v, e = .returned v ∧ OwnSS w.heap.size w'.heap.size w' v xs ∧ Since w w'
set_option maxHeartbeats 1000000 in
set_option maxRecDepth 100000 in
theorem toIntSS_any (v : Value) (xs : List (List Int)) (w : World) (h : IssAt w v xs) (hl : xs.length ≤ 1048577) (hs : totS xs ≤ 1048577) :
    Calls Try.prog 117 #[v] w (SSOut w xs) := by
  obtain ⟨ao, cap0, rfl, HC⟩ := h
  obtain ⟨i0, hi, hz0, hz1, hz2⟩ := info_parts info_ints
  have HZ2 := Lib.hid hz2
  clear hz2
  obtain ⟨n, hn⟩ : ∃ n, n = xs.length := ⟨_, rfl⟩
  rw [← hn]
  have hn9 : n ≤ 1048577 := by omega
  have HN := Lib.hid hn
  have HS := Lib.hid hs
  clear hn hl hs
  go_enter Try.func117, Try.ntmps117
  go_wp2_with (at_make; go_must (refine wpList_make_full _ rfl _ _ 37 rfl w.heap.size 24 i0 (.slice none 0 0) 1 Try.underlying37 hi hz0 hz1 .i64 .i64 _ _ n rfl rfl rfl rfl (by rw [HZ2.out]; omega) (by unfold maxLen; omega) (Nat.le_refl _) ?_); intro w1 hown hgrow)
  have hsin : Since w w1 := (Since.refl w).grown hgrow (fun _ h => by simp at h)
  have hz : w.heap.size + 1 ≤ w1.heap.size := hown.lt w.heap.size rfl |>.2
  have hrow := Lib.hid (FillS.zero (xs := xs) hown hsin)
  clear hown hgrow hsin
  go_loopw [4] (fun i wr => ∃ k : Nat, k ≤ n ∧ i = .int .i64 k ∧ Hid (FillS w.heap.size w wr n k xs) ∧ w.heap.size < wr.heap.size) (fun i _ => n - (intOf i).toNat)
  case atStart => exact ⟨0, Nat.zero_le _, rfl, hrow.out, hz⟩
  case round =>
    obtain ⟨k, hk, rfl, HF, hwz⟩ := hrel
    have hsin : Since w wr := by obtain ⟨_, _, _, _, _, h⟩ := HF.out; exact h
    by_cases hlt : k < n
    · have hx : k < xs.length := by have := HN.out; omega
      obtain ⟨b, off, p, rfl, hb, c0, hg⟩ := HC.out k hx
      obtain ⟨vo, vc, rfl, _⟩ := hg.row
      have s1 := since_cells hsin hb
      rw [← s1] at c0
      clear s1
      have hg2 := Lib.hid (hg.since hsin)
      have hb1 : (xs[k]).length ≤ 1048577 := by have h1 := totS_get xs k hx; have := HS.out; omega
      clear hg
      go_wp2_with fail
      refine (toIntS_any _ xs[k] _ hg2.out hb1).mono ?_
      rintro e w2 ⟨v2, rfl, ho2, hs2⟩
      obtain ⟨xo, xc, rfl⟩ := ho2.len
      have HO2 := Lib.hid ho2
      have hz2 := hs2.size
      obtain ⟨d0, f0⟩ := (HF.out.since hs2).cells hlt
      have HST := Lib.hid (HF.out.step (Nat.le_refl _) hwz hlt hx hs2 HO2.out)
      clear ho2 c0
      go_wp2
      go_roundw
      case rel => exact ⟨k + 1, by omega, by go_num, HST.out, by simp; omega⟩
      case measure => simp [intOf]; omega
    · obtain rfl : k = n := by omega
      have HO := Lib.hid (HF.out.done HN.out (Nat.le_refl _))
      go_wp2
      go_ret
      exact ⟨_, rfl, HO.out, hsin⟩
/-- What the laws' size check leaves, -1 where it fails. -/
def szS (xs : List (List Int)) (left : Int) : Int := if left - (xs.length : Int) - (totS xs : Int) < 0 then -1 else left - (xs.length : Int) - (totS xs : Int)
set_option maxHeartbeats 1000000 in
set_option maxRecDepth 100000 in
theorem szIntSS_any (v : Value) (xs : List (List Int)) (left : Int) (w : World) (h : IssAt w v xs) (hl : xs.length ≤ maxLen) (hl2 : ∀ i (h : i < xs.length), (xs[i]).length ≤ maxLen) (h0 : 0 ≤ left) (h1 : left ≤ 1048576) :
    Calls Try.prog 115 #[v, .int .i64 left] w fun e w' => e = .returned (.int .i64 (szS xs left)) ∧ w = w' := by
  obtain ⟨ao, cap0, rfl, HC⟩ := h
  obtain ⟨n, hn⟩ : ∃ n, n = xs.length := ⟨_, rfl⟩
  rw [← hn]
  have hn9 : n ≤ maxLen := by omega
  unfold maxLen at hn9
  have HN := Lib.hid hn
  have HL := Lib.hid hl2
  clear hn hl hl2
  by_cases hb : left - (n : Int) < 0
  · have HE : Hid (szS xs left = -1) := by unfold Hid szS; rw [if_pos (by have := HN.out; omega)]
    go_enter Try.func115, Try.ntmps115
    go_wp2
    go_ret
    exact ⟨ret_int HE.out.symm, rfl⟩
  · go_enter Try.func115, Try.ntmps115
    go_wp2
    go_loop [1, 5] (fun q i => ∃ k : Nat, k ≤ n ∧ i = .int .i64 k ∧ ∃ r : Int, q = .int .i64 r ∧ 0 ≤ r ∧ r ≤ 1048576 ∧ Hid (r = left - (n : Int) - (totS (xs.take k) : Int))) (fun _ i => n - (intOf i).toNat)
    case atStart => exact ⟨0, Nat.zero_le _, rfl, left - (n : Int), by simp, by omega, by omega, by unfold Hid; simp [totS]⟩
    case round =>
      obtain ⟨k, hk, rfl, r, rfl, hr0, hr1, HR⟩ := hrel
      by_cases hlt : k < n
      · have hx : k < xs.length := by have := HN.out; omega
        obtain ⟨b, off, p, rfl, hbb, c0, hg⟩ := HC.out k hx
        obtain ⟨vo, vc, rfl, _⟩ := hg.row
        have HG := Lib.hid hg
        clear hg
        by_cases hd : r - ((xs[k]).length : Int) < 0
        · have HE : Hid (szLeft (xs[k]).length r = -1) := by unfold Hid szLeft; rw [if_pos hd]
          have HF : Hid (szS xs left = -1) := by
            unfold Hid szS
            have h3 := totS_take xs k hx
            have h4 := totS_take_le xs (k + 1)
            have h5 := HR.out
            have h6 := HN.out
            rw [if_pos (by omega)]
          clear hd
          go_wp2_with fail
          refine (szIntS_any _ xs[k] _ _ HG.out (HL.out k hx) hr0 hr1).mono ?_
          rintro e w1 ⟨rfl, rfl⟩
          rw [HE.out]
          go_wp2
          go_ret
          exact ⟨ret_int HF.out.symm, rfl⟩
        · have HE : Hid (szLeft (xs[k]).length r = r - ((xs[k]).length : Int)) := by unfold Hid szLeft; rw [if_neg hd]
          obtain ⟨r2, hr2⟩ : ∃ r2, r2 = r - ((xs[k]).length : Int) := ⟨_, rfl⟩
          rw [← hr2] at HE hd
          have hr3 : 0 ≤ r2 := by omega
          have hr4 : r2 ≤ 1048576 := by omega
          have HR2 : Hid (r2 = left - (n : Int) - (totS (xs.take (k + 1)) : Int)) := by
            unfold Hid
            have h3 := totS_take xs k hx
            have h5 := HR.out
            omega
          clear hd hr2
          go_wp2_with fail
          refine (szIntS_any _ xs[k] _ _ HG.out (HL.out k hx) hr0 hr1).mono ?_
          rintro e w1 ⟨rfl, rfl⟩
          rw [HE.out]
          go_wp2
          go_round
          case rel => exact ⟨k + 1, by omega, by go_num, r2, rfl, hr3, hr4, HR2⟩
          case measure => simp [intOf]; omega
      · obtain rfl : k = n := by omega
        have HF : Hid (szS xs left = r) := by
          have h5 := HR.out
          have h6 := HN.out
          rw [List.take_of_length_le (by omega)] at h5
          unfold Hid szS
          rw [if_neg (by omega)]; omega
        go_wp2
        go_ret
        exact ⟨ret_int HF.out.symm, rfl⟩
theorem take_eq_stepS {xs ys : List (List Int)} (k : Nat) (h1 : k < xs.length) (h2 : k < ys.length) (h : xs.take k = ys.take k) (he : xs[k] = ys[k]) : xs.take (k + 1) = ys.take (k + 1) := by
  rw [List.take_succ_eq_append_getElem h1, List.take_succ_eq_append_getElem h2, h, he]
set_option maxHeartbeats 1000000 in
set_option maxRecDepth 100000 in
theorem eqIntSS_any (a b : Value) (xs ys : List (List Int)) (w : World) (ha : IssAt w a xs) (hb : IssAt w b ys) (hl : xs.length ≤ 4611686018427387904) (hl2 : ys.length ≤ 4611686018427387904)
    (hx : ∀ i (h : i < xs.length), (xs[i]).length ≤ 4611686018427387904) (hy : ∀ i (h : i < ys.length), (ys[i]).length ≤ 4611686018427387904) :
    Calls Try.prog 119 #[a, b] w fun e w' => e = .returned (.bool (decide (xs = ys))) ∧ Since w w' := by
  obtain ⟨ao1, cap1, rfl, HC1⟩ := ha
  obtain ⟨ao2, cap2, rfl, HC2⟩ := hb
  have HX := Lib.hid hx
  have HY := Lib.hid hy
  clear hx hy
  by_cases hlen : xs.length = ys.length
  · rw [← hlen]
    obtain ⟨n, hn⟩ : ∃ n, n = xs.length := ⟨_, rfl⟩
    rw [← hn]
    have hn9 : n ≤ 4611686018427387904 := by omega
    have HN := Lib.hid hn
    have HN2 : Hid (n = ys.length) := by rw [hn]; exact hlen
    have HNE : (((n : Nat) : Int) != ((n : Nat) : Int)) = false := by simp
    clear hn hlen hl hl2
    go_enter Try.func119, Try.ntmps119
    go_wp2
    go_loopw [5] (fun i wr => ∃ k : Nat, k ≤ n ∧ i = .int .i64 k ∧ Hid (xs.take k = ys.take k) ∧ Since w wr) (fun i _ => n - (intOf i).toNat)
    case atStart => exact ⟨0, Nat.zero_le _, rfl, rfl, Since.refl w⟩
    case round =>
      obtain ⟨k, hk, rfl, HT, hsin⟩ := hrel
      by_cases hlt : k < n
      · have hx : k < xs.length := by have := HN.out; omega
        have hy : k < ys.length := by have := HN2.out; omega
        obtain ⟨b1, off1, p1, rfl, hb1, c1, g1⟩ := HC1.out k hx
        obtain ⟨b2, off2, p2, rfl, hb2, c2, g2⟩ := HC2.out k hy
        obtain ⟨vo1, vc1, rfl, _⟩ := g1.row
        obtain ⟨vo2, vc2, rfl, _⟩ := g2.row
        have h1 := (Below.cell hsin (p := ⟨b1, off1 + k, none⟩) hb1).trans c1
        have h2 := (Below.cell hsin (p := ⟨b2, off2 + k, none⟩) hb2).trans c2
        have G1 := Lib.hid (g1.since hsin)
        have G2 := Lib.hid (g2.since hsin)
        clear c1 c2 g1 g2
        have hki : (k : Int) < (n : Int) := by omega
        have hk0 : (0 : Int) ≤ (k : Int) := by omega
        go_wp2
        by_cases he : xs[k] = ys[k]
        · have HE : Hid (xs.take (k + 1) = ys.take (k + 1)) := take_eq_stepS k hx hy HT.out he
          have HD : Hid (decide (xs[k] = ys[k]) = true) := decide_eq_true he
          clear he
          go_still_tail 8, (by kernel_rfl)
          go_wp2_with fail
          refine (eqIntS_any _ _ xs[k] ys[k] _ (G1.out.since (Since.refl _).drew) (G2.out.since (Since.refl _).drew) (HX.out k hx) (HY.out k hy)).mono ?_
          rintro e w1 ⟨rfl, hs1⟩
          rw [HD.out]
          have hs := hsin.trans (Since.of_drew hs1)
          go_wp2
          go_roundw
          case rel => exact ⟨k + 1, by omega, by go_num, HE, hs⟩
          case measure => simp [intOf]; omega
        · have HE : Hid (decide (xs = ys) = false) := by
            unfold Hid
            refine decide_eq_false ?_
            intro e; subst e; exact he rfl
          have HD : Hid (decide (xs[k] = ys[k]) = false) := decide_eq_false he
          clear he
          go_still_tail 8, (by kernel_rfl)
          go_wp2_with fail
          refine (eqIntS_any _ _ xs[k] ys[k] _ (G1.out.since (Since.refl _).drew) (G2.out.since (Since.refl _).drew) (HX.out k hx) (HY.out k hy)).mono ?_
          rintro e w1 ⟨rfl, hs1⟩
          rw [HD.out]
          have hs := hsin.trans (Since.of_drew hs1)
          go_wp2
          go_ret
          exact ⟨ret_bool HE.out.symm, hs⟩
      · obtain rfl : k = n := by omega
        have HE : Hid (decide (xs = ys) = true) := by
          have := HT.out
          rw [List.take_of_length_le (by have := HN.out; omega), List.take_of_length_le (by have := HN2.out; omega)] at this
          unfold Hid; simpa using this
        go_wp2
        go_ret
        exact ⟨ret_bool HE.out.symm, hsin⟩
  · have HE : Hid (decide (xs = ys) = false) := by unfold Hid; simp; intro e; rw [e] at hlen; exact hlen rfl
    have hne : ((xs.length : Int) != (ys.length : Int)) = true := by simp; omega
    obtain ⟨n, hn⟩ : ∃ n, n = xs.length := ⟨_, rfl⟩
    obtain ⟨m, hm⟩ : ∃ m, m = ys.length := ⟨_, rfl⟩
    clear HC1 HC2
    rw [← hn, ← hm] at hne ⊢
    have hn9 : n ≤ 4611686018427387904 := by omega
    have hm9 : m ≤ 4611686018427387904 := by omega
    clear hn hm hlen hl hl2
    go_enter Try.func119, Try.ntmps119
    go_wp2
    go_ret
    exact ⟨ret_bool HE.out.symm, Since.refl _⟩
/-- What markIntSS writes. -/
def cntSS (k : Int) (xs : List (List Int)) : List (List Int) := (List.range xs.length).map fun (i : Nat) => count (k + (totS (xs.take i) : Int)) (xs[i]?.getD []).length
theorem cntSS_length (k : Int) (xs : List (List Int)) : (cntSS k xs).length = xs.length := by simp [cntSS]
theorem cntSS_at (k : Int) (xs : List (List Int)) (i : Nat) (h : i < xs.length) : (cntSS k xs)[i]'(by rw [cntSS_length]; exact h) = count (k + (totS (xs.take i) : Int)) (xs[i]).length := by simp [cntSS, h]
/-- Blocks of other types than ints are as they were. -/
def KeepI (w w' : World) : Prop := ∀ (g : Nat) (cs : Array Value) (t : TypeId) (fz : Nat × Nat), t ≠ 3 → w.heap[g]? = some (Obj.cells cs t fz) → w'.heap[g]? = some (Obj.cells cs t fz)
theorem KeepI.refl (w : World) : KeepI w w := fun _ _ _ _ _ h => h
theorem KeepI.trans {a b c : World} (h : KeepI a b) (k : KeepI b c) : KeepI a c := fun g cs t fz hn hq => k g cs t fz hn (h g cs t fz hn hq)
theorem KeepI.of_grown {base size n : Nat} {w w' : World} {v : Value} {xs : List Value} (h : w.ownsRow base 3 size v n xs) (k : w.grownBy w' v.ownBlock) : KeepI w w' := by
  intro g cs t fz hn hq
  refine (k.block g (heap_lt hq) ?_).trans hq
  intro e
  obtain ⟨cur, fz2, h2⟩ := own_block_of h g e.symm
  rw [h2] at hq
  injection hq with hq
  injection hq with _ hq
  exact hn hq.symm
theorem KeepI.row {base size n : Nat} {e : TypeId} {w w' : World} {v : Value} {xs : List Value} (k : KeepI w w') (he : e ≠ 3) (h : w.ownsRow base e size v n xs) : w'.ownsRow base e size v n xs := by
  refine ⟨h.1, ?_⟩
  rcases h.2 with h3 | ⟨g, cap, cur, hv, hg, hb, hr⟩
  · exact .inl h3
  · exact .inr ⟨g, cap, cur, hv, hg, k g _ _ _ he hb, hr⟩
/-- A slice of int slices whose rows are marked up to j. -/
def MkS (lo hi : Nat) (w : World) (v : Value) (k : Int) (xs : List (List Int)) (j : Nat) (ps : List Value) : Prop :=
  w.ownsRow lo 24 1 v xs.length ps ∧ ps.length = xs.length ∧ InR lo hi v ∧
    (∀ i (h : i < ps.length) (h2 : i < xs.length), Own lo w ps[i] (if i < j then count (k + (totS (xs.take i) : Int)) (xs[i]).length else xs[i]) ∧ InR lo hi ps[i]) ∧ ∀ i j (hi : i < ps.length) (hj : j < ps.length), i ≠ j → Apart ps[i] ps[j]
theorem MkS.step {lo hi : Nat} {w w' : World} {v : Value} {k : Int} {xs : List (List Int)} {j : Nat} {ps : List Value} (h : MkS lo hi w v k xs j ps) (hj : j < xs.length) (hp : j < ps.length)
    (ho : Own lo w' ps[j] (count (k + (totS (xs.take j) : Int)) (xs[j]).length)) (hg : w.grownBy w' (ps[j]).ownBlock) : MkS lo hi w' v k xs (j + 1) ps := by
  obtain ⟨h1, h2, h3, h4, h5⟩ := h
  refine ⟨h1.kept hg (apart_types h1 (h4 j hp hj).1.2 (by decide)), h2, h3, fun i hi hx => ⟨?_, (h4 i hi hx).2⟩, h5⟩
  by_cases e : i = j
  · subst e
    rw [if_pos (Nat.lt_succ_self _)]; exact ho
  · have h6 := (h4 i hi hx).1
    have h7 : Own lo w' ps[i] (if i < j then count (k + (totS (xs.take i) : Int)) (xs[i]).length else xs[i]) := ⟨h6.1, h6.2.kept hg (h5 i j hi hp e)⟩
    by_cases e2 : i < j
    · rw [if_pos (by omega)]; rw [if_pos e2] at h7; exact h7
    · rw [if_neg (by omega)]; rw [if_neg e2] at h7; exact h7
def MarkSSOut (lo hi : Nat) (w : World) (v : Value) (k : Int) (xs : List (List Int)) (e : Ending) (w' : World) : Prop :=
  e = .returned (.int .i64 (k + totS xs)) ∧ OwnSS lo hi w' v (cntSS k xs) ∧ Within lo hi w w' ∧ KeepI w w'
theorem MkS.done {lo hi : Nat} {w : World} {v : Value} {k : Int} {xs : List (List Int)} {ps : List Value} (h : MkS lo hi w v k xs xs.length ps) : OwnSS lo hi w v (cntSS k xs) := by
  obtain ⟨h1, h2, h3, h4, h5⟩ := h
  refine ⟨ps, by rw [cntSS_length]; exact h1, by rw [cntSS_length]; exact h2, h3, fun i hi hx => ?_, h5⟩
  have hx2 : i < xs.length := by rw [cntSS_length] at hx; exact hx
  rw [cntSS_at k xs i hx2]
  have := h4 i hi hx2
  rw [if_pos hx2] at this
  exact this
set_option maxHeartbeats 1000000 in
set_option maxRecDepth 100000 in
theorem markIntSS_any (lo hi : Nat) (v : Value) (xs : List (List Int)) (k : Int) (w : World) (h : OwnSS lo hi w v xs) (hk0 : 0 ≤ k) (hk9 : k ≤ 100000000) (hl : xs.length ≤ 2097154) (hs : totS xs ≤ 2097154) :
    Calls Try.prog 121 #[v, .int .i64 k] w (MarkSSOut lo hi w v k xs) := by
  obtain ⟨ps, hr, hpl, hin, h4, h5⟩ := h
  have HM0 : Hid (MkS lo hi w v k xs 0 ps) := ⟨hr, hpl, hin, fun i hi hx => by rw [if_neg (by omega)]; exact h4 i hi hx, h5⟩
  have hcase : v = .slice none 0 0 ∧ xs.length = 0 ∨ ∃ g cap, v = .slice (some ⟨g, 0, none⟩) xs.length cap ∧ lo ≤ g := by
    rcases hr.2 with ⟨a, b⟩ | ⟨g, cap, cur, a, b, _⟩
    · exact .inl ⟨a, b⟩
    · exact .inr ⟨g, cap, a, b⟩
  have HT : Hid (∀ j, totS (xs.take j) ≤ 2097154) := fun j => Nat.le_trans (totS_take_le xs j) hs
  have HB : Hid (∀ j (h : j < xs.length), (xs[j]).length ≤ 2097154) := fun j h => Nat.le_trans (totS_get xs j h) hs
  clear hr hin h4 h5 hpl
  obtain ⟨n, hn⟩ : ∃ n, n = xs.length := ⟨_, rfl⟩
  rw [← hn] at hcase
  have hn9 : n ≤ 2097154 := by omega
  have HN := Lib.hid hn
  clear hl hn hs
  rcases hcase with ⟨rfl, hn0⟩ | ⟨G, cap, rfl, hg⟩
  · subst hn0
    have HR : Hid (OwnSS lo hi w (.slice none 0 0) (cntSS k xs) ∧ k + (totS xs : Int) = k) := by
      have h0 : xs = [] := List.eq_nil_of_length_eq_zero HN.out.symm
      subst h0
      exact ⟨OwnSS.nil _ _ _, by simp [totS]⟩
    go_enter Try.func121, Try.ntmps121
    go_wp2
    go_loopw [1, 5] (fun q i wr => q = .int .i64 k ∧ i = .int .i64 0 ∧ wr = w) (fun _ _ _ => 0)
    case atStart => exact ⟨rfl, rfl, rfl⟩
    case round =>
      obtain ⟨rfl, rfl, rfl⟩ := hrel
      go_wp2
      go_ret
      exact ⟨ret_int HR.out.2.symm, HR.out.1, Within.refl _ _ _, KeepI.refl _⟩
  · go_enter Try.func121, Try.ntmps121
    go_wp2
    go_loopw [1, 5] (fun q i wr => ∃ (j : Nat) (z : Int), j ≤ n ∧ i = .int .i64 j ∧ q = .int .i64 z ∧ Hid (z = k + (totS (xs.take j) : Int)) ∧ 0 ≤ z ∧ z ≤ 200000000 ∧ Hid (MkS lo hi wr (.slice (some ⟨G, 0, none⟩) n cap) k xs j ps) ∧ Within lo hi w wr ∧ Hid (KeepI w wr)) (fun _ i _ => n - (intOf i).toNat)
    case atStart => exact ⟨0, k, Nat.zero_le _, rfl, rfl, by unfold Hid; simp [totS], hk0, by omega, HM0.out, Within.refl _ _ _, KeepI.refl _⟩
    case round =>
      obtain ⟨j, z, hj, rfl, rfl, HZ, hz0, hz9, HM, hw, HK⟩ := hrel
      by_cases hlt : j < n
      · have hx : j < xs.length := by have := HN.out; omega
        have hpj : j < ps.length := by have := HM.out.2.1; omega
        obtain ⟨p, hp⟩ : ∃ p, p = ps[j] := ⟨_, rfl⟩
        have d0 : wr.cell? ⟨G, j, none⟩ = some p := by
          have h1 : wr.ownsRow lo 24 1 (.slice (some ⟨G, 0, none⟩) n cap) xs.length ps := HM.out.1
          rw [← HN.out] at h1
          have := h1.cellAt j (by omega)
          rw [this, hp]; simp [hpj]
        have ho := (HM.out.2.2.2.1 j hpj hx).1
        have hri := (HM.out.2.2.2.1 j hpj hx).2
        rw [if_neg (by omega), ← hp] at ho
        rw [← hp] at hri
        have HO := Lib.hid ho
        have HRI := Lib.hid hri
        have HP := Lib.hid hp
        obtain ⟨ao, ac, rfl⟩ := ho.len
        have hm := HB.out j hx
        have ht := HT.out (j + 1)
        have htk : totS (xs.take (j + 1)) = totS (xs.take j) + (xs[j]).length := totS_take xs j hx
        have HTK := Lib.hid htk
        have hz8 : z + ((xs[j]).length : Int) ≤ 200000000 := by have := HZ.out; omega
        clear ho hri hp htk ht
        go_wp2_with fail
        refine (markIntS_any lo _ xs[j] z _ HO.out hz0 (by omega) (by omega)).mono ?_
        rintro en w1 ⟨rfl, ho1, hg1⟩
        have HM2 : Hid (MkS lo hi w1 (.slice (some ⟨G, 0, none⟩) n cap) k xs (j + 1) ps) := by
          refine HM.out.step hx hpj ?_ ?_
          · rw [← HP.out, ← HZ.out]; exact ho1
          · rw [← HP.out]; exact hg1
        have hw2 : Within lo hi w w1 := hw.trans (Within.of_grown hg1 HRI.out)
        have HK2 : Hid (KeepI w w1) := HK.out.trans (KeepI.of_grown HO.out.2 hg1)
        have HZ2 : Hid (z + ((xs[j]).length : Int) = k + (totS (xs.take (j + 1)) : Int)) := by
          unfold Hid; have := HZ.out; have := HTK.out; omega
        obtain ⟨z2, hz2⟩ : ∃ z2, z2 = z + ((xs[j]).length : Int) := ⟨_, rfl⟩
        rw [← hz2] at HZ2 hz8 ⊢
        have hz7 : 0 ≤ z2 := by omega
        clear hz2 ho1 hg1
        go_wp2
        go_roundw
        case rel => exact ⟨j + 1, z2, by omega, by go_num, rfl, HZ2, hz7, hz8, HM2.out, hw2, HK2.out⟩
        case measure => simp [intOf]; omega
      · obtain rfl : j = n := by omega
        have HF : Hid (OwnSS lo hi wr (.slice (some ⟨G, 0, none⟩) j cap) (cntSS k xs)) := by
          have h6 := HM.out
          have e : MkS lo hi wr (.slice (some ⟨G, 0, none⟩) j cap) k xs xs.length ps := by rw [← HN.out]; exact h6
          exact e.done
        have HZ2 : Hid (z = k + (totS xs : Int)) := by
          have := HZ.out
          rw [List.take_of_length_le (by have := HN.out; omega)] at this
          exact this
        go_wp2
        go_ret
        exact ⟨ret_int HZ2.out, HF.out, hw, HK.out⟩
set_option maxHeartbeats 1000000 in
set_option maxRecDepth 100000 in
theorem heldIntSS_any (v : Value) (xs : List (List Int)) (k : Int) (w : World) (h : IssAt w v (cntSS k xs)) (hk0 : 0 ≤ k) (hk9 : k ≤ 100000000) (hl : xs.length ≤ 2097154) (hs : totS xs ≤ 2097154) :
    Calls Try.prog 127 #[v, .int .i64 k] w fun e w' => e = .returned (.int .i64 (k + totS xs)) ∧ w = w' := by
  obtain ⟨ao, cap, rfl, HC⟩ := h
  rw [cntSS_length]
  have HT : Hid (∀ j, totS (xs.take j) ≤ 2097154) := fun j => Nat.le_trans (totS_take_le xs j) hs
  have HB : Hid (∀ j (h : j < xs.length), (xs[j]).length ≤ 2097154) := fun j h => Nat.le_trans (totS_get xs j h) hs
  have HC2 : Hid (∀ i (h : i < xs.length), ∃ b off p, ao = some ⟨b, off, none⟩ ∧ w.cell? ⟨b, off + i, none⟩ = some p ∧ IntsAt w p (count (k + (totS (xs.take i) : Int)) (xs[i]).length)) := by
    intro i hi
    obtain ⟨b, off, p, e, _, c0, c1⟩ := HC.out i (by rw [cntSS_length]; exact hi)
    rw [cntSS_at k xs i hi] at c1
    exact ⟨b, off, p, e, c0, c1⟩
  clear HC
  obtain ⟨n, hn⟩ : ∃ n, n = xs.length := ⟨_, rfl⟩
  rw [← hn]
  have hn9 : n ≤ 2097154 := by omega
  have HN := Lib.hid hn
  clear hl hn hs
  go_enter Try.func127, Try.ntmps127
  go_wp2
  go_loop [1, 5] (fun q i => ∃ (j : Nat) (z : Int), j ≤ n ∧ i = .int .i64 j ∧ q = .int .i64 z ∧ Hid (z = k + (totS (xs.take j) : Int)) ∧ 0 ≤ z ∧ z ≤ 200000000) (fun _ i => n - (intOf i).toNat)
  case atStart => exact ⟨0, k, Nat.zero_le _, rfl, rfl, by unfold Hid; simp [totS], hk0, by omega⟩
  case round =>
    obtain ⟨j, z, hj, rfl, rfl, HZ, hz0, hz9⟩ := hrel
    by_cases hlt : j < n
    · have hx : j < xs.length := by have := HN.out; omega
      obtain ⟨b, off, p, rfl, c0, c1⟩ := HC2.out j hx
      have hm := HB.out j hx
      have ht := HT.out (j + 1)
      have htk : totS (xs.take (j + 1)) = totS (xs.take j) + (xs[j]).length := totS_take xs j hx
      have HTK := Lib.hid htk
      have hz8 : z + ((xs[j]).length : Int) ≤ 200000000 := by have := HZ.out; omega
      rw [← HZ.out] at c1
      have H1 := Lib.hid c1
      obtain ⟨vo, vc, rfl, _⟩ := c1.row
      clear c1 htk ht
      obtain ⟨z2, hz2⟩ : ∃ z2, z2 = z + ((xs[j]).length : Int) := ⟨_, rfl⟩
      have HZ3 := Lib.hid hz2
      have HZ2 : Hid (z2 = k + (totS (xs.take (j + 1)) : Int)) := by
        unfold Hid; have := HZ.out; have := HTK.out; omega
      have hz7 : 0 ≤ z2 := by omega
      rw [← hz2] at hz8
      have hneg : decide (z2 < 0) = false := decide_eq_false (by omega)
      clear hz2
      go_wp2_with fail
      refine (heldIntS_any _ z (xs[j]).length _ H1.out hz0 (by omega) (by omega)).mono ?_
      rintro en w1 ⟨rfl, rfl⟩
      rw [← HZ3.out]
      go_wp2
      go_round
      case rel => exact ⟨j + 1, z2, by omega, by go_num, rfl, HZ2, hz7, hz8⟩
      case measure => simp [intOf]; omega
    · obtain rfl : j = n := by omega
      have HZ2 : Hid (z = k + (totS xs : Int)) := by
        have := HZ.out
        rw [List.take_of_length_le (by have := HN.out; omega)] at this
        exact this
      go_wp2
      go_ret
      exact ⟨ret_int HZ2.out, rfl⟩
end Go.Proofs.Ytmaagihfjldgeaa

/- Automata as plain data and in memory; the laws' sizes, copies, comparisons, marks and checks of them. -/
namespace Go.Proofs.Ytmaagihfjldgeaa
set_option maxRecDepth 100000
open Go.ChangeShapes Go.WideShapes Go.ChangeAt Go.RowKit Go.Joins Go.Deep
set_option linter.unusedVariables false
set_option linter.unusedSimpArgs false

structure Aut where
  st : Int
  ac : List Bool
  nx : List (List Int)
theorem Aut.eq_iff (a b : Aut) : a = b ↔ a.st = b.st ∧ a.ac = b.ac ∧ a.nx = b.nx := by
  cases a; cases b; simp
instance : DecidableEq Aut := fun a b => decidable_of_iff _ (Aut.eq_iff a b).symm
/-- v reads as A. -/
def AutAt (w : World) (v : Value) (A : Aut) : Prop := ∃ a b, v = .agg #[.int .i64 A.st, a, b] ∧ InI A.st ∧ BosAt w a A.ac ∧ IssAt w b A.nx
theorem AutAt.since {w w' : World} {v : Value} {A : Aut} (h : AutAt w v A) (k : Since w w') : AutAt w' v A := by
  obtain ⟨a, b, e, h0, h1, h2⟩ := h; exact ⟨a, b, e, h0, h1.since k, h2.since k⟩
/-- .. of the call's own memory, in blocks from lo on and below hi. -/
def OwnA (lo hi : Nat) (w : World) (v : Value) (A : Aut) : Prop := ∃ a b, v = .agg #[.int .i64 A.st, a, b] ∧ InI A.st ∧ OwnBo lo w a A.ac ∧ InR lo hi a ∧ OwnSS lo hi w b A.nx
section
variable {lo hi : Nat} {w w' : World} {v : Value} {A : Aut}
theorem OwnA.at (h : OwnA lo hi w v A) : AutAt w v A := by
  obtain ⟨a, b, e, h0, h1, _, h2⟩ := h; exact ⟨a, b, e, h0, h1.at, h2.at⟩
theorem OwnA.since (h : OwnA lo hi w v A) (k : Since w w') : OwnA lo hi w' v A := by
  obtain ⟨a, b, e, h0, h1, r, h2⟩ := h; exact ⟨a, b, e, h0, h1.since k, r, h2.since k⟩
theorem OwnA.within {a b : Nat} (h : OwnA a b w v A) (k : Within lo hi w w') (hd : b ≤ lo ∨ hi ≤ a) : OwnA a b w' v A := by
  obtain ⟨x, y, e, h0, h1, r, h2⟩ := h; exact ⟨x, y, e, h0, h1.within r k hd, r, h2.within k hd⟩
theorem OwnA.wider {a b : Nat} (h : OwnA lo hi w v A) (ha : a ≤ lo) (hb : hi ≤ b) : OwnA a b w v A := by
  obtain ⟨x, y, e, h0, h1, r, h2⟩ := h; exact ⟨x, y, e, h0, h1.mono ha, r.mono ha hb, h2.wider ha hb⟩
end
def AOut (w : World) (A : Aut) (e : Ending) (w' : World) : Prop := ∃ v, e = .returned v ∧ OwnA w.heap.size w'.heap.size w' v A ∧ Since w w'
/-- .. with a truth value. -/
def ABOut (w : World) (A : Aut) (c : Bool) (e : Ending) (w' : World) : Prop := ∃ v, e = .returned (.tuple #[v, .bool c]) ∧ OwnA w.heap.size w'.heap.size w' v A ∧ Since w w'
def SmA (A : Aut) : Prop := A.ac.length ≤ 1048577 ∧ A.nx.length ≤ 1048577 ∧ totS A.nx ≤ 1048577
def BgA (A : Aut) : Prop := A.ac.length ≤ 2097154 ∧ A.nx.length ≤ 2097154 ∧ totS A.nx ≤ 2097154
theorem SmA.bg {A : Aut} (h : SmA A) : BgA A := by unfold SmA at h; unfold BgA; omega
/-- What an argument is bounded by. -/
def MxA (A : Aut) : Prop := A.ac.length ≤ maxLen ∧ A.nx.length ≤ maxLen ∧ ∀ i (h : i < A.nx.length), (A.nx[i]).length ≤ maxLen
theorem Blk.threeA {w : World} {g : Nat} {t : TypeId} {a b c : Value} (h : Blk w g t #[a, b, c]) :
    (w.cell? ⟨g, 0, none⟩ = some a ∧ w.cell? ⟨g, 1, none⟩ = some b ∧ w.cell? ⟨g, 2, none⟩ = some c) ∧ (w.frozen? ⟨g, 0, none⟩ = false ∧ w.frozen? ⟨g, 1, none⟩ = false ∧ w.frozen? ⟨g, 2, none⟩ = false) :=
  ⟨⟨h.cell 0, h.cell 1, h.cell 2⟩, h.frozen 0, h.frozen 1, h.frozen 2⟩
/-- Whether an automaton is within the laws' size. -/
def szA (A : Aut) (left : Int) : Int := if left - (A.ac.length : Int) < 0 then -1 else szS A.nx (left - (A.ac.length : Int))
theorem szA_small {A : Aut} (h : ¬ szA A 1048576 < 0) : SmA A := by
  unfold szA szS at h
  unfold SmA
  split at h
  · omega
  · split at h <;> omega
set_option maxRecDepth 100000 in
theorem szAutomaton_any (v : Value) (A : Aut) (left : Int) (w : World) (h : AutAt w v A) (hm : MxA A) (h0 : 0 ≤ left) (h1 : left ≤ 1048576) :
    Calls Try.prog 54 #[v, .int .i64 left] w fun e w' => e = .returned (.int .i64 (szA A left)) ∧ Since w w' := by
  obtain ⟨a, b, rfl, _, ha, hb⟩ := h
  have HA := Lib.hid ha
  have HB := Lib.hid hb
  clear ha hb
  have HM := Lib.hid hm
  clear hm
  obtain ⟨ao, ca, rfl⟩ := HA.out.len
  obtain ⟨bo, cb, rfl⟩ := HB.out.len
  have hs0 : Since w (w.alloc (.cells #[.int .i64 A.st, .slice ao A.ac.length ca, .slice bo A.nx.length cb] 58)) := (Since.refl w).alloc _
  by_cases hc : left - (A.ac.length : Int) < 0
  · have HE : Hid (szLeft A.ac.length left = -1) := by unfold Hid szLeft; rw [if_pos hc]
    have HG : Hid (szA A left = -1) := by unfold Hid szA; rw [if_pos hc]
    clear hc
    go_enter Try.func54, Try.ntmps54
    go_wp2_with fail
    refine (szBoolS_any _ A.ac _ _ (HA.out.since hs0) HM.out.1 h0 h1).mono ?_
    rintro e w1 ⟨rfl, rfl⟩
    rw [HE.out]
    go_wp2
    go_ret
    exact ⟨ret_int HG.out.symm, hs0⟩
  · have HE : Hid (szLeft A.ac.length left = left - (A.ac.length : Int)) := by unfold Hid szLeft; rw [if_neg hc]
    have HG : Hid (szA A left = szS A.nx (left - (A.ac.length : Int))) := by unfold Hid szA; rw [if_neg hc]
    obtain ⟨r, hr⟩ : ∃ r, r = left - (A.ac.length : Int) := ⟨_, rfl⟩
    rw [← hr] at HE HG hc
    have hr0 : 0 ≤ r := by omega
    have hr1 : r ≤ 1048576 := by omega
    clear hc hr
    obtain ⟨q, hq⟩ : ∃ q, q = szS A.nx r := ⟨_, rfl⟩
    have HQ := Lib.hid hq
    rw [← hq] at HG
    have hq2 : q = -1 ∨ 0 ≤ q := by rw [hq]; unfold szS; split <;> omega
    clear hq
    rcases hq2 with rfl | hq0
    · go_enter Try.func54, Try.ntmps54
      go_wp2_with fail
      refine (szBoolS_any _ A.ac _ _ (HA.out.since hs0) HM.out.1 h0 h1).mono ?_
      rintro e w1 ⟨rfl, rfl⟩
      rw [HE.out]
      go_wp2_with fail
      refine (szIntSS_any _ A.nx _ _ (HB.out.since hs0) HM.out.2.1 HM.out.2.2 hr0 hr1).mono ?_
      rintro e w1 ⟨rfl, rfl⟩
      rw [← HQ.out]
      go_wp2
      go_ret
      exact ⟨ret_int HG.out.symm, hs0⟩
    · go_enter Try.func54, Try.ntmps54
      go_wp2_with fail
      refine (szBoolS_any _ A.ac _ _ (HA.out.since hs0) HM.out.1 h0 h1).mono ?_
      rintro e w1 ⟨rfl, rfl⟩
      rw [HE.out]
      go_wp2_with fail
      refine (szIntSS_any _ A.nx _ _ (HB.out.since hs0) HM.out.2.1 HM.out.2.2 hr0 hr1).mono ?_
      rintro e w1 ⟨rfl, rfl⟩
      rw [← HQ.out]
      go_wp2
      go_ret
      exact ⟨ret_int HG.out.symm, hs0⟩
set_option maxHeartbeats 1000000 in
set_option maxRecDepth 100000 in
theorem toAutomaton_any (v : Value) (A : Aut) (w : World) (h : AutAt w v A) (hm : SmA A) :
    Calls Try.prog 55 #[v] w (AOut w A) := by
  obtain ⟨a, b, rfl, hi, ha, hb⟩ := h
  have HA := Lib.hid ha
  have HB := Lib.hid hb
  have HM := Lib.hid hm
  clear ha hb hm
  obtain ⟨ao, ca, rfl⟩ := HA.out.len
  obtain ⟨bo, cb, rfl⟩ := HB.out.len
  obtain ⟨y, hy⟩ : ∃ y, y = (((w.alloc (.cells #[.int .i64 A.st, .slice ao A.ac.length ca, .slice bo A.nx.length cb] 58)).alloc (.cells #[.int .i64 0, .slice none 0 0, .slice none 0 0] 39)).alloc (.cells #[.int .i64 A.st, .slice none 0 0, .slice none 0 0] 39)) := ⟨_, rfl⟩
  have hs0 : Since w y := by rw [hy]; exact (((Since.refl w).alloc _).alloc _).alloc _
  have hsz : y.heap.size = w.heap.size + 3 := by rw [hy]; simp
  have B0 : Hid (Blk y w.heap.size 58 #[.int .i64 A.st, .slice ao A.ac.length ca, .slice bo A.nx.length cb]) := by rw [hy]; exact ((Blk.new rfl _ _).alloc _).alloc _
  have B1 : Hid (Blk y (w.heap.size + 1) 39 #[.int .i64 0, .slice none 0 0, .slice none 0 0]) := by rw [hy]; exact (Blk.new (by simp) _ _).alloc _
  have B2 : Hid (Blk y (w.heap.size + 1 + 1) 39 #[.int .i64 A.st, .slice none 0 0, .slice none 0 0]) := by rw [hy]; exact Blk.new (by simp) _ _
  have HY := Lib.hid hy
  clear hy
  go_enter Try.func55, Try.ntmps55
  go_wp2_with fail
  rw [← HY.out]
  refine (toBoolS_any _ A.ac _ (HA.out.since hs0) HM.out.1).mono ?_
  rintro e w1 ⟨v1, rfl, ho1, hs1⟩
  obtain ⟨ao1, cap1, rfl⟩ := ho1.len
  have HO1 := Lib.hid ho1
  clear ho1
  have hs01 := hs0.trans hs1
  have hw1 : w.heap.size + 3 ≤ w1.heap.size := by have := hs1.size; omega
  have b0 := Lib.hid (B0.out.since hs1)
  have b1 := Lib.hid (B1.out.since hs1)
  have b2 := Lib.hid (B2.out.since hs1)
  clear B0 B1 B2
  obtain ⟨⟨p0, p1, p2⟩, _⟩ := b0.out.threeA
  obtain ⟨_, s0, s1, s2⟩ := b2.out.threeA
  go_wp2_with fail
  clear p0 p1 p2 s0 s1 s2
  obtain ⟨w2, hw2⟩ : ∃ w2, w2 = w1.setCell ⟨w.heap.size + 1 + 1, 1, none⟩ (.slice ao1 A.ac.length cap1) := ⟨_, rfl⟩
  rw [← hw2]
  have hs02 : Since w w2 := by rw [hw2]; exact hs01.setCell (by simp; omega) _
  have hsz2 : w2.heap.size = w1.heap.size := by rw [hw2]; simp
  have HO2 : Hid (OwnBo y.heap.size w2 (.slice ao1 A.ac.length cap1) A.ac) := by rw [hw2]; exact HO1.out.far (by simp; omega) _
  have b4 : Hid (Blk w2 (w.heap.size + 1) 39 #[.int .i64 0, .slice none 0 0, .slice none 0 0]) := by rw [hw2]; exact b1.out.far (by simp) _
  have b5 : Hid (Blk w2 (w.heap.size + 1 + 1) 39 #[.int .i64 A.st, .slice ao1 A.ac.length cap1, .slice none 0 0]) := by rw [hw2]; exact b2.out.set 1 _
  clear HO1 b0 b1 b2 hw2
  refine (toIntSS_any _ A.nx _ (HB.out.since hs02) HM.out.2.1 HM.out.2.2).mono ?_
  rintro e w3 ⟨v2, rfl, ho2, hs3⟩
  obtain ⟨ao2, cap2, rfl⟩ := ho2.len
  have HO3 := Lib.hid ho2
  clear ho2
  have hs03 := hs02.trans hs3
  have HO4 := Lib.hid (HO2.out.since hs3)
  have hin4 := Lib.hid (HO2.out.inR)
  have b7 := Lib.hid (b4.out.since hs3)
  have b8 := Lib.hid (b5.out.since hs3)
  have hw3 : w.heap.size + 3 ≤ w2.heap.size := by omega
  have hw4 := hs3.size
  clear HO2 b4 b5
  obtain ⟨⟨q0, q1, q2⟩, s0, s1, s2⟩ := b8.out.threeA
  obtain ⟨_, t0, t1, t2⟩ := b7.out.threeA
  go_wp2_with fail
  refine bodyPost_ret (v := .agg #[.int .i64 A.st, .slice ao1 A.ac.length cap1, .slice ao2 A.nx.length cap2]) (by simp [results, Try.results55, go_sem, *]) rfl ?_
  refine ⟨_, rfl, ⟨_, _, rfl, hi, ?_, hin4.out.mono (by omega) (by simp; omega), ?_⟩, ?_⟩
  · refine OwnBo.mono (base := y.heap.size) ?_ (by omega)
    iterate 4 (with_reducible refine OwnBo.far ?_ (by simp <;> omega) _)
    exact HO4.out
  · refine OwnSS.wider (lo := w2.heap.size) (hi := w3.heap.size) ?_ (by omega) (by simp)
    iterate 4 (with_reducible refine OwnSS.far ?_ (by omega) _ _)
    exact HO3.out
  · iterate 4 (with_reducible refine Since.setCell ?_ (by simp <;> omega) _)
    exact hs03
set_option maxHeartbeats 2000000 in
set_option maxRecDepth 100000 in
theorem eqAutomaton_any (a b : Value) (A B : Aut) (w : World) (ha : AutAt w a A) (hb : AutAt w b B) (g : BgA A) (h : BgA B) :
    Calls Try.prog 56 #[a, b] w fun e w' => e = .returned (.bool (decide (A = B))) ∧ Since w w' := by
  obtain ⟨a1, a2, rfl, _, ha1, ha2⟩ := ha
  obtain ⟨b1, b2, rfl, _, hb1, hb2⟩ := hb
  have HA1 := Lib.hid ha1
  have HA2 := Lib.hid ha2
  have HB1 := Lib.hid hb1
  have HB2 := Lib.hid hb2
  clear ha1 ha2 hb1 hb2
  obtain ⟨ao1, ac1, rfl⟩ := HA1.out.len
  obtain ⟨ao2, ac2, rfl⟩ := HA2.out.len
  obtain ⟨bo1, bc1, rfl⟩ := HB1.out.len
  obtain ⟨bo2, bc2, rfl⟩ := HB2.out.len
  obtain ⟨g1, g2, g3⟩ := g
  obtain ⟨h1, h2, h3⟩ := h
  have GX : Hid (∀ i (h : i < A.nx.length), (A.nx[i]).length ≤ 4611686018427387904) := fun i h => by have := totS_get A.nx i h; omega
  have HX : Hid (∀ i (h : i < B.nx.length), (B.nx[i]).length ≤ 4611686018427387904) := fun i h => by have := totS_get B.nx i h; omega
  obtain ⟨y, hy⟩ : ∃ y, y = ((w.alloc (.cells #[.int .i64 A.st, .slice ao1 A.ac.length ac1, .slice ao2 A.nx.length ac2] 39)).alloc (.cells #[.int .i64 B.st, .slice bo1 B.ac.length bc1, .slice bo2 B.nx.length bc2] 39)) := ⟨_, rfl⟩
  have hs0 : Since w y := by rw [hy]; exact ((Since.refl w).alloc _).alloc _
  have B0 : Hid (Blk y w.heap.size 39 #[.int .i64 A.st, .slice ao1 A.ac.length ac1, .slice ao2 A.nx.length ac2]) := by rw [hy]; exact (Blk.new rfl _ _).alloc _
  have B1 : Hid (Blk y (w.heap.size + 1) 39 #[.int .i64 B.st, .slice bo1 B.ac.length bc1, .slice bo2 B.nx.length bc2]) := by rw [hy]; exact Blk.new (by simp) _ _
  have HY := Lib.hid hy
  clear hy
  have HQ := Lib.hid (Aut.eq_iff A B)
  by_cases e0 : A.st = B.st
  · have E0 := Lib.hid e0
    have d0 : (A.st != B.st) = false := by simp [e0]
    clear e0
    by_cases e1 : A.ac = B.ac
    · have E1 := Lib.hid e1
      have D1 : Hid (decide (A.ac = B.ac) = true) := decide_eq_true e1
      clear e1
      by_cases e2 : A.nx = B.nx
      · have D2 : Hid (decide (A.nx = B.nx) = true) := decide_eq_true e2
        have HD : Hid (decide (A = B) = true) := decide_eq_true (HQ.out.2 ⟨E0.out, E1.out, e2⟩)
        clear e2
        go_enter Try.func56, Try.ntmps56
        go_wp2_with fail
        rw [← HY.out]
        refine (eqBoolS_any _ _ A.ac B.ac _ (HA1.out.since hs0) (HB1.out.since hs0) (by omega) (by omega)).mono ?_
        rintro e w1 ⟨rfl, hs1⟩
        rw [D1.out]
        have hs01 := hs0.trans hs1
        obtain ⟨⟨p0, p1, p2⟩, _⟩ := (B0.out.since hs1).threeA
        obtain ⟨⟨q0, q1, q2⟩, _⟩ := (B1.out.since hs1).threeA
        go_wp2_with fail
        refine (eqIntSS_any _ _ A.nx B.nx _ (HA2.out.since hs01) (HB2.out.since hs01) (by omega) (by omega) GX.out HX.out).mono ?_
        rintro e w2 ⟨rfl, hs2⟩
        rw [D2.out]
        have hs02 := hs01.trans hs2
        go_wp2
        go_ret
        exact ⟨ret_bool HD.out.symm, hs02⟩
      · have D2 : Hid (decide (A.nx = B.nx) = false) := decide_eq_false e2
        have HD : Hid (decide (A = B) = false) := decide_eq_false (fun e => e2 (HQ.out.1 e).2.2)
        clear e2
        go_enter Try.func56, Try.ntmps56
        go_wp2_with fail
        rw [← HY.out]
        refine (eqBoolS_any _ _ A.ac B.ac _ (HA1.out.since hs0) (HB1.out.since hs0) (by omega) (by omega)).mono ?_
        rintro e w1 ⟨rfl, hs1⟩
        rw [D1.out]
        have hs01 := hs0.trans hs1
        obtain ⟨⟨p0, p1, p2⟩, _⟩ := (B0.out.since hs1).threeA
        obtain ⟨⟨q0, q1, q2⟩, _⟩ := (B1.out.since hs1).threeA
        go_wp2_with fail
        refine (eqIntSS_any _ _ A.nx B.nx _ (HA2.out.since hs01) (HB2.out.since hs01) (by omega) (by omega) GX.out HX.out).mono ?_
        rintro e w2 ⟨rfl, hs2⟩
        rw [D2.out]
        have hs02 := hs01.trans hs2
        go_wp2
        go_ret
        exact ⟨ret_bool HD.out.symm, hs02⟩
    · have D1 : Hid (decide (A.ac = B.ac) = false) := decide_eq_false e1
      have HD : Hid (decide (A = B) = false) := decide_eq_false (fun e => e1 (HQ.out.1 e).2.1)
      clear e1
      go_enter Try.func56, Try.ntmps56
      go_wp2_with fail
      rw [← HY.out]
      refine (eqBoolS_any _ _ A.ac B.ac _ (HA1.out.since hs0) (HB1.out.since hs0) (by omega) (by omega)).mono ?_
      rintro e w1 ⟨rfl, hs1⟩
      rw [D1.out]
      have hs01 := hs0.trans hs1
      go_wp2
      go_ret
      exact ⟨ret_bool HD.out.symm, hs01⟩
  · have d0 : (A.st != B.st) = true := by simpa using e0
    have HD : Hid (decide (A = B) = false) := decide_eq_false (fun e => e0 (HQ.out.1 e).1)
    clear e0
    go_enter Try.func56, Try.ntmps56
    go_wp2
    rw [← HY.out]
    go_ret
    exact ⟨ret_bool HD.out.symm, hs0⟩
/-- What markAutomaton writes. -/
def cntAu (k : Int) (A : Aut) : Aut := ⟨A.st, countB k A.ac.length, cntSS (k + A.ac.length) A.nx⟩
def szAu (A : Aut) : Int := (A.ac.length : Int) + (totS A.nx : Int)
def MarkAOut (lo hi : Nat) (w : World) (v : Value) (k : Int) (A : Aut) (e : Ending) (w' : World) : Prop :=
  e = .returned (.int .i64 (k + szAu A)) ∧ OwnA lo hi w' v (cntAu k A) ∧ Within lo hi w w'
theorem apart_none {a b : Value} (h : Apart a b) : a.ownBlock = none ∨ a.ownBlock ≠ b.ownBlock := h
set_option maxRecDepth 100000 in
theorem markAutomaton_any (lo hi : Nat) (v : Value) (A : Aut) (k : Int) (w : World) (h : OwnA lo hi w v A) (hhi : hi ≤ w.heap.size) (hk0 : 0 ≤ k) (hk9 : k ≤ 10000000) (hm : BgA A) :
    Calls Try.prog 57 #[v, .int .i64 k] w (MarkAOut lo hi w v k A) := by
  obtain ⟨a, b, rfl, hi0, ha, ra, hb⟩ := h
  have HA := Lib.hid ha
  have HB := Lib.hid hb
  clear ha hb
  obtain ⟨ao, ac, rfl⟩ := HA.out.len
  obtain ⟨bo, bc, rfl⟩ := HB.out.len
  obtain ⟨m1, m2, m3⟩ := hm
  have hs0 : Since w (w.alloc (.cells #[.int .i64 A.st, .slice ao A.ac.length ac, .slice bo A.nx.length bc] 39)) := (Since.refl w).alloc _
  have B0 : Hid (Blk (w.alloc (.cells #[.int .i64 A.st, .slice ao A.ac.length ac, .slice bo A.nx.length bc] 39)) w.heap.size 39 #[.int .i64 A.st, .slice ao A.ac.length ac, .slice bo A.nx.length bc]) := Blk.new rfl _ _
  have hn0 : 0 ≤ k + (A.ac.length : Int) := by omega
  have hn9 : k + (A.ac.length : Int) ≤ 100000000 := by omega
  go_enter Try.func57, Try.ntmps57
  go_wp2_with fail
  refine (markBoolS_any lo _ A.ac k _ (HA.out.since hs0) hk0 (by omega) (by omega)).mono ?_
  rintro e w1 ⟨rfl, ho1, hg1⟩
  have hw1 : Hid (Within lo hi w w1) := (Within.of_since hs0).trans (Within.of_grown hg1 ra)
  have b0 : Hid (Blk w1 w.heap.size 39 #[.int .i64 A.st, .slice ao A.ac.length ac, .slice bo A.nx.length bc]) := B0.out.within (Within.of_grown hg1 ra) (.inr hhi)
  have hob : Hid (OwnSS lo hi w1 (.slice bo A.nx.length bc) A.nx) := by
    have hA := HA.out.since hs0
    obtain ⟨ps, q1, q2, q3, q4, q5⟩ := HB.out.since hs0
    exact ⟨ps, q1.kept hg1 (apart_types q1 hA (by decide)), q2, q3, fun i hi h => ⟨⟨(q4 i hi h).1.1, (q4 i hi h).1.2.kept hg1 (apart_types (q4 i hi h).1.2 hA (by decide))⟩, (q4 i hi h).2⟩, q5⟩
  have HO1 := Lib.hid ho1
  clear ho1 hg1
  obtain ⟨⟨p0, p1, p2⟩, _⟩ := b0.out.threeA
  go_wp2_with fail
  refine (markIntSS_any lo hi _ A.nx (k + (A.ac.length : Int)) _ hob.out hn0 hn9 m2 m3).mono ?_
  rintro e w2 ⟨rfl, ho2, hg2, hk2⟩
  have hw2 : Hid (Within lo hi w w2) := hw1.out.trans hg2
  have HO2 := Lib.hid ho2
  have HO3 : Hid (OwnBo lo w2 (.slice ao A.ac.length ac) (countB k A.ac.length)) := hk2.row (by decide) HO1.out
  clear ho2
  go_wp2
  go_ret
  exact ⟨ret_int (by unfold szAu; omega), ⟨_, _, rfl, hi0, HO3.out, ra, HO2.out⟩, hw2.out⟩
set_option maxRecDepth 100000 in
theorem heldAutomaton_any (v : Value) (A : Aut) (k : Int) (w : World) (h : AutAt w v (cntAu k A)) (hk0 : 0 ≤ k) (hk9 : k ≤ 10000000) (hm : BgA A) :
    Calls Try.prog 60 #[v, .int .i64 k] w fun e w' => e = .returned (.int .i64 (k + szAu A)) ∧ Since w w' := by
  obtain ⟨a, b, rfl, _, ha, hb⟩ := h
  have HA : Hid (BosAt w a (countB k A.ac.length)) := ha
  have HB : Hid (IssAt w b (cntSS (k + A.ac.length) A.nx)) := hb
  clear ha hb
  obtain ⟨m1, m2, m3⟩ := hm
  obtain ⟨ao, ac, rfl⟩ := HA.out.len
  obtain ⟨bo, bc, rfl⟩ := HB.out.len
  obtain ⟨n, hn⟩ : ∃ n, n = (countB k A.ac.length).length := ⟨_, rfl⟩
  obtain ⟨m, hm⟩ : ∃ m, m = (cntSS (k + A.ac.length) A.nx).length := ⟨_, rfl⟩
  rw [← hn] at HA ⊢
  rw [← hm] at HB ⊢
  clear hn hm
  have hs0 : Since w (w.alloc (.cells #[.int .i64 A.st, .slice ao n ac, .slice bo m bc] 39)) := (Since.refl w).alloc _
  have hn0 : 0 ≤ k + (A.ac.length : Int) := by omega
  have hn9 : k + (A.ac.length : Int) ≤ 100000000 := by omega
  have d1 : decide (k + (A.ac.length : Int) < 0) = false := by simp; omega
  have d2 : decide (k + (A.ac.length : Int) + (totS A.nx : Int) < 0) = false := by simp; omega
  go_enter Try.func60, Try.ntmps60
  go_wp2_with fail
  refine (heldBoolS_any _ k A.ac.length _ (HA.out.since hs0) hk0 (by omega) (by omega)).mono ?_
  rintro e w1 ⟨rfl, rfl⟩
  go_wp2_with fail
  refine (heldIntSS_any _ A.nx (k + (A.ac.length : Int)) _ (HB.out.since hs0) hn0 hn9 m2 m3).mono ?_
  rintro e w1 ⟨rfl, rfl⟩
  go_wp2
  go_ret
  exact ⟨ret_int (by unfold szAu; omega), hs0⟩
end Go.Proofs.Ytmaagihfjldgeaa

/- Automata: the laws' sizes in another form; a box of a result. -/
namespace Go.Proofs.Ytmaagihfjldgeaa
set_option maxRecDepth 100000
open Go.ChangeShapes Go.WideShapes Go.ChangeAt Go.RowKit
set_option linter.unusedVariables false
set_option linter.unusedSimpArgs false

theorem szA_smallB {A : Aut} {left : Int} (h1 : left ≤ 1048576) (h : ¬ szA A left < 0) : (0 ≤ szA A left ∧ szA A left ≤ 1048576) ∧ SmA A := by
  unfold szA szS at h ⊢
  unfold SmA
  split at h
  · omega
  · rename_i k
    rw [if_neg k]
    split at h
    · omega
    · rename_i k2
      rw [if_neg k2]; omega
theorem szAu_is (v : Value) (A : Aut) (left x : Int) (w : World) (h : AutAt w v A) (hm : MxA A) (h0 : 0 ≤ left) (h1 : left ≤ 1048576) (hx : szA A left = x) :
    Calls Try.prog 54 #[v, .int .i64 left] w fun e w' => e = .returned (.int .i64 x) ∧ Since w w' := by
  rw [← hx]; exact szAutomaton_any v A left w h hm h0 h1
theorem szAu_le {A : Aut} (h : SmA A) : 0 ≤ szAu A ∧ szAu A ≤ 2097154 := by unfold SmA at h; unfold szAu; omega
theorem szAu_bg {A : Aut} (h : BgA A) : 0 ≤ szAu A ∧ szAu A ≤ 4194308 := by unfold BgA at h; unfold szAu; omega
/-- A box of a result. -/
def BoxA (w1 wx : World) (p : Value) (R : Aut) : Prop :=
  ∃ lo hi B so sc uo uc, p = .pointer (some ⟨B, 0, none⟩) ∧ w1.heap.size ≤ lo ∧ w1.heap.size ≤ B ∧ hi ≤ wx.heap.size ∧ (B < lo ∨ hi ≤ B) ∧
    OwnA lo hi wx (.agg #[.int .i64 R.st, .slice so R.ac.length sc, .slice uo R.nx.length uc]) R ∧ Blk wx B 39 #[.int .i64 R.st, .slice so R.ac.length sc, .slice uo R.nx.length uc] ∧ Since w1 wx
theorem OwnA.far1 {lo hi B : Nat} {w : World} {v : Value} {x : Aut} (h : OwnA lo hi w v x) (hB : B < lo ∨ hi ≤ B) (i : Nat) (u : Value) : OwnA lo hi (w.setCell ⟨B, i, none⟩ u) v x := by
  have k : Within B (B + 1) w (w.setCell ⟨B, i, none⟩ u) := ⟨rfl, rfl, rfl, by simp [World.setCell], fun k _ hn => Below.heap_setCell w ⟨B, i, none⟩ u k (by show k ≠ B; omega)⟩
  exact h.within k (by omega)
theorem OwnA.far3 {lo hi B : Nat} {w : World} {v : Value} {x : Aut} (h : OwnA lo hi w v x) (hB : B < lo ∨ hi ≤ B) {i j k : Nat} {u u2 u3 : Value} : OwnA lo hi (((w.setCell ⟨B, i, none⟩ u).setCell ⟨B, j, none⟩ u2).setCell ⟨B, k, none⟩ u3) v x :=
  ((h.far1 hB i u).far1 hB j u2).far1 hB k u3
theorem boxA_mk {w1 wx : World} {lo hi : Nat} {so uo : Option Addr} {sc uc : Nat} {R : Aut} (B : Nat) (hB : w1.heap.size ≤ B) (h0 : w1.heap.size ≤ lo) (h1 : hi ≤ wx.heap.size ∧ (B < lo ∨ hi ≤ B))
    (hO : OwnA lo hi wx (.agg #[.int .i64 R.st, .slice so R.ac.length sc, .slice uo R.nx.length uc]) R) (hK : Blk wx B 39 #[.int .i64 R.st, .slice so R.ac.length sc, .slice uo R.nx.length uc]) (hS : Since w1 wx) :
    BoxA w1 wx (.pointer (some ⟨B, 0, none⟩)) R := ⟨lo, hi, B, so, sc, uo, uc, rfl, h0, hB, h1.1, h1.2, hO, hK, hS⟩
end Go.Proofs.Ytmaagihfjldgeaa

/- Automata as plain data: valid ones, runs, acceptance. -/
namespace Go.Proofs.Ytmaagihfjldgeaa
set_option maxRecDepth 100000
open Go.ChangeShapes Go.WideShapes Go.ChangeAt Go.RowKit Go.Joins Go.Deep
set_option linter.unusedVariables false
set_option linter.unusedSimpArgs false

/-- The transitions of one state in an automaton of n states. -/
def RowOk (n : Nat) (r : List Int) : Prop := r.length = 9 ∧ ∀ x ∈ r, -1 ≤ x ∧ x < (n : Int)
instance (n : Nat) (r : List Int) : Decidable (RowOk n r) := by unfold RowOk; exact inferInstance
def ValidA (A : Aut) : Prop := A.ac.length ≤ 1000 ∧ A.nx.length = A.ac.length ∧ (0 ≤ A.st ∧ A.st < (A.ac.length : Int)) ∧ ∀ r ∈ A.nx, RowOk A.ac.length r
instance (A : Aut) : Decidable (ValidA A) := by unfold ValidA; exact inferInstance
def validA (A : Aut) : Bool := decide (A.ac.length ≤ 12 ∧ ValidA A)
theorem validA_true {A : Aut} (h12 : A.ac.length ≤ 12) (h : ValidA A) : validA A = true := decide_eq_true ⟨h12, h⟩
theorem validA_false {A : Aut} (h : ¬ (A.ac.length ≤ 12 ∧ ValidA A)) : validA A = false := decide_eq_false h
theorem validA_iff (A : Aut) : (validA A = true → ValidA A) ∧ (validA A = true → A.ac.length ≤ 12) := ⟨fun h => (of_decide_eq_true h).2, fun h => (of_decide_eq_true h).1⟩
theorem ValidA.row {A : Aut} (h : ValidA A) (s : Nat) (hs : s < A.nx.length) : RowOk A.ac.length A.nx[s] := h.2.2.2 _ (List.getElem_mem hs)
theorem RowOk.at {n : Nat} {r : List Int} (h : RowOk n r) (k : Nat) (hk : k < r.length) : -1 ≤ r[k] ∧ r[k] < (n : Int) := h.2 _ (List.getElem_mem hk)
theorem rowOk_of {n : Nat} {r : List Int} (hl : r.length = 9) (h : ∀ k (hk : k < r.length), -1 ≤ r[k] ∧ r[k] < (n : Int)) : RowOk n r := ⟨hl, fun x hx => by obtain ⟨k, hk, rfl⟩ := List.getElem_of_mem hx; exact h k hk⟩
/-- The state after one letter. -/
def nextA (nx : List (List Int)) (s k : Int) : Int := ((nx[s.toNat]?.getD [])[k.toNat]?).getD (-1)
theorem nextA_at (nx : List (List Int)) (s k : Nat) (hs : s < nx.length) (hk : k < (nx[s]).length) : nextA nx (s : Int) (k : Int) = (nx[s])[k] := by
  simp [nextA, hs, hk]
def runL (nx : List (List Int)) : Int → List Int → Int
  | s, [] => s
  | s, k :: ks => if s < 0 then -1 else if inB k 0 8 = false then -1 else runL nx (nextA nx s k) ks
def runA (A : Aut) (w : List Int) : Int := if validA A = true then runL A.nx A.st w else -1
def accA (A : Aut) (w : List Int) : Bool := decide (0 ≤ runA A w) && (A.ac[(runA A w).toNat]?.getD false)
theorem runL_neg (nx : List (List Int)) : ∀ (w : List Int), runL nx (-1) w = -1
  | [] => rfl
  | k :: ks => by unfold runL; rw [if_pos (by decide)]
theorem nextA_in {A : Aut} (h : ValidA A) (s k : Int) (hs : 0 ≤ s ∧ s < (A.ac.length : Int)) (hk : inB k 0 8 = true) : ∃ hs1 : s.toNat < A.nx.length, ∃ hk1 : k.toNat < (A.nx[s.toNat]).length, nextA A.nx s k = (A.nx[s.toNat])[k.toNat] ∧ -1 ≤ nextA A.nx s k ∧ nextA A.nx s k < (A.ac.length : Int) := by
  have hk2 : 0 ≤ k ∧ k ≤ 8 := by simpa [inB] using hk
  have hs1 : s.toNat < A.nx.length := by have := h.2.1; omega
  have hr := h.row s.toNat hs1
  have hk1 : k.toNat < (A.nx[s.toNat]).length := by have := hr.1; omega
  have e : nextA A.nx s k = (A.nx[s.toNat])[k.toNat] := by simp [nextA, hs1, hk1]
  have hb := hr.at k.toNat hk1
  exact ⟨hs1, hk1, e, by rw [e]; exact hb.1, by rw [e]; exact hb.2⟩
theorem runL_in {A : Aut} (h : ValidA A) : ∀ (w : List Int) (s : Int), (-1 ≤ s ∧ s < (A.ac.length : Int)) → -1 ≤ runL A.nx s w ∧ runL A.nx s w < (A.ac.length : Int)
  | [], s, hs => hs
  | k :: ks, s, hs => by
    unfold runL
    split
    · exact ⟨Int.le_refl _, by have := h.2.2.1; omega⟩
    · split
      · exact ⟨Int.le_refl _, by have := h.2.2.1; omega⟩
      · rename_i h1 h2
        obtain ⟨_, _, _, h4, h5⟩ := nextA_in h s k ⟨by omega, hs.2⟩ (by simpa using h2)
        exact runL_in h ks _ ⟨h4, h5⟩
theorem runA_in {A : Aut} (h : ValidA A) (w : List Int) : -1 ≤ runA A w ∧ runA A w < (A.ac.length : Int) := by
  unfold runA
  split
  · exact runL_in h w _ ⟨by have := h.2.2.1; omega, h.2.2.1.2⟩
  · have := h.2.2.1
    omega
/-- One step of the run along a word. -/
theorem runL_step (nx : List (List Int)) (w : List Int) (i : Nat) (hi : i < w.length) (s : Int) (hs : 0 ≤ s) (hk : inB w[i] 0 8 = true) : runL nx s (w.drop i) = runL nx (nextA nx s w[i]) (w.drop (i + 1)) := by
  rw [List.drop_eq_getElem_cons hi]
  conv => lhs; unfold runL
  rw [if_neg (by omega), if_neg (by simp [hk])]
theorem runL_bad (nx : List (List Int)) (w : List Int) (i : Nat) (hi : i < w.length) (s : Int) (hk : inB w[i] 0 8 = false) : runL nx s (w.drop i) = -1 := by
  rw [List.drop_eq_getElem_cons hi]
  unfold runL
  by_cases h : s < 0
  · rw [if_pos h]
  · rw [if_neg h, if_pos hk]
theorem runL_negAt (nx : List (List Int)) (w : List Int) (i : Nat) (s : Int) (hs : s = -1) : runL nx s (w.drop i) = -1 := by subst hs; exact runL_neg _ _
end Go.Proofs.Ytmaagihfjldgeaa

/- Closed sets of states: what sweeps over states and letters find. -/
namespace Go.Proofs.Ytmaagihfjldgeaa
set_option maxRecDepth 100000
set_option linter.unusedVariables false
set_option linter.unusedSimpArgs false

def at0 (b : List Bool) (s : Nat) : Bool := b[s]?.getD false
theorem at0_get (b : List Bool) (s : Nat) (h : s < b.length) : at0 b s = b[s] := by simp [at0, h]
theorem at0_out (b : List Bool) (s : Nat) (h : ¬ s < b.length) : at0 b s = false := by unfold at0; rw [List.getElem?_eq_none (by omega)]; rfl
theorem at0_lt {b : List Bool} {s : Nat} (h : at0 b s = true) : s < b.length := by
  refine Decidable.byContradiction fun k => ?_
  rw [at0_out b s k] at h; cases h
theorem at0_set (b : List Bool) (s t : Nat) (hs : s < b.length) : at0 (b.set s true) t = if t = s then true else at0 b t := by
  unfold at0
  by_cases e : t = s
  · subst e; rw [List.getElem?_set_self hs, if_pos rfl]; rfl
  · rw [List.getElem?_set_ne (fun k => e k.symm), if_neg e]
theorem set_same (b : List Bool) (s : Nat) (h : at0 b s = true) : b.set s true = b := by
  have hs := at0_lt h
  rw [at0_get b s hs] at h
  rw [← h, List.set_getElem_self]
def cntT : List Bool → Nat
  | [] => 0
  | x :: xs => (if x = true then 1 else 0) + cntT xs
theorem cntT_le : ∀ b : List Bool, cntT b ≤ b.length
  | [] => Nat.le_refl _
  | x :: xs => by have := cntT_le xs; simp only [cntT, List.length_cons]; split <;> omega
theorem cntT_all : ∀ b : List Bool, b.length ≤ cntT b → ∀ s, s < b.length → at0 b s = true
  | [], _, s, h => by simp at h
  | x :: xs, hl, s, h => by
    have h1 := cntT_le xs
    simp only [cntT, List.length_cons] at hl h
    have hx : x = true := by
      cases x with
      | true => rfl
      | false => simp at hl; omega
    subst hx
    simp only [if_true] at hl
    cases s with
    | zero => rfl
    | succ s => exact cntT_all xs (by omega) s (by omega)
theorem cntT_set : ∀ (b : List Bool) (s : Nat), s < b.length → at0 b s = false → cntT (b.set s true) = cntT b + 1
  | [], s, h, _ => by simp at h
  | x :: xs, 0, _, h => by
    have : x = false := h
    subst this
    simp [cntT]; omega
  | x :: xs, s + 1, hs, h => by
    have := cntT_set xs s (by simpa using hs) h
    simp only [List.set_cons_succ, cntT, this]; omega
/-- if the one holds, so does the other. -/
abbrev Rule := Nat → Nat → Option (Nat × Nat)
def okAt (R : Rule) (b : List Bool) (s k : Nat) : Prop := ∀ x y, R s k = some (x, y) → at0 b x = true → at0 b y = true
def ClosedR (R : Rule) (n : Nat) (b : List Bool) : Prop := ∀ s k, s < n → k < 9 → okAt R b s k
/-- What a sweep has done up to a state and a letter. -/
def Swept (R : Rule) (n : Nat) (b0 b : List Bool) (s k : Nat) : Prop :=
  (b = b0 ∧ ∀ s' k', k' < 9 → (s' < s ∨ (s' = s ∧ k' < k)) → okAt R b0 s' k') ∨ (cntT b0 < cntT b ∧ ¬ ClosedR R n b0)
theorem Swept.start (R : Rule) (n : Nat) (b : List Bool) : Swept R n b b 0 0 := .inl ⟨rfl, fun s k _ h => by omega⟩
theorem Swept.skip {R : Rule} {n : Nat} {b0 b : List Bool} {s k : Nat} (h : Swept R n b0 b s k) (ho : okAt R b s k) : Swept R n b0 b s (k + 1) := by
  rcases h with ⟨rfl, h⟩ | h
  · refine .inl ⟨rfl, fun s' k' hk hs => ?_⟩
    by_cases e : s' = s ∧ k' = k
    · rw [e.1, e.2]; exact ho
    · exact h s' k' hk (by omega)
  · exact .inr h
theorem Swept.row {R : Rule} {n : Nat} {b0 b : List Bool} {s : Nat} (h : Swept R n b0 b s 9) : Swept R n b0 b (s + 1) 0 := by
  rcases h with ⟨rfl, h⟩ | h
  · exact .inl ⟨rfl, fun s' k' hk hs => h s' k' hk (by omega)⟩
  · exact .inr h
theorem Swept.turn {R : Rule} {n : Nat} {b0 b : List Bool} {s k x y : Nat} (h : Swept R n b0 b s k) (hs : s < n) (hk : k < 9) (hR : R s k = some (x, y)) (hx : at0 b x = true) (hy : y < b.length) :
    Swept R n b0 (b.set y true) s (k + 1) := by
  cases e : at0 b y with
  | true =>
    rw [set_same b y e]
    refine h.skip fun x' y' h' hx' => ?_
    rw [hR] at h'
    injection h' with h'
    injection h' with h1 h2
    rw [← h2]; exact e
  | false =>
    have hc := cntT_set b y hy e
    rcases h with ⟨rfl, h⟩ | ⟨h1, h2⟩
    · refine .inr ⟨by omega, fun hcl => ?_⟩
      have := hcl s k hs hk x y hR hx
      rw [e] at this; cases this
    · exact .inr ⟨by omega, h2⟩
/-- What r sweeps have done. -/
def Rnd (R : Rule) (n r : Nat) (b : List Bool) : Prop := ClosedR R n b ∨ r ≤ cntT b
theorem Swept.round {R : Rule} {n r : Nat} {b0 b : List Bool} (h : Swept R n b0 b n 0) (hr : Rnd R n r b0) : Rnd R n (r + 1) b := by
  rcases h with ⟨rfl, h⟩ | ⟨h1, h2⟩
  · exact .inl fun s k hs hk => h s k hk (.inl hs)
  · rcases hr with hr | hr
    · exact absurd hr h2
    · exact .inr (by omega)
theorem Rnd.closed {R : Rule} {n : Nat} {b : List Bool} (h : Rnd R n n b) (hl : b.length = n) (hy : ∀ s k x y, R s k = some (x, y) → y < n) : ClosedR R n b := by
  rcases h with h | h
  · exact h
  · intro s k hs hk x y hR _
    exact cntT_all b (by omega) y (by have := hy s k x y hR; omega)
/-- The least set that holds the states of B0 and is closed. -/
def LeastP (R : Rule) (n : Nat) (B0 : List Bool) (s : Nat) : Prop := ∀ b : List Bool, b.length = n → (∀ s, at0 B0 s = true → at0 b s = true) → ClosedR R n b → at0 b s = true
theorem LeastP.step {R : Rule} {n : Nat} {B0 : List Bool} {s k x y : Nat} (hs : s < n) (hk : k < 9) (hR : R s k = some (x, y)) (h : LeastP R n B0 x) : LeastP R n B0 y :=
  fun b hl hb hc => hc s k hs hk x y hR (h b hl hb hc)
theorem LeastP.base {R : Rule} {n : Nat} {B0 : List Bool} {s : Nat} (h : at0 B0 s = true) : LeastP R n B0 s := fun b hl hb hc => hb s h
/-- a predicate as a list. -/
def boL (f : Nat → Bool) (n : Nat) : List Bool := (List.range n).map f
theorem boL_length (f : Nat → Bool) (n : Nat) : (boL f n).length = n := by simp [boL]
theorem boL_at (f : Nat → Bool) (n s : Nat) (h : s < n) : at0 (boL f n) s = f s := by simp [at0, boL, h]
theorem boL_get (f : Nat → Bool) (n s : Nat) (h : s < n) : (boL f n)[s]'(by rw [boL_length]; exact h) = f s := by simp [boL]
theorem pred_bool (P : Nat → Prop) : ∃ f : Nat → Bool, ∀ s, f s = true ↔ P s := ⟨fun s => @decide (P s) (Classical.propDecidable _), fun s => @decide_eq_true_iff _ (Classical.propDecidable _)⟩
theorem LeastP.ind {R : Rule} {n : Nat} {B0 : List Bool} {Q : Nat → Prop} (hB : B0.length ≤ n) (hy : ∀ s k x y, R s k = some (x, y) → x < n ∧ y < n) (h0 : ∀ s, at0 B0 s = true → Q s) (h1 : ∀ s k x y, s < n → k < 9 → R s k = some (x, y) → Q x → Q y) {s : Nat} (hs : s < n) (h : LeastP R n B0 s) : Q s := by
  obtain ⟨f, hf⟩ := pred_bool Q
  have := h (boL f n) (boL_length f n) (fun t ht => by
    have hl := at0_lt ht
    rw [boL_at f n t (by omega)]; exact (hf t).2 (h0 t ht)) (fun t k ht hk x y hR hx => by
      obtain ⟨hx1, hy1⟩ := hy t k x y hR
      rw [boL_at f n x hx1] at hx
      rw [boL_at f n y hy1]
      exact (hf y).2 (h1 t k x y ht hk hR ((hf x).1 hx)))
  rw [boL_at f n s hs] at this
  exact (hf s).1 this
/-- A sound, closed list is that set. -/
theorem least_eq {R : Rule} {n : Nat} {B0 b : List Bool} {f : Nat → Bool} (hf : ∀ s, f s = true ↔ LeastP R n B0 s) (hl : b.length = n) (hb : ∀ s, at0 B0 s = true → at0 b s = true) (hs : ∀ s, at0 b s = true → LeastP R n B0 s) (hc : ClosedR R n b) : b = boL f n := by
  apply List.ext_getElem
  · rw [boL_length, hl]
  · intro s h1 h2
    rw [boL_get f n s (by omega), ← at0_get b s h1, Bool.eq_iff_iff, hf]
    exact ⟨hs s, fun h => h b hl hb hc⟩
/-- What sweeps keep. -/
structure SwpI (R : Rule) (n : Nat) (B0 b : List Bool) : Prop where
  len : b.length = n
  base : ∀ s, at0 B0 s = true → at0 b s = true
  sound : ∀ s, at0 b s = true → LeastP R n B0 s
theorem SwpI.turn {R : Rule} {n : Nat} {B0 b : List Bool} (h : SwpI R n B0 b) {s k x y : Nat} (hs : s < n) (hk : k < 9) (hR : R s k = some (x, y)) (hx : at0 b x = true) (hy : y < n) : SwpI R n B0 (b.set y true) := by
  refine ⟨by rw [List.length_set]; exact h.len, fun t ht => ?_, fun t ht => ?_⟩
  · rw [at0_set b y t (by rw [h.len]; exact hy)]
    split
    · rfl
    · exact h.base t ht
  · rw [at0_set b y t (by rw [h.len]; exact hy)] at ht
    split at ht
    · rename_i e
      rw [e]; exact (h.sound x hx).step hs hk hR
    · exact h.sound t ht
theorem SwpI.done {R : Rule} {n : Nat} {B0 b : List Bool} (h : SwpI R n B0 b) {f : Nat → Bool} (hf : ∀ s, f s = true ↔ LeastP R n B0 s) (hc : ClosedR R n b) : b = boL f n := least_eq hf h.len h.base h.sound hc
/-! the two rules of an automaton -/
def tgt (A : Aut) (s k : Nat) : Option Nat := if s < A.ac.length ∧ 0 ≤ nextA A.nx s k ∧ nextA A.nx s k < (A.ac.length : Int) then some (nextA A.nx s k).toNat else none
theorem tgt_some {A : Aut} {s k t : Nat} (hs : s < A.ac.length) (h : nextA A.nx s k = (t : Int)) (ht : t < A.ac.length) : tgt A s k = some t := by
  unfold tgt; rw [if_pos ⟨hs, by omega, by omega⟩, h]; rfl
theorem tgt_none {A : Aut} {s k : Nat} (h : nextA A.nx s k < 0) : tgt A s k = none := by
  unfold tgt; rw [if_neg (by omega)]
theorem tgt_lt {A : Aut} {s k t : Nat} (h : tgt A s k = some t) : s < A.ac.length ∧ t < A.ac.length ∧ nextA A.nx s k = (t : Int) := by
  unfold tgt at h
  split at h
  · rename_i e
    injection h with h
    omega
  · cases h
def liveR (A : Aut) : Rule := fun s k => (tgt A s k).map fun t => (t, s)
def rchR (A : Aut) : Rule := fun s k => (tgt A s k).map fun t => (s, t)
theorem liveR_of {A : Aut} {s k t : Nat} (h : tgt A s k = some t) : liveR A s k = some (t, s) := by unfold liveR; rw [h]; rfl
theorem rchR_of {A : Aut} {s k t : Nat} (h : tgt A s k = some t) : rchR A s k = some (s, t) := by unfold rchR; rw [h]; rfl
theorem liveR_inv {A : Aut} {s k x y : Nat} (h : liveR A s k = some (x, y)) : tgt A s k = some x ∧ y = s := by
  unfold liveR at h
  cases e : tgt A s k with
  | none => rw [e] at h; cases h
  | some t => rw [e] at h; injection h with h; injection h with h1 h2; exact ⟨by rw [h1], h2.symm⟩
theorem rchR_inv {A : Aut} {s k x y : Nat} (h : rchR A s k = some (x, y)) : tgt A s k = some y ∧ x = s := by
  unfold rchR at h
  cases e : tgt A s k with
  | none => rw [e] at h; cases h
  | some t => rw [e] at h; injection h with h; injection h with h1 h2; exact ⟨by rw [h2], h1.symm⟩
theorem liveR_lt {A : Aut} (s k x y : Nat) (h : liveR A s k = some (x, y)) : x < A.ac.length ∧ y < A.ac.length := by
  obtain ⟨h1, rfl⟩ := liveR_inv h
  exact ⟨(tgt_lt h1).2.1, (tgt_lt h1).1⟩
theorem rchR_lt {A : Aut} (s k x y : Nat) (h : rchR A s k = some (x, y)) : x < A.ac.length ∧ y < A.ac.length := by
  obtain ⟨h1, rfl⟩ := rchR_inv h
  exact ⟨(tgt_lt h1).1, (tgt_lt h1).2.1⟩
def startL (A : Aut) : List Bool := (List.replicate A.ac.length false).set A.st.toNat true
def LiveP (A : Aut) : Nat → Prop := LeastP (liveR A) A.ac.length A.ac
def RchP (A : Aut) : Nat → Prop := LeastP (rchR A) A.ac.length (startL A)
theorem startL_length (A : Aut) : (startL A).length = A.ac.length := by simp [startL]
theorem startL_at {A : Aut} (h : A.st.toNat < A.ac.length) (s : Nat) : at0 (startL A) s = decide (s = A.st.toNat) := by
  unfold startL
  rw [at0_set _ _ _ (by simpa using h)]
  by_cases e : s = A.st.toNat
  · rw [if_pos e]; simp [e]
  · rw [if_neg e]
    have : at0 (List.replicate A.ac.length false) s = false := by
      unfold at0
      by_cases k : s < A.ac.length
      · simp [k]
      · rw [List.getElem?_eq_none (by simpa using k)]; rfl
    rw [this]; simp [e]
end Go.Proofs.Ytmaagihfjldgeaa

/- Numbering states in the order in which they are found: as plain data. -/
namespace Go.Proofs.Ytmaagihfjldgeaa
set_option maxRecDepth 100000
set_option linter.unusedVariables false
set_option linter.unusedSimpArgs false

def addN (lim : Nat) (fs : List Int) (o : Option Int) : Option (List Int) :=
  match o with
  | none => some fs
  | some x => if x ∈ fs then some fs else if fs.length = lim then none else some (fs ++ [x])
/-- The letters from 9 - m on. -/
def rowN (step : Int → Nat → Option Int) (lim : Nat) (s : Int) : Nat → List Int → Option (List Int)
  | 0, fs => some fs
  | m + 1, fs => (addN lim fs (step s (8 - m))).bind (rowN step lim s m)
def runN (step : Int → Nat → Option Int) (lim : Nat) : Nat → Nat → List Int → Option (List Int)
  | 0, _, fs => some fs
  | m + 1, p, fs => match fs[p]? with
    | none => some fs
    | some s => (rowN step lim s 9 fs).bind (runN step lim m (p + 1))
def numN (step : Int → Nat → Option Int) (lim : Nat) (s0 : Int) : Option (List Int) := runN step lim (lim + 1) 0 [s0]
theorem runN_at (step : Int → Nat → Option Int) (lim m p : Nat) (fs : List Int) (hp : p < fs.length) : runN step lim (m + 1) p fs = (rowN step lim fs[p] 9 fs).bind (runN step lim m (p + 1)) := by
  conv => lhs; unfold runN
  rw [List.getElem?_eq_getElem hp]
theorem runN_end (step : Int → Nat → Option Int) (lim m p : Nat) (fs : List Int) (hp : fs.length ≤ p) : runN step lim m p fs = some fs := by
  cases m with
  | zero => rfl
  | succ m => unfold runN; rw [List.getElem?_eq_none hp]
theorem rowN_at (step : Int → Nat → Option Int) (lim : Nat) (s : Int) (k : Nat) (hk : k < 9) (fs : List Int) : rowN step lim s (9 - k) fs = (addN lim fs (step s k)).bind (rowN step lim s (9 - (k + 1))) := by
  have e : 9 - k = (8 - k) + 1 := by omega
  rw [e]
  conv => lhs; unfold rowN
  rw [show 8 - (8 - k) = k from by omega, show 9 - (k + 1) = 8 - k from by omega]
theorem rowN_none (step : Int → Nat → Option Int) (lim : Nat) (s : Int) (k : Nat) (hk : k < 9) (fs : List Int) (h : step s k = none) : rowN step lim s (9 - k) fs = rowN step lim s (9 - (k + 1)) fs := by
  rw [rowN_at step lim s k hk fs, h]; rfl
theorem rowN_old (step : Int → Nat → Option Int) (lim : Nat) (s : Int) (k : Nat) (hk : k < 9) (fs : List Int) (x : Int) (h : step s k = some x) (hx : x ∈ fs) : rowN step lim s (9 - k) fs = rowN step lim s (9 - (k + 1)) fs := by
  rw [rowN_at step lim s k hk fs, h]; simp [addN, hx]
theorem rowN_full (step : Int → Nat → Option Int) (lim : Nat) (s : Int) (k : Nat) (hk : k < 9) (fs : List Int) (x : Int) (h : step s k = some x) (hx : x ∉ fs) (hl : fs.length = lim) : rowN step lim s (9 - k) fs = none := by
  rw [rowN_at step lim s k hk fs, h]; simp [addN, hx, hl]
theorem rowN_new (step : Int → Nat → Option Int) (lim : Nat) (s : Int) (k : Nat) (hk : k < 9) (fs : List Int) (x : Int) (h : step s k = some x) (hx : x ∉ fs) (hl : fs.length ≠ lim) : rowN step lim s (9 - k) fs = rowN step lim s (9 - (k + 1)) (fs ++ [x]) := by
  rw [rowN_at step lim s k hk fs, h]; simp [addN, hx, hl]
/-- Different states below n are at most n. -/
theorem pigeon (n : Nat) : ∀ (l : List Int), l.Nodup → (∀ x ∈ l, 0 ≤ x ∧ x < (n : Int)) → cntT (boL (fun s => decide ((s : Int) ∈ l)) n) = l.length
  | [], _, _ => by
    have : ∀ b : List Bool, (∀ x ∈ b, x = false) → cntT b = 0 := by
      intro b
      induction b with
      | nil => intro _; rfl
      | cons x xs ih => intro h; simp only [cntT]; rw [h x (by simp), ih (fun y hy => h y (by simp [hy]))]; rfl
    exact this _ (fun x hx => by
      unfold boL at hx
      obtain ⟨s, _, rfl⟩ := List.mem_map.1 hx
      simp)
  | x :: l, hd, hb => by
    obtain ⟨hx1, hd2⟩ := List.nodup_cons.1 hd
    have hx := hb x (by simp)
    have ih := pigeon n l hd2 (fun y hy => hb y (by simp [hy]))
    have hxn : x.toNat < n := by omega
    have hxe : ((x.toNat : Nat) : Int) = x := by omega
    have e : boL (fun s => decide ((s : Int) ∈ x :: l)) n = (boL (fun s => decide ((s : Int) ∈ l)) n).set x.toNat true := by
      apply List.ext_getElem
      · simp [boL]
      · intro i h1 h2
        have hi : i < n := by rw [boL_length] at h1; exact h1
        rw [boL_get _ n i hi, List.getElem_set]
        by_cases e : x.toNat = i
        · rw [if_pos e]
          have : ((i : Nat) : Int) = x := by omega
          simp [this]
        · rw [if_neg e, boL_get _ n i hi]
          have : ((i : Nat) : Int) ≠ x := by omega
          simp [this]
    rw [e, cntT_set _ _ (by rw [boL_length]; exact hxn) (by rw [boL_at _ n _ hxn, hxe]; simp [hx1]), ih]
    rfl
theorem pigeon_le {n : Nat} {l : List Int} (h : l.Nodup) (hb : ∀ x ∈ l, 0 ≤ x ∧ x < (n : Int)) : l.length ≤ n := by
  have h1 := pigeon n l h hb
  have h2 := cntT_le (boL (fun s => decide ((s : Int) ∈ l)) n)
  rw [boL_length] at h2
  omega
theorem nodup_snoc {l : List Int} {x : Int} (h : l.Nodup) (hx : x ∉ l) : (l ++ [x]).Nodup := by
  rw [List.nodup_append]
  refine ⟨h, by simp, fun a ha b hb => ?_⟩
  simp at hb; subst hb
  intro e; subst e; exact hx ha
/-- What numbering keeps: different states that Q holds of. -/
def FsI (Q : Int → Prop) (fs : List Int) : Prop := fs.Nodup ∧ ∀ x ∈ fs, Q x
theorem FsI.snoc {Q : Int → Prop} {fs : List Int} (h : FsI Q fs) {x : Int} (hx : x ∉ fs) (hq : Q x) : FsI Q (fs ++ [x]) :=
  ⟨nodup_snoc h.1 hx, fun y hy => by
    rcases List.mem_append.1 hy with k | k
    · exact h.2 y k
    · simp at k; subst k; exact hq⟩
/-- Q is closed, and room is enough: no state is refused. -/
structure NumH (step : Int → Nat → Option Int) (lim : Nat) (Q : Int → Prop) : Prop where
  step : ∀ s k x, k < 9 → Q s → step s k = some x → Q x
  room : ∀ fs, FsI Q fs → fs.length ≤ lim
theorem rowN_all {step : Int → Nat → Option Int} {lim : Nat} {Q : Int → Prop} (H : NumH step lim Q) (s : Int) (hs : Q s) : ∀ (m : Nat), m ≤ 9 → ∀ fs, FsI Q fs →
    ∃ gs, rowN step lim s m fs = some gs ∧ FsI Q gs ∧ (∃ t, gs = fs ++ t) ∧ ∀ k x, 9 - m ≤ k → k < 9 → step s k = some x → x ∈ gs := by
  intro m
  induction m with
  | zero => intro _ fs hf; exact ⟨fs, rfl, hf, ⟨[], by simp⟩, fun k x h1 h2 => by omega⟩
  | succ m ih =>
    intro hm fs hf
    have key : ∃ g1, addN lim fs (step s (8 - m)) = some g1 ∧ FsI Q g1 ∧ (∃ t, g1 = fs ++ t) ∧ ∀ x, step s (8 - m) = some x → x ∈ g1 := by
      cases e : step s (8 - m) with
      | none => exact ⟨fs, rfl, hf, ⟨[], by simp⟩, fun x h => by cases h⟩
      | some x =>
        by_cases hx : x ∈ fs
        · exact ⟨fs, by simp [addN, hx], hf, ⟨[], by simp⟩, fun y h => by injection h with h; subst h; exact hx⟩
        · have hf2 := hf.snoc hx (H.step s (8 - m) x (by omega) hs e)
          have hr := H.room _ hf2
          rw [List.length_append, List.length_singleton] at hr
          exact ⟨fs ++ [x], by simp only [addN]; rw [if_neg hx, if_neg (by omega)], hf2, ⟨[x], rfl⟩, fun y h => by injection h with h; subst h; simp⟩
    obtain ⟨g1, e1, f1, ⟨t1, ht1⟩, c1⟩ := key
    obtain ⟨gs, e2, f2, ⟨t2, ht2⟩, c2⟩ := ih (by omega) g1 f1
    refine ⟨gs, ?_, f2, ⟨t1 ++ t2, by rw [ht2, ht1, List.append_assoc]⟩, fun k x h1 h2 h3 => ?_⟩
    · unfold rowN; rw [e1]; exact e2
    · by_cases e : k = 8 - m
      · subst e
        have := c1 x h3
        rw [ht2]; exact List.mem_append_left _ this
      · exact c2 k x (by omega) h2 h3
theorem runN_all {step : Int → Nat → Option Int} {lim : Nat} {Q : Int → Prop} (H : NumH step lim Q) : ∀ (m p : Nat) (fs : List Int), FsI Q fs → lim + 1 ≤ m + p → p ≤ fs.length → (∀ i (h : i < fs.length), i < p → ∀ k x, k < 9 → step fs[i] k = some x → x ∈ fs) →
    ∃ gs, runN step lim m p fs = some gs ∧ FsI Q gs ∧ (∃ t, gs = fs ++ t) ∧ ∀ s ∈ gs, ∀ k x, k < 9 → step s k = some x → x ∈ gs := by
  intro m
  induction m with
  | zero =>
    intro p fs hf hm hp hc
    have := H.room fs hf
    exact ⟨fs, rfl, hf, ⟨[], by simp⟩, fun s hs k x hk hx => by
      obtain ⟨i, hi, rfl⟩ := List.getElem_of_mem hs
      exact hc i hi (by omega) k x hk hx⟩
  | succ m ih =>
    intro p fs hf hm hp hc
    by_cases hlt : p < fs.length
    · rw [runN_at step lim m p fs hlt]
      obtain ⟨g1, e1, f1, ⟨t1, ht1⟩, c1⟩ := rowN_all H fs[p] (hf.2 _ (List.getElem_mem hlt)) 9 (Nat.le_refl _) fs hf
      rw [e1]
      obtain ⟨gs, e2, f2, ⟨t2, ht2⟩, c2⟩ := ih (p + 1) g1 f1 (by omega) (by rw [ht1, List.length_append]; omega) (fun i hi hip k x hk hx => by
        subst ht1
        by_cases hif : i < fs.length
        · rw [List.getElem_append_left hif] at hx
          by_cases e : i = p
          · subst e; exact c1 k x (by omega) hk hx
          · exact List.mem_append_left _ (hc i hif (by omega) k x hk hx)
        · omega)
      exact ⟨gs, e2, f2, ⟨t1 ++ t2, by rw [ht2, ht1, List.append_assoc]⟩, c2⟩
    · rw [runN_end step lim (m + 1) p fs (by omega)]
      exact ⟨fs, rfl, hf, ⟨[], by simp⟩, fun s hs k x hk hx => by
        obtain ⟨i, hi, rfl⟩ := List.getElem_of_mem hs
        exact hc i hi (by omega) k x hk hx⟩
theorem numN_all {step : Int → Nat → Option Int} {lim : Nat} {Q : Int → Prop} (H : NumH step lim Q) (s0 : Int) (h0 : Q s0) : ∃ fs, numN step lim s0 = some fs ∧ FsI Q fs ∧ s0 ∈ fs ∧ ∀ s ∈ fs, ∀ k x, k < 9 → step s k = some x → x ∈ fs := by
  obtain ⟨gs, e, f, ⟨t, ht⟩, c⟩ := runN_all H (lim + 1) 0 [s0] ⟨by simp, fun x hx => by simp at hx; subst hx; exact h0⟩ (by omega) (by simp) (fun i hi h => by omega)
  exact ⟨gs, e, f, by rw [ht]; simp, c⟩
/-! the live part of an automaton -/
def stepF (A : Aut) (f : Nat → Bool) (s : Int) (k : Nat) : Option Int := if 0 ≤ nextA A.nx s k ∧ f (nextA A.nx s k).toNat = true then some (nextA A.nx s k) else none
theorem stepF_some {A : Aut} {f : Nat → Bool} {s x : Int} {k : Nat} (h : stepF A f s k = some x) : 0 ≤ x ∧ nextA A.nx s k = x ∧ f x.toNat = true := by
  unfold stepF at h
  split at h
  · rename_i e; injection h with h; subst h; exact ⟨e.1, rfl, e.2⟩
  · cases h
theorem stepF_is {A : Aut} {f : Nat → Bool} {s : Int} {k t : Nat} (h : nextA A.nx s k = (t : Int)) (hf : f t = true) : stepF A f s k = some (t : Int) := by
  unfold stepF; rw [h, if_pos ⟨by omega, by simpa using hf⟩]
theorem stepF_no {A : Aut} {f : Nat → Bool} {s : Int} {k : Nat} (h : nextA A.nx s k = -1) : stepF A f s k = none := by
  unfold stepF; rw [h, if_neg (by omega)]
theorem stepF_dead {A : Aut} {f : Nat → Bool} {s : Int} {k t : Nat} (h : nextA A.nx s k = (t : Int)) (hf : f t = false) : stepF A f s k = none := by
  unfold stepF; rw [h, if_neg (by simp [hf])]
def InA (A : Aut) (s : Int) : Prop := 0 ≤ s ∧ s < (A.ac.length : Int)
theorem next_lt {A : Aut} (h : ValidA A) {s : Int} (hs : InA A s) {k : Nat} (hk : k < 9) : -1 ≤ nextA A.nx s k ∧ nextA A.nx s k < (A.ac.length : Int) := by
  obtain ⟨_, _, _, h1, h2⟩ := nextA_in h s (k : Int) hs (by simp [inB]; omega)
  exact ⟨h1, h2⟩
theorem numH_live {A : Aut} (h : ValidA A) (f : Nat → Bool) {lim : Nat} (hl : A.ac.length ≤ lim) : NumH (stepF A f) lim (InA A) :=
  ⟨fun s k x hk hs hx => by
    obtain ⟨h1, h2, _⟩ := stepF_some hx
    have := next_lt h hs hk
    exact ⟨h1, by omega⟩, fun fs hf => Nat.le_trans (pigeon_le hf.1 hf.2) hl⟩
/-- The live states that are reached are those that are found through live states. -/
theorem useful_iff {A : Aut} (h : ValidA A) {f g : Nat → Bool} (hf : ∀ s, f s = true ↔ LiveP A s) (hg : ∀ s, g s = true ↔ RchP A s) {fs : List Int} (hs0 : A.st ∈ fs) (hin : ∀ x ∈ fs, InA A x)
    (hc : ∀ s ∈ fs, ∀ k x, k < 9 → stepF A f s k = some x → x ∈ fs) (hr : ∀ x ∈ fs, RchP A x.toNat) (s : Nat) (hs : s < A.ac.length) : (decide ((s : Int) ∈ fs) && f s) = (g s && f s) := by
  cases e : f s with
  | false => simp
  | true =>
    rw [Bool.and_true, Bool.and_true, Bool.eq_iff_iff, decide_eq_true_iff, hg]
    refine ⟨fun k => hr _ k, fun k => ?_⟩
    have hst := h.2.2.1
    have hQ : (LiveP A s → (s : Int) ∈ fs) := by
      refine LeastP.ind (R := rchR A) (n := A.ac.length) (B0 := startL A) (Q := fun t => LiveP A t → (t : Int) ∈ fs) (by rw [startL_length]; exact Nat.le_refl _) rchR_lt ?_ ?_ hs k
      · intro t ht _
        rw [startL_at (by omega), decide_eq_true_iff] at ht
        rw [ht, Int.toNat_of_nonneg hst.1]; exact hs0
      · intro t k2 x y ht hk hR hx hy
        obtain ⟨h1, rfl⟩ := rchR_inv hR
        obtain ⟨h2, h3, h4⟩ := tgt_lt h1
        have hlx : LiveP A x := LeastP.step h2 hk (liveR_of h1) hy
        exact hc x (hx hlx) k2 y hk (stepF_is h4 ((hf y).2 hy))
    exact hQ ((hf s).1 e)
theorem found_rch {A : Aut} (h : ValidA A) {f : Nat → Bool} : NumH (stepF A f) A.ac.length (fun x => InA A x ∧ RchP A x.toNat) :=
  ⟨fun s k x hk hs hx => by
    obtain ⟨h1, h2, _⟩ := stepF_some hx
    have h3 := next_lt h hs.1 hk
    refine ⟨⟨h1, by omega⟩, ?_⟩
    have hsn : s.toNat < A.ac.length := by have := hs.1; unfold InA at this; omega
    have hse : ((s.toNat : Nat) : Int) = s := by have := hs.1; unfold InA at this; omega
    have ht : tgt A s.toNat k = some x.toNat := tgt_some hsn (by rw [hse, h2]; omega) (by omega)
    exact LeastP.step hsn hk (rchR_of ht) hs.2, fun fs hf => pigeon_le hf.1 (fun x hx => (hf.2 x hx).1)⟩
def usefulL (f g : Nat → Bool) (n : Nat) : List Int := ((List.range n).filter fun s => g s && f s).map fun (s : Nat) => (s : Int)
theorem usefulL_step (f g : Nat → Bool) (n : Nat) : usefulL f g (n + 1) = usefulL f g n ++ (if (g n && f n) = true then [(n : Int)] else []) := by
  unfold usefulL
  rw [List.range_succ, List.filter_append, List.map_append]
  congr 1
  have e : List.filter (fun s => g s && f s) [n] = if (g n && f n) = true then [n] else [] := by
    by_cases h : (g n && f n) = true
    · rw [if_pos h]; exact List.filter_cons_of_pos (p := fun s => g s && f s) h
    · rw [if_neg h]; exact List.filter_cons_of_neg (p := fun s => g s && f s) h
  rw [e]
  split <;> rfl
theorem usefulL_len (f g : Nat → Bool) (n : Nat) : (usefulL f g n).length ≤ n := by
  unfold usefulL
  rw [List.length_map]
  exact Nat.le_trans (List.length_filter_le _ _) (by simp)
end Go.Proofs.Ytmaagihfjldgeaa

/- What numbering found, where it was not refused: different states, closed, not too many. -/
namespace Go.Proofs.Ytmaagihfjldgeaa
set_option maxRecDepth 100000
set_option linter.unusedVariables false
set_option linter.unusedSimpArgs false

theorem addN_some {Q : Int → Prop} {lim : Nat} {fs gs : List Int} {o : Option Int} (h : addN lim fs o = some gs) (hf : FsI Q fs) (ho : ∀ x, o = some x → Q x) :
    FsI Q gs ∧ (∃ t, gs = fs ++ t) ∧ (∀ x, o = some x → x ∈ gs) ∧ (fs.length ≤ lim → gs.length ≤ lim) := by
  cases o with
  | none =>
    simp [addN] at h
    subst h
    exact ⟨hf, ⟨[], by simp⟩, fun x e => (by cases e), id⟩
  | some x =>
    unfold addN at h
    simp only at h
    by_cases hx : x ∈ fs
    · rw [if_pos hx] at h
      injection h with h
      subst h
      exact ⟨hf, ⟨[], by simp⟩, fun y e => (by injection e with e; subst e; exact hx), id⟩
    · rw [if_neg hx] at h
      by_cases hl : fs.length = lim
      · rw [if_pos hl] at h; cases h
      · rw [if_neg hl] at h
        injection h with h
        subst h
        exact ⟨hf.snoc hx (ho x rfl), ⟨[x], rfl⟩, fun y e => (by injection e with e; subst e; simp), fun k => by simp; omega⟩
theorem rowN_some {step : Int → Nat → Option Int} {Q : Int → Prop} {lim : Nat} (hQ : ∀ s k x, k < 9 → Q s → step s k = some x → Q x) {s : Int} (hs : Q s) : ∀ m, m ≤ 9 → ∀ fs gs, FsI Q fs → rowN step lim s m fs = some gs →
    FsI Q gs ∧ (∃ t, gs = fs ++ t) ∧ (∀ k x, 9 - m ≤ k → k < 9 → step s k = some x → x ∈ gs) ∧ (fs.length ≤ lim → gs.length ≤ lim)
  | 0, _, fs, gs, hf, h => by
    simp [rowN] at h
    subst h
    exact ⟨hf, ⟨[], by simp⟩, fun k x h1 h2 => by omega, id⟩
  | m + 1, hm, fs, gs, hf, h => by
    unfold rowN at h
    cases e : addN lim fs (step s (8 - m)) with
    | none => rw [e] at h; cases h
    | some g1 =>
      rw [e] at h
      obtain ⟨f1, ⟨t1, ht1⟩, c1, l1⟩ := addN_some e hf (fun x hx => hQ s (8 - m) x (by omega) hs hx)
      obtain ⟨f2, ⟨t2, ht2⟩, c2, l2⟩ := rowN_some hQ hs m (by omega) g1 gs f1 h
      refine ⟨f2, ⟨t1 ++ t2, by rw [ht2, ht1, List.append_assoc]⟩, fun k x h1 h2 h3 => ?_, fun k => l2 (l1 k)⟩
      by_cases ek : k = 8 - m
      · subst ek
        have := c1 x h3
        rw [ht2]; exact List.mem_append_left _ this
      · exact c2 k x (by omega) h2 h3
theorem runN_some {step : Int → Nat → Option Int} {Q : Int → Prop} {lim : Nat} (hQ : ∀ s k x, k < 9 → Q s → step s k = some x → Q x) : ∀ m p fs gs, FsI Q fs → fs.length ≤ lim → lim + 1 ≤ m + p → p ≤ fs.length →
    (∀ i (h : i < fs.length), i < p → ∀ k x, k < 9 → step fs[i] k = some x → x ∈ fs) → runN step lim m p fs = some gs →
    FsI Q gs ∧ (∃ t, gs = fs ++ t) ∧ (∀ s ∈ gs, ∀ k x, k < 9 → step s k = some x → x ∈ gs) ∧ gs.length ≤ lim
  | 0, p, fs, gs, hf, hl, hm, hp, hc, h => by
    simp [runN] at h
    subst h
    exact ⟨hf, ⟨[], by simp⟩, fun s hs k x hk hx => by
      obtain ⟨i, hi, rfl⟩ := List.getElem_of_mem hs
      exact hc i hi (by omega) k x hk hx, hl⟩
  | m + 1, p, fs, gs, hf, hl, hm, hp, hc, h => by
    by_cases hlt : p < fs.length
    · rw [runN_at step lim m p fs hlt] at h
      cases e : rowN step lim fs[p] 9 fs with
      | none => rw [e] at h; cases h
      | some g1 =>
        rw [e] at h
        obtain ⟨f1, ⟨t1, ht1⟩, c1, l1⟩ := rowN_some hQ (hf.2 _ (List.getElem_mem hlt)) 9 (Nat.le_refl _) fs g1 hf e
        obtain ⟨f2, ⟨t2, ht2⟩, c2, l2⟩ := runN_some hQ m (p + 1) g1 gs f1 (l1 hl) (by omega) (by rw [ht1, List.length_append]; omega) (fun i hi hip k x hk hx => by
          subst ht1
          by_cases hif : i < fs.length
          · rw [List.getElem_append_left hif] at hx
            by_cases e : i = p
            · subst e; exact c1 k x (by omega) hk hx
            · exact List.mem_append_left _ (hc i hif (by omega) k x hk hx)
          · omega) h
        exact ⟨f2, ⟨t1 ++ t2, by rw [ht2, ht1, List.append_assoc]⟩, c2, l2⟩
    · rw [runN_end step lim (m + 1) p fs (by omega)] at h
      injection h with h
      subst h
      exact ⟨hf, ⟨[], by simp⟩, fun s hs k x hk hx => by
        obtain ⟨i, hi, rfl⟩ := List.getElem_of_mem hs
        exact hc i hi (by omega) k x hk hx, hl⟩
theorem numN_some {step : Int → Nat → Option Int} {Q : Int → Prop} {lim : Nat} (hQ : ∀ s k x, k < 9 → Q s → step s k = some x → Q x) (hl : 1 ≤ lim) {s0 : Int} (h0 : Q s0) {fs : List Int} (h : numN step lim s0 = some fs) :
    FsI Q fs ∧ s0 ∈ fs ∧ (∀ s ∈ fs, ∀ k x, k < 9 → step s k = some x → x ∈ fs) ∧ fs.length ≤ lim := by
  obtain ⟨f, ⟨t, ht⟩, c, l⟩ := runN_some hQ (lim + 1) 0 [s0] fs ⟨by simp, fun x hx => by simp at hx; subst hx; exact h0⟩ (by simpa using hl) (by omega) (by simp) (fun i hi h => by omega) h
  exact ⟨f, by rw [ht]; simp, c, l⟩
end Go.Proofs.Ytmaagihfjldgeaa

/- Classes of states: refining them until nothing changes; as plain data. -/
namespace Go.Proofs.Ytmaagihfjldgeaa
set_option maxRecDepth 100000
set_option linter.unusedVariables false
set_option linter.unusedSimpArgs false

/-- The place of a value in a list. -/
def posG {α : Type} [DecidableEq α] : List α → α → Nat
  | [], _ => 0
  | y :: ys, x => if y = x then 0 else posG ys x + 1
theorem posG_lt {α : Type} [DecidableEq α] : ∀ (l : List α) (x : α), x ∈ l → posG l x < l.length
  | y :: ys, x, h => by
    unfold posG
    by_cases e : y = x
    · rw [if_pos e]; simp
    · rw [if_neg e]
      have := posG_lt ys x (by
        rcases List.mem_cons.1 h with h | h
        · exact absurd h.symm e
        · exact h)
      simp; omega
theorem posG_get {α : Type} [DecidableEq α] : ∀ (l : List α) (x : α) (h : x ∈ l), l[posG l x]'(posG_lt l x h) = x
  | y :: ys, x, h => by
    by_cases e : y = x
    · have : posG (y :: ys) x = 0 := by unfold posG; rw [if_pos e]
      simp only [this, List.getElem_cons_zero]
      exact e
    · have h2 : x ∈ ys := by
        rcases List.mem_cons.1 h with h | h
        · exact absurd h.symm e
        · exact h
      have : posG (y :: ys) x = posG ys x + 1 := by rw [posG]; rw [if_neg e]
      simp only [this, List.getElem_cons_succ]
      exact posG_get ys x h2
theorem posG_app {α : Type} [DecidableEq α] : ∀ (l t : List α) (x : α), x ∈ l → posG (l ++ t) x = posG l x
  | y :: ys, t, x, h => by
    rw [List.cons_append]
    unfold posG
    by_cases e : y = x
    · rw [if_pos e, if_pos e]
    · rw [if_neg e, if_neg e, posG_app ys t x (by
        rcases List.mem_cons.1 h with h | h
        · exact absurd h.symm e
        · exact h)]
theorem posG_new {α : Type} [DecidableEq α] : ∀ (l : List α) (x : α), x ∉ l → posG (l ++ [x]) x = l.length
  | [], x, h => by simp [posG]
  | y :: ys, x, h => by
    have h1 : y ≠ x := fun e => h (by simp [e])
    have h2 : x ∉ ys := fun e => h (by simp [e])
    rw [List.cons_append]
    unfold posG
    rw [if_neg h1, posG_new ys x h2]; rfl
theorem posG_inj {α : Type} [DecidableEq α] {l : List α} {x y : α} (hx : x ∈ l) (hy : y ∈ l) (e : posG l x = posG l y) : x = y := by
  have h1 := posG_get l x hx
  have h2 := posG_get l y hy
  simp only [e] at h1
  rw [← h1]; exact h2
theorem posG_at {α : Type} [DecidableEq α] : ∀ (l : List α), l.Nodup → ∀ i (h : i < l.length), posG l l[i] = i
  | y :: ys, hd, 0, h => by simp [posG]
  | y :: ys, hd, i + 1, h => by
    obtain ⟨h1, h2⟩ := List.nodup_cons.1 hd
    have hi : i < ys.length := by simpa using h
    have hne : y ≠ ys[i] := fun e => h1 (by rw [e]; exact List.getElem_mem hi)
    rw [List.getElem_cons_succ]
    unfold posG
    rw [if_neg hne, posG_at ys h2 i hi]
theorem posG_alike {α β : Type} [DecidableEq α] [DecidableEq β] {f : Nat → α} {g : Nat → β} (s : Nat) : ∀ (fs : List Nat), (∀ t ∈ fs, f t = f s ↔ g t = g s) → posG (fs.map f) (f s) = posG (fs.map g) (g s)
  | [], _ => rfl
  | t :: fs, h => by
    have ih := posG_alike s fs (fun u hu => h u (by simp [hu]))
    have h0 := h t (by simp)
    simp only [List.map_cons]
    unfold posG
    by_cases e : f t = f s
    · rw [if_pos e, if_pos (h0.1 e)]
    · rw [if_neg e, if_neg (fun k => e (h0.2 k)), ih]
theorem mem_alike {α β : Type} {f : Nat → α} {g : Nat → β} (s : Nat) (fs : List Nat) (h : ∀ t ∈ fs, f t = f s ↔ g t = g s) : f s ∈ fs.map f ↔ g s ∈ fs.map g := by
  simp only [List.mem_map]
  exact ⟨fun ⟨t, ht, e⟩ => ⟨t, ht, (h t ht).1 e⟩, fun ⟨t, ht, e⟩ => ⟨t, ht, (h t ht).2 e⟩⟩
/-! numbering states by a key, in the order of the first ones; lv: whether a state has a number at all -/
section
variable {α : Type} [DecidableEq α]
/-- The first states of the keys among those below s, and the numbers. -/
def cutF (lv : Nat → Bool) (f : Nat → α) : Nat → List Nat
  | 0 => []
  | s + 1 => if lv s = true then (if f s ∈ (cutF lv f s).map f then cutF lv f s else cutF lv f s ++ [s]) else cutF lv f s
def cutN (lv : Nat → Bool) (f : Nat → α) (s : Nat) : Int := if lv s = true then (posG ((cutF lv f (s + 1)).map f) (f s) : Int) else -1
def cutO (lv : Nat → Bool) (f : Nat → α) (n : Nat) : List Int := (List.range n).map (cutN lv f)
variable {lv : Nat → Bool} {f : Nat → α}
theorem cutO_length (lv : Nat → Bool) (f : Nat → α) (n : Nat) : (cutO lv f n).length = n := by simp [cutO]
theorem cutO_at (lv : Nat → Bool) (f : Nat → α) (n s : Nat) (h : s < (cutO lv f n).length) : (cutO lv f n)[s] = cutN lv f s := by simp [cutO]
theorem cutO_step (lv : Nat → Bool) (f : Nat → α) (n : Nat) : cutO lv f (n + 1) = cutO lv f n ++ [cutN lv f n] := by unfold cutO; rw [List.range_succ, List.map_append]; rfl
theorem cutF_dead {s : Nat} (h : lv s = false) : cutF lv f (s + 1) = cutF lv f s := by
  conv => lhs; unfold cutF
  rw [h]; rfl
theorem cutF_old {s : Nat} (h : lv s = true) (hx : f s ∈ (cutF lv f s).map f) : cutF lv f (s + 1) = cutF lv f s := by
  conv => lhs; unfold cutF
  rw [if_pos h, if_pos hx]
theorem cutF_new {s : Nat} (h : lv s = true) (hx : f s ∉ (cutF lv f s).map f) : cutF lv f (s + 1) = cutF lv f s ++ [s] := by
  conv => lhs; unfold cutF
  rw [if_pos h, if_neg hx]
theorem cutN_dead {s : Nat} (h : lv s = false) : cutN lv f s = -1 := by unfold cutN; rw [h]; rfl
theorem cutN_old {s : Nat} (h : lv s = true) (hx : f s ∈ (cutF lv f s).map f) : cutN lv f s = (posG ((cutF lv f s).map f) (f s) : Int) := by unfold cutN; rw [if_pos h, cutF_old h hx]
theorem cutN_new {s : Nat} (h : lv s = true) (hx : f s ∉ (cutF lv f s).map f) : cutN lv f s = ((cutF lv f s).length : Int) := by
  unfold cutN; rw [if_pos h, cutF_new h hx, List.map_append, List.map_cons, List.map_nil, posG_new _ _ hx, List.length_map]
theorem cutF_pre (lv : Nat → Bool) (f : Nat → α) : ∀ s t, s ≤ t → ∃ u, cutF lv f t = cutF lv f s ++ u := by
  intro s t h
  induction t with
  | zero => obtain rfl : s = 0 := by omega
            exact ⟨[], by simp⟩
  | succ t ih =>
    by_cases e : s = t + 1
    · subst e; exact ⟨[], by simp⟩
    · obtain ⟨u, hu⟩ := ih (by omega)
      cases hl : lv t with
      | false => exact ⟨u, by rw [cutF_dead hl, hu]⟩
      | true =>
        by_cases hx : f t ∈ (cutF lv f t).map f
        · exact ⟨u, by rw [cutF_old hl hx, hu]⟩
        · exact ⟨u ++ [t], by rw [cutF_new hl hx, hu, List.append_assoc]⟩
theorem cutF_has {s : Nat} (h : lv s = true) : f s ∈ (cutF lv f (s + 1)).map f := by
  by_cases hx : f s ∈ (cutF lv f s).map f
  · rw [cutF_old h hx]; exact hx
  · rw [cutF_new h hx]; simp
theorem cutF_has' {s n : Nat} (h : lv s = true) (hn : s < n) : f s ∈ (cutF lv f n).map f := by
  obtain ⟨u, hu⟩ := cutF_pre lv f (s + 1) n hn
  rw [hu, List.map_append]
  exact List.mem_append_left _ (cutF_has h)
/-- The number, told by the list of all first states. -/
theorem cutN_is {s n : Nat} (h : lv s = true) (hn : s < n) : cutN lv f s = (posG ((cutF lv f n).map f) (f s) : Int) := by
  obtain ⟨u, hu⟩ := cutF_pre lv f (s + 1) n hn
  unfold cutN
  rw [if_pos h, hu, List.map_append, posG_app _ _ _ (cutF_has h)]
theorem cutF_nodup (lv : Nat → Bool) (f : Nat → α) : ∀ n, ((cutF lv f n).map f).Nodup
  | 0 => by simp [cutF]
  | n + 1 => by
    have ih := cutF_nodup lv f n
    cases hl : lv n with
    | false => rw [cutF_dead hl]; exact ih
    | true =>
      by_cases hx : f n ∈ (cutF lv f n).map f
      · rw [cutF_old hl hx]; exact ih
      · rw [cutF_new hl hx, List.map_append, List.nodup_append]
        refine ⟨ih, by simp, fun a ha b hb => ?_⟩
        simp at hb; subst hb
        intro e; subst e; exact hx ha
theorem cutF_lt (lv : Nat → Bool) (f : Nat → α) : ∀ n, ∀ t ∈ cutF lv f n, t < n ∧ lv t = true
  | 0, t, h => by simp [cutF] at h
  | n + 1, t, h => by
    cases hl : lv n with
    | false => rw [cutF_dead hl] at h; have := cutF_lt lv f n t h; exact ⟨by omega, this.2⟩
    | true =>
      by_cases hx : f n ∈ (cutF lv f n).map f
      · rw [cutF_old hl hx] at h; have := cutF_lt lv f n t h; exact ⟨by omega, this.2⟩
      · rw [cutF_new hl hx] at h
        rcases List.mem_append.1 h with h | h
        · have := cutF_lt lv f n t h; exact ⟨by omega, this.2⟩
        · simp at h; subst h; exact ⟨by omega, hl⟩
theorem cutF_len (lv : Nat → Bool) (f : Nat → α) : ∀ n, (cutF lv f n).length ≤ n
  | 0 => by simp [cutF]
  | n + 1 => by
    have ih := cutF_len lv f n
    cases hl : lv n with
    | false => rw [cutF_dead hl]; omega
    | true =>
      by_cases hx : f n ∈ (cutF lv f n).map f
      · rw [cutF_old hl hx]; omega
      · rw [cutF_new hl hx, List.length_append]; simp; omega
theorem cutF_inj {n s t : Nat} (hs : s ∈ cutF lv f n) (ht : t ∈ cutF lv f n) (e : f s = f t) : s = t := by
  have hd := cutF_nodup lv f n
  obtain ⟨i, hi, rfl⟩ := List.getElem_of_mem hs
  obtain ⟨j, hj, rfl⟩ := List.getElem_of_mem ht
  have h1 := posG_at _ hd i (by simpa using hi)
  have h2 := posG_at _ hd j (by simpa using hj)
  simp only [List.getElem_map] at h1 h2
  rw [e] at h1
  have : i = j := h1.symm.trans h2
  subst this; rfl
/-- Two states have one number if and only if they have one key. -/
theorem cutN_eq {s t n : Nat} (hs : lv s = true) (ht : lv t = true) (hsn : s < n) (htn : t < n) : cutN lv f s = cutN lv f t ↔ f s = f t := by
  rw [cutN_is hs hsn, cutN_is ht htn]
  constructor
  · intro e
    exact posG_inj (cutF_has' hs hsn) (cutF_has' ht htn) (by omega)
  · intro e; rw [e]
theorem cutN_nonneg {s : Nat} (h : lv s = true) : 0 ≤ cutN lv f s := by unfold cutN; rw [if_pos h]; omega
theorem cutN_lt {s n : Nat} (h : lv s = true) (hn : s < n) : cutN lv f s < (n : Int) := by
  rw [cutN_is h hn]
  have h1 := posG_lt _ _ (cutF_has' (f := f) h hn)
  have h2 := cutF_len lv f n
  rw [List.length_map] at h1
  omega
theorem cutN_neg {s : Nat} : cutN lv f s < 0 ↔ lv s = false := by
  cases h : lv s with
  | false => rw [cutN_dead h]; simp
  | true => have := cutN_nonneg (f := f) h; simp; omega
theorem cutN_range {s n : Nat} (hn : s < n) : -1 ≤ cutN lv f s ∧ cutN lv f s < (n : Int) := by
  cases h : lv s with
  | false => rw [cutN_dead h]; omega
  | true => have := cutN_nonneg (f := f) h; have := cutN_lt (f := f) h hn; omega
end
/-- Keys that tell the same states apart give the same numbers. -/
theorem cut_alike {α β : Type} [DecidableEq α] [DecidableEq β] {lv : Nat → Bool} {f : Nat → α} {g : Nat → β} {n : Nat} (h : ∀ s t, s < n → t < n → lv s = true → lv t = true → (f s = f t ↔ g s = g t)) : ∀ m, m ≤ n → cutF lv f m = cutF lv g m
  | 0, _ => rfl
  | m + 1, hm => by
    have ih := cut_alike h m (by omega)
    cases hl : lv m with
    | false => rw [cutF_dead hl, cutF_dead hl, ih]
    | true =>
      have hk : ∀ t ∈ cutF lv f m, f t = f m ↔ g t = g m := fun t ht => by
        have := cutF_lt lv f m t ht
        exact h t m (by omega) (by omega) this.2 hl
      have hmem := mem_alike m (cutF lv f m) hk
      rw [ih] at hmem
      by_cases hx : f m ∈ (cutF lv f m).map f
      · rw [cutF_old hl hx, cutF_old hl (hmem.1 (by rw [← ih]; exact hx)), ih]
      · rw [cutF_new hl hx, cutF_new hl (fun k => hx (by rw [ih]; exact hmem.2 k)), ih]
theorem cutO_alike {α β : Type} [DecidableEq α] [DecidableEq β] {lv : Nat → Bool} {f : Nat → α} {g : Nat → β} {n : Nat} (h : ∀ s t, s < n → t < n → lv s = true → lv t = true → (f s = f t ↔ g s = g t)) : cutO lv f n = cutO lv g n := by
  have hF := cut_alike h n (Nat.le_refl _)
  unfold cutO
  refine List.map_congr_left fun s hs => ?_
  have hsn := List.mem_range.1 hs
  cases hl : lv s with
  | false => rw [cutN_dead hl, cutN_dead hl]
  | true =>
    rw [cutN_is hl hsn, cutN_is hl hsn, hF]
    congr 1
    refine posG_alike s _ (fun t ht => ?_)
    have := cutF_lt lv g n t ht
    exact h t s this.1 hsn this.2 hl
/-- A finer key has more first states; as many: the same numbers. -/
theorem cutF_sub {α β : Type} [DecidableEq α] [DecidableEq β] {lv : Nat → Bool} {f : Nat → α} {g : Nat → β} {n : Nat} (h : ∀ s t, s < n → t < n → lv s = true → lv t = true → g s = g t → f s = f t) : ∀ m, m ≤ n → (cutF lv f m).Sublist (cutF lv g m)
  | 0, _ => by simp [cutF]
  | m + 1, hm => by
    have ih := cutF_sub h m (by omega)
    cases hl : lv m with
    | false => rw [cutF_dead hl, cutF_dead hl]; exact ih
    | true =>
      by_cases hx : f m ∈ (cutF lv f m).map f
      · rw [cutF_old hl hx]
        by_cases hy : g m ∈ (cutF lv g m).map g
        · rw [cutF_old hl hy]; exact ih
        · rw [cutF_new hl hy]; exact ih.trans (List.sublist_append_left _ _)
      · have hy : g m ∉ (cutF lv g m).map g := fun k => by
          obtain ⟨t, ht, e⟩ := List.mem_map.1 k
          have ht2 := cutF_lt lv g m t ht
          have e2 := h t m (by omega) (by omega) ht2.2 hl e
          exact hx (by rw [← e2]; exact cutF_has' ht2.2 ht2.1)
        rw [cutF_new hl hx, cutF_new hl hy]
        exact List.Sublist.append ih (List.Sublist.refl _)
theorem cut_finer {α β : Type} [DecidableEq α] [DecidableEq β] {lv : Nat → Bool} {f : Nat → α} {g : Nat → β} {n : Nat} (h : ∀ s t, s < n → t < n → lv s = true → lv t = true → g s = g t → f s = f t) : (cutF lv f n).length ≤ (cutF lv g n).length ∧ ((cutF lv g n).length ≤ (cutF lv f n).length → cutO lv g n = cutO lv f n) := by
  have hs := cutF_sub h n (Nat.le_refl _)
  refine ⟨hs.length_le, fun hl => ?_⟩
  have hE : cutF lv f n = cutF lv g n := hs.eq_of_length_le hl
  refine cutO_alike fun s t hsn htn hls hlt => ⟨h s t hsn htn hls hlt, fun e => ?_⟩
  obtain ⟨a, ha, ea⟩ := List.mem_map.1 (cutF_has' (f := g) hls hsn)
  obtain ⟨b, hb, eb⟩ := List.mem_map.1 (cutF_has' (f := g) hlt htn)
  have ha2 := cutF_lt lv g n a ha
  have hb2 := cutF_lt lv g n b hb
  have fa := h a s ha2.1 hsn ha2.2 hls ea
  have fb := h b t hb2.1 htn hb2.2 hlt eb
  have : a = b := cutF_inj (lv := lv) (f := f) (n := n) (by rw [hE]; exact ha) (by rw [hE]; exact hb) (by rw [fa, fb, e])
  rw [← ea, ← eb, this]
/-! the classes of an automaton's states -/
def clC (cls : List Int) (t : Int) : Int := (cls[t.toNat]?).getD 0
theorem clC_at (cls : List Int) (t : Nat) (h : t < cls.length) : clC cls (t : Int) = cls[t] := by unfold clC; rw [Int.toNat_natCast, List.getElem?_eq_getElem h]; rfl
def sgC (nx : List (List Int)) (cls : List Int) (s : Int) (k : Nat) : Int := if nextA nx s k < 0 then -1 else clC cls (nextA nx s k)
/-- A state's class, and those of the states behind it. -/
def sigC (nx : List (List Int)) (cls : List Int) (s : Nat) : List Int := clC cls (s : Int) :: (List.range 9).map (sgC nx cls (s : Int))
theorem sigC_length (nx : List (List Int)) (cls : List Int) (s : Nat) : (sigC nx cls s).length = 10 := by simp [sigC]
def refC (A : Aut) (lv : Nat → Bool) (cls : List Int) : List Int := cutO lv (sigC A.nx cls) A.ac.length
/-- The classes to begin with: what the empty word tells apart. -/
def iniC (A : Aut) (lv : Nat → Bool) : List Int := (List.range A.ac.length).map fun s => if lv s = true then (if at0 A.ac s = true then 1 else 0) else -1
def itR (A : Aut) (lv : Nat → Bool) : Nat → List Int
  | 0 => iniC A lv
  | i + 1 => refC A lv (itR A lv i)
/-- .. until nothing changes. -/
def fixC (A : Aut) (lv : Nat → Bool) : Nat → List Int → List Int
  | 0, c => c
  | m + 1, c => if refC A lv c = c then c else fixC A lv m (refC A lv c)
def clsA (A : Aut) (lv : Nat → Bool) : List Int := fixC A lv (A.ac.length + 1) (iniC A lv)
theorem iniC_length (A : Aut) (lv : Nat → Bool) : (iniC A lv).length = A.ac.length := by simp [iniC]
theorem iniC_at (A : Aut) (lv : Nat → Bool) (s : Nat) (h : s < A.ac.length) : clC (iniC A lv) (s : Int) = if lv s = true then (if at0 A.ac s = true then 1 else 0) else -1 := by
  rw [clC_at _ s (by rw [iniC_length]; exact h)]; simp [iniC]
theorem refC_length (A : Aut) (lv : Nat → Bool) (cls : List Int) : (refC A lv cls).length = A.ac.length := cutO_length _ _ _
theorem refC_at (A : Aut) (lv : Nat → Bool) (cls : List Int) (s : Nat) (h : s < A.ac.length) : clC (refC A lv cls) (s : Int) = cutN lv (sigC A.nx cls) s := by
  rw [clC_at _ s (by rw [refC_length]; exact h)]; exact cutO_at _ _ _ _ _
theorem itR_length (A : Aut) (lv : Nat → Bool) : ∀ i, (itR A lv i).length = A.ac.length
  | 0 => iniC_length A lv
  | i + 1 => refC_length A lv _
theorem sigC_head {nx : List (List Int)} {cls : List Int} {s t : Nat} (h : sigC nx cls s = sigC nx cls t) : clC cls (s : Int) = clC cls (t : Int) := by
  unfold sigC at h
  exact (List.cons.inj h).1
theorem sigC_step {nx : List (List Int)} {cls : List Int} {s t : Nat} (h : sigC nx cls s = sigC nx cls t) (k : Nat) (hk : k < 9) : sgC nx cls (s : Int) k = sgC nx cls (t : Int) k := by
  unfold sigC at h
  have h2 := (List.cons.inj h).2
  have := congrArg (·[k]?) h2
  simpa [hk] using this
/-- How many classes there are after i rounds and one more. -/
def kC (A : Aut) (lv : Nat → Bool) (i : Nat) : Nat := (cutF lv (sigC A.nx (itR A lv i)) A.ac.length).length
theorem kC_step (A : Aut) (lv : Nat → Bool) (i : Nat) : kC A lv i ≤ kC A lv (i + 1) ∧ (kC A lv (i + 1) ≤ kC A lv i → refC A lv (itR A lv (i + 1)) = itR A lv (i + 1)) := by
  refine cut_finer (n := A.ac.length) (f := sigC A.nx (itR A lv i)) (g := sigC A.nx (itR A lv (i + 1))) fun s t hs ht hls hlt e => ?_
  have h1 := sigC_head e
  rw [show itR A lv (i + 1) = refC A lv (itR A lv i) from rfl, refC_at _ _ _ _ hs, refC_at _ _ _ _ ht] at h1
  exact (cutN_eq hls hlt hs ht).1 h1
theorem itR_dead {A : Aut} {lv : Nat → Bool} (h : ∀ s, s < A.ac.length → lv s = false) : refC A lv (iniC A lv) = iniC A lv := by
  apply List.ext_getElem
  · rw [refC_length, iniC_length]
  · intro s h1 h2
    rw [refC_length] at h1
    have a := refC_at A lv (iniC A lv) s h1
    have b := iniC_at A lv s h1
    rw [clC_at _ s (by rw [refC_length]; exact h1)] at a
    rw [clC_at _ s (by rw [iniC_length]; exact h1)] at b
    rw [a, b, cutN_dead (h s h1), h s h1]; rfl
/-- Within as many rounds as there are states nothing changes. -/
theorem itR_stop (A : Aut) (lv : Nat → Bool) (i : Nat) (h : ∀ j, j ≤ i → refC A lv (itR A lv j) ≠ itR A lv j) : i < A.ac.length := by
  have hlive : ∃ s, s < A.ac.length ∧ lv s = true := by
    refine Decidable.byContradiction fun hn => ?_
    refine h 0 (Nat.zero_le _) (itR_dead fun s hs => ?_)
    cases e : lv s with
    | false => rfl
    | true => exact absurd ⟨s, hs, e⟩ hn
  obtain ⟨s, hs, hls⟩ := hlive
  have h0 : 1 ≤ kC A lv 0 := by
    have := cutF_has' (f := sigC A.nx (itR A lv 0)) hls hs
    unfold kC
    have h2 := List.length_pos_of_mem this
    rw [List.length_map] at h2
    exact h2
  have key : ∀ j, j ≤ i → j + 1 ≤ kC A lv j := by
    intro j
    induction j with
    | zero => intro _; exact h0
    | succ j ih =>
      intro hj
      have h1 := ih (by omega)
      obtain ⟨h2, h3⟩ := kC_step A lv j
      have h4 : ¬ kC A lv (j + 1) ≤ kC A lv j := fun k => h (j + 1) hj (h3 k)
      omega
  have := key i (Nat.le_refl _)
  have h5 := cutF_len lv (sigC A.nx (itR A lv i)) A.ac.length
  unfold kC at this
  omega
theorem fixC_go (A : Aut) (lv : Nat → Bool) (i : Nat) (hi : i < A.ac.length + 1) (h : ∀ j, j < i → refC A lv (itR A lv j) ≠ itR A lv j) : fixC A lv (A.ac.length + 1 - i) (itR A lv i) = clsA A lv := by
  induction i with
  | zero => rfl
  | succ i ih =>
    have h1 := ih (by omega) (fun j hj => h j (by omega))
    rw [← h1, show A.ac.length + 1 - i = (A.ac.length + 1 - (i + 1)) + 1 from by omega]
    conv => rhs; unfold fixC
    rw [if_neg (h i (by omega))]; rfl
/-- Where nothing changes, these are the classes. -/
theorem clsA_at (A : Aut) (lv : Nat → Bool) (i : Nat) (hi : i < A.ac.length + 1) (h : ∀ j, j < i → refC A lv (itR A lv j) ≠ itR A lv j) (hf : refC A lv (itR A lv i) = itR A lv i) : clsA A lv = itR A lv i := by
  rw [← fixC_go A lv i hi h, show A.ac.length + 1 - i = (A.ac.length - i) + 1 from by omega]
  unfold fixC
  rw [if_pos hf]
theorem clsA_ex (A : Aut) (lv : Nat → Bool) : ∃ i, i ≤ A.ac.length ∧ clsA A lv = itR A lv i ∧ refC A lv (itR A lv i) = itR A lv i := by
  have key : ∀ m i, i + m = A.ac.length + 1 → (∀ j, j < i → refC A lv (itR A lv j) ≠ itR A lv j) → ∃ i, i ≤ A.ac.length ∧ clsA A lv = itR A lv i ∧ refC A lv (itR A lv i) = itR A lv i := by
    intro m
    induction m with
    | zero =>
      intro i hi h
      have := itR_stop A lv (i - 1) (fun j hj => h j (by omega))
      omega
    | succ m ih =>
      intro i hi h
      by_cases e : refC A lv (itR A lv i) = itR A lv i
      · exact ⟨i, by omega, clsA_at A lv i (by omega) h e, e⟩
      · exact ih (i + 1) (by omega) (fun j hj => by
          by_cases e2 : j = i
          · subst e2; exact e
          · exact h j (by omega))
  exact key (A.ac.length + 1) 0 (by omega) (fun j hj => by omega)
theorem clsA_fix (A : Aut) (lv : Nat → Bool) : refC A lv (clsA A lv) = clsA A lv := by
  obtain ⟨i, _, h1, h2⟩ := clsA_ex A lv
  rw [h1]; exact h2
theorem clsA_length (A : Aut) (lv : Nat → Bool) : (clsA A lv).length = A.ac.length := by
  obtain ⟨i, _, h1, _⟩ := clsA_ex A lv
  rw [h1]; exact itR_length A lv i
theorem clsA_cut (A : Aut) (lv : Nat → Bool) (s : Nat) (h : s < A.ac.length) : clC (clsA A lv) (s : Int) = cutN lv (sigC A.nx (clsA A lv)) s := by
  have := refC_at A lv (clsA A lv) s h
  rw [clsA_fix] at this
  exact this
theorem clsA_range (A : Aut) (lv : Nat → Bool) (s : Nat) (h : s < A.ac.length) : -1 ≤ clC (clsA A lv) (s : Int) ∧ clC (clsA A lv) (s : Int) < (A.ac.length : Int) := by
  rw [clsA_cut A lv s h]; exact cutN_range h
theorem clsA_live (A : Aut) (lv : Nat → Bool) (s : Nat) (h : s < A.ac.length) : clC (clsA A lv) (s : Int) < 0 ↔ lv s = false := by
  rw [clsA_cut A lv s h]; exact cutN_neg
/-- States of one class have classes behind them that are the same. -/
theorem clsA_same (A : Aut) (lv : Nat → Bool) {s t : Nat} (hs : s < A.ac.length) (ht : t < A.ac.length) (hls : lv s = true) (hlt : lv t = true) (e : clC (clsA A lv) (s : Int) = clC (clsA A lv) (t : Int)) (k : Nat) (hk : k < 9) : sgC A.nx (clsA A lv) (s : Int) k = sgC A.nx (clsA A lv) (t : Int) k := by
  rw [clsA_cut A lv s hs, clsA_cut A lv t ht] at e
  exact sigC_step ((cutN_eq hls hlt hs ht).1 e) k hk
theorem itR_ini (A : Aut) (lv : Nat → Bool) {s t : Nat} (hs : s < A.ac.length) (ht : t < A.ac.length) (hls : lv s = true) (hlt : lv t = true) : ∀ i, clC (itR A lv i) (s : Int) = clC (itR A lv i) (t : Int) → clC (iniC A lv) (s : Int) = clC (iniC A lv) (t : Int)
  | 0, h => h
  | i + 1, h => by
    rw [show itR A lv (i + 1) = refC A lv (itR A lv i) from rfl, refC_at _ _ _ _ hs, refC_at _ _ _ _ ht] at h
    exact itR_ini A lv hs ht hls hlt i (sigC_head ((cutN_eq hls hlt hs ht).1 h))
/-- .. and accept alike. -/
theorem clsA_acc (A : Aut) (lv : Nat → Bool) {s t : Nat} (hs : s < A.ac.length) (ht : t < A.ac.length) (hls : lv s = true) (hlt : lv t = true) (e : clC (clsA A lv) (s : Int) = clC (clsA A lv) (t : Int)) : at0 A.ac s = at0 A.ac t := by
  obtain ⟨i, _, h1, _⟩ := clsA_ex A lv
  rw [h1] at e
  have := itR_ini A lv hs ht hls hlt i e
  rw [iniC_at A lv s hs, iniC_at A lv t ht, hls, hlt] at this
  cases h2 : at0 A.ac s <;> cases h3 : at0 A.ac t <;> simp [h2, h3] at this ⊢
end Go.Proofs.Ytmaagihfjldgeaa
