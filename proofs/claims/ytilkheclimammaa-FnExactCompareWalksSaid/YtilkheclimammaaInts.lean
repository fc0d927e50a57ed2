/- Slices of ints: how they read; the laws' own copies, comparisons, marks. -/
import Derived.Test.YtilkheclimammaaRows1
import Derived.Deep.QuietTactic
namespace Go.Proofs.Ytilkheclimammaa
set_option maxRecDepth 100000
open Go.ChangeShapes Go.WideShapes Go.ChangeAt Go.RowKit

theorem heap_lt {w : World} {k : Nat} {o : Obj} (h : w.heap[k]? = some o) : k < w.heap.size := (Array.getElem?_eq_some_iff.1 h).1
theorem made_ints (n : Nat) : (madeCells (Value.int IntKind.i64 0).cells (n * 1)).toList = List.replicate n (.int .i64 0) := by
  rw [Nat.mul_one]; exact toList_madeCells_one _ n
theorem Since.drewN {w w' : World} (h : Since w w') (n : Nat) : Since w (w'.drewN n) := ⟨h.os, h.tape, h.output, h.size, h.block⟩
def icell (x : Int) : Value := .int .i64 x
def InI (x : Int) : Prop := -9223372036854775808 ≤ x ∧ x ≤ 9223372036854775807
/-- v is a slice that reads as xs. -/
def IntsAt (w : World) (v : Value) (xs : List Int) : Prop :=
  (∀ x ∈ xs, InI x) ∧ ((xs = [] ∧ ∃ ao cap, v = .slice ao 0 cap) ∨ ∃ b off cap, v = .slice (some ⟨b, off, none⟩) xs.length cap ∧ b < w.heap.size ∧ ∀ i (h : i < xs.length), w.cell? ⟨b, off + i, none⟩ = some (.int .i64 xs[i]))
theorem IntsAt.since {w w' : World} {v : Value} {xs : List Int} (h : IntsAt w v xs) (k : Since w w') : IntsAt w' v xs := by
  obtain ⟨h1, h2 | ⟨b, off, cap, h2, h3, h4⟩⟩ := h
  · exact ⟨h1, .inl h2⟩
  · exact ⟨h1, .inr ⟨b, off, cap, h2, Nat.lt_of_lt_of_le h3 k.size, fun i hi => (Below.cell k (p := ⟨b, off + i, none⟩) h3).trans (h4 i hi)⟩⟩
theorem IntsAt.grown {w w' : World} {v : Value} {xs : List Int} {row : Option Nat} (h : IntsAt w v xs) (k : w.grownBy w' row) (hr : v.ownBlock = none ∨ v.ownBlock ≠ row) : IntsAt w' v xs := by
  obtain ⟨h1, h2 | ⟨b, off, cap, h2, h3, h4⟩⟩ := h
  · exact ⟨h1, .inl h2⟩
  · refine ⟨h1, .inr ⟨b, off, cap, h2, Nat.lt_of_lt_of_le h3 k.size, fun i hi => ?_⟩⟩
    rw [World.cell?_of_block (w := w) (w' := w') (a := ⟨b, off + i, none⟩) (k.block b h3 (fun e => by subst h2; rcases hr with hr | hr <;> simp [Value.ownBlock] at hr; exact hr e))]
    exact h4 i hi
/-- v is a slice of the call's own (of a block from base on) that reads as xs. -/
def Own (base : Nat) (w : World) (v : Value) (xs : List Int) : Prop :=
  (∀ x ∈ xs, InI x) ∧ w.ownsRow base 3 1 v xs.length (xs.map icell)
theorem Own.at {base : Nat} {w : World} {v : Value} {xs : List Int} (h : Own base w v xs) : IntsAt w v xs := by
  obtain ⟨h1, h2⟩ := h
  have h2' := h2
  refine ⟨h1, ?_⟩
  rcases h2.2 with ⟨hv, hn⟩ | ⟨g, cap, cur, rfl, hb, hg, _⟩
  · exact .inl ⟨List.eq_nil_of_length_eq_zero hn, none, 0, hv⟩
  · refine .inr ⟨g, 0, cap, rfl, heap_lt hg, fun i hi => ?_⟩
    rw [Nat.zero_add, h2'.cellAt i (by omega)]
    simp [hi, icell]
theorem Own.mono {base base' : Nat} {w : World} {v : Value} {xs : List Int} (h : Own base w v xs) (hb : base' ≤ base) : Own base' w v xs := by
  obtain ⟨h1, h2, h3⟩ := h
  refine ⟨h1, h2, ?_⟩
  rcases h3 with h3 | ⟨g, cap, cur, a, b, c⟩
  · exact .inl h3
  · exact .inr ⟨g, cap, cur, a, Nat.le_trans hb b, c⟩
theorem Own.since {base : Nat} {w w' : World} {v : Value} {xs : List Int} (h : Own base w v xs) (k : Since w w') : Own base w' v xs := by
  obtain ⟨h1, h2, h3⟩ := h
  refine ⟨h1, h2, ?_⟩
  rcases h3 with h3 | ⟨g, cap, cur, a, b, c, d⟩
  · exact .inl h3
  · exact .inr ⟨g, cap, cur, a, b, (k.block g (heap_lt c)).trans c, d⟩
theorem info_int : (Try.prog.info? 3).map (fun i => (i.zero, i.size, i.bytes)) = some (some (.int .i64 0), 1, 8) := by kernel_rfl

theorem grow_tr {a b c : World} {row : Option Nat} (h : a.grownBy b row) (k : b.grownBy c row) : a.grownBy c row :=
  ⟨k.os.trans h.os, k.tape.trans h.tape, k.output.trans h.output, Nat.le_trans h.size k.size, fun i hi hn => (k.block i (Nat.lt_of_lt_of_le hi h.size) hn).trans (h.block i hi hn)⟩

def OwnOut (w : World) (xs : List Int) (e : Ending) (w' : World) : Prop := ∃ v, e = .returned v ∧ Own w.heap.size w' v xs ∧ Since w w'

set_option maxRecDepth 100000 in
theorem toIntS_any (v : Value) (xs : List Int) (w : World) (h : IntsAt w v xs) (hl : xs.length ≤ 1048577) :
    Calls Try.prog 74 #[v] w (OwnOut w xs) := by
  obtain ⟨i0, hi, hz0, hz1, hz2⟩ := info_parts info_int
  have HZ2 := Lib.hid hz2
  clear hz2
  obtain ⟨hin, ⟨rfl, ao, cap, rfl⟩ | ⟨b, off, cap, rfl, hb, hcell⟩⟩ := h
  · go_enter Try.func74, Try.ntmps74
    go_wp2_with (at_make; go_must (refine wpList_make_full _ rfl _ _ 24 rfl w.heap.size 3 i0 (.int .i64 0) 1 Try.underlying24 hi hz0 hz1 .i64 .i64 _ _ 0 rfl rfl rfl rfl (by rw [HZ2.out]; omega) (by unfold maxLen; omega) (Nat.le_refl _) ?_); intro w1 hown hgrow)
    have hsin : Since w w1 := (Since.refl w).grown hgrow (fun _ h => by simp at h)
    rw [made_ints] at hown
    go_loopw [4] (fun i wr => i = .int .i64 0 ∧ wr = w1) (fun _ _ => 0)
    case atStart => exact ⟨rfl, rfl⟩
    case round =>
      obtain ⟨rfl, rfl⟩ := hrel
      go_wp2
      go_ret
      exact ⟨_, rfl, ⟨fun x hx => by simp at hx, hown⟩, hsin⟩
  · have HIN := Lib.hid hin
    have HCELL := Lib.hid hcell
    clear hin hcell
    obtain ⟨n, hn⟩ : ∃ n, n = xs.length := ⟨_, rfl⟩
    rw [← hn]
    have hn9 : n ≤ 1048577 := by omega
    have HN := Lib.hid hn
    clear hn hl
    go_enter Try.func74, Try.ntmps74
    go_wp2_with (at_make; go_must (refine wpList_make_full _ rfl _ _ 24 rfl w.heap.size 3 i0 (.int .i64 0) 1 Try.underlying24 hi hz0 hz1 .i64 .i64 _ _ n rfl rfl rfl rfl (by rw [HZ2.out]; omega) (by unfold maxLen; omega) (Nat.le_refl _) ?_); intro w1 hown hgrow)
    have hsin : Since w w1 := (Since.refl w).grown hgrow (fun _ h => by simp at h)
    have hrow : w1.ownsRow w.heap.size 3 1 (.slice (some ⟨w.heap.size, 0, none⟩) n n) n (filled (xs.map icell) (icell 0) 0) := by
      rw [filled_zero, List.length_map, ← HN.out]
      rw [made_ints] at hown
      exact hown
    clear hown hgrow
    go_loopw [4] (fun i wr => ∃ k : Nat, k ≤ n ∧ i = .int .i64 k ∧ wr.ownsRow w.heap.size 3 1 (.slice (some ⟨w.heap.size, 0, none⟩) n n) n (filled (xs.map icell) (icell 0) k) ∧ Since w wr) (fun i _ => n - (intOf i).toNat)
    case atStart => exact ⟨0, Nat.zero_le _, rfl, hrow, hsin⟩
    case round =>
      obtain ⟨k, hk, rfl, hown, hsin⟩ := hrel
      by_cases hlt : k < n
      · have hkx : k < xs.length := by have := HN.out; omega
        have hsrc : wr.cell? ⟨b, off + k, none⟩ = some (.int .i64 xs[k]) := (Below.cell hsin (p := ⟨b, off + k, none⟩) hb).trans (HCELL.out k hkx)
        have hdst : (wr.cell? ⟨w.heap.size, k, none⟩) = some (icell 0) := (hown.cellAt k (by omega)).trans (filled_at _ _ k (by simpa using hkx))
        unfold icell at hdst
        have hfz := hown.frozenAt k
        have hst := (hown.stored k (.int .i64 xs[k])).1
        have hfs := filled_set (xs.map icell) (icell 0) k (by simpa using hkx)
        rw [List.getElem_map] at hfs
        rw [show (Value.int .i64 xs[k]) = icell xs[k] from rfl, hfs] at hst
        have HST := Lib.hid hst
        clear hst hfs
        go_wp2
        go_roundw
        case rel => exact ⟨k + 1, by omega, by go_num, HST.out, hsin.setCell (Nat.le_refl _) _⟩
        case measure => simp [intOf]; omega
      · obtain rfl : k = n := by omega
        have hfin := filled_all (xs.map icell) (icell 0) k (by rw [List.length_map, ← HN.out]; exact Nat.le_refl _)
        rw [hfin] at hown
        go_wp2
        go_ret
        exact ⟨_, rfl, ⟨HIN.out, by rw [← HN.out]; exact hown⟩, hsin⟩

theorem take_eq_step {xs ys : List Int} (k : Nat) (h1 : k < xs.length) (h2 : k < ys.length) (h : xs.take k = ys.take k) (he : xs[k] = ys[k]) : xs.take (k + 1) = ys.take (k + 1) := by
  rw [List.take_succ_eq_append_getElem h1, List.take_succ_eq_append_getElem h2, h, he]
theorem ne_of_at {xs ys : List Int} (k : Nat) (h1 : k < xs.length) (h2 : k < ys.length) (he : xs[k] ≠ ys[k]) : xs ≠ ys := by
  intro e; subst e; exact he rfl

set_option maxRecDepth 100000 in
theorem eqIntS_any (a b : Value) (xs ys : List Int) (w : World) (ha : IntsAt w a xs) (hb : IntsAt w b ys) (hl : xs.length ≤ 4611686018427387904) (hl2 : ys.length ≤ 4611686018427387904) :
    Calls Try.prog 36 #[a, b] w fun e w' => e = .returned (.bool (decide (xs = ys))) ∧ Since w w' := by
  by_cases hlen : xs.length = ys.length
  · obtain ⟨_, ⟨rfl, ao, cap, rfl⟩ | ⟨b1, off1, cap1, rfl, hb1, hc1⟩⟩ := ha
    · obtain rfl : ys = [] := List.eq_nil_of_length_eq_zero hlen.symm
      obtain ⟨_, ⟨_, ao2, cap2, rfl⟩ | ⟨b2, off2, cap2, rfl, hb2, hc2⟩⟩ := hb
      all_goals
        go_enter Try.func36, Try.ntmps36
        go_wp2
        go_loopw [5] (fun i wr => i = .int .i64 0 ∧ wr = w) (fun _ _ => 0)
        case atStart => exact ⟨rfl, rfl⟩
        case round =>
          obtain ⟨rfl, rfl⟩ := hrel
          go_wp2
          go_ret
          exact ⟨by simp, Since.refl _⟩
    · obtain ⟨_, ⟨rfl, ao2, cap2, rfl⟩ | ⟨b2, off2, cap2, rfl, hb2, hc2⟩⟩ := hb
      · obtain rfl : xs = [] := List.eq_nil_of_length_eq_zero hlen
        go_enter Try.func36, Try.ntmps36
        go_wp2
        go_loopw [5] (fun i wr => i = .int .i64 0 ∧ wr = w) (fun _ _ => 0)
        case atStart => exact ⟨rfl, rfl⟩
        case round =>
          obtain ⟨rfl, rfl⟩ := hrel
          go_wp2
          go_ret
          exact ⟨by simp, Since.refl _⟩
      · have HC1 := Lib.hid hc1
        have HC2 := Lib.hid hc2
        clear hc1 hc2
        rw [← hlen]
        obtain ⟨n, hn⟩ : ∃ n, n = xs.length := ⟨_, rfl⟩
        rw [← hn]
        have hn9 : n ≤ 4611686018427387904 := by omega
        have HN := Lib.hid hn
        have HN2 : Hid (n = ys.length) := by rw [hn]; exact hlen
        have HNE : (((n : Nat) : Int) != ((n : Nat) : Int)) = false := by simp
        clear hn hlen hl hl2
        go_enter Try.func36, Try.ntmps36
        go_wp2
        go_loopw [5] (fun i wr => ∃ k : Nat, k ≤ n ∧ i = .int .i64 k ∧ Hid (xs.take k = ys.take k) ∧ Since w wr) (fun i _ => n - (intOf i).toNat)
        case atStart => exact ⟨0, Nat.zero_le _, rfl, rfl, Since.refl w⟩
        case round =>
          obtain ⟨k, hk, rfl, HT, hsin⟩ := hrel
          by_cases hlt : k < n
          · have hx : k < xs.length := by have := HN.out; omega
            have hy : k < ys.length := by have := HN2.out; omega
            have h1 : wr.cell? ⟨b1, off1 + k, none⟩ = some (.int .i64 xs[k]) := (Below.cell hsin (p := ⟨b1, off1 + k, none⟩) hb1).trans (HC1.out k hx)
            have h2 : wr.cell? ⟨b2, off2 + k, none⟩ = some (.int .i64 ys[k]) := (Below.cell hsin (p := ⟨b2, off2 + k, none⟩) hb2).trans (HC2.out k hy)
            have hki : (k : Int) < (n : Int) := by omega
            have hk0 : (0 : Int) ≤ (k : Int) := by omega
            by_cases he : xs[k] = ys[k]
            · have HE : Hid (xs.take (k + 1) = ys.take (k + 1)) := take_eq_step k hx hy HT.out he
              rw [← he] at h2
              have hb0 : (xs[k] != xs[k]) = false := by simp
              clear he
              go_wp2
              go_quiet (fail)
              go_wp2
              go_roundw
              case rel => exact ⟨k + 1, by omega, by go_num, HE, hsin.drewN _⟩
              case measure => simp [intOf]; omega
            · have HE : Hid (decide (xs = ys) = false) := by unfold Hid; simpa using ne_of_at k hx hy he
              have hb0 : (xs[k] != ys[k]) = true := by simpa using he
              clear he
              go_wp2
              go_quiet (fail)
              go_wp2
              go_ret
              exact ⟨ret_bool HE.out.symm, hsin.drewN _⟩
          · obtain rfl : k = n := by omega
            have HE : Hid (decide (xs = ys) = true) := by
              have := HT.out
              rw [List.take_of_length_le (by have := HN.out; omega), List.take_of_length_le (by have := HN2.out; omega)] at this
              unfold Hid; simpa using this
            go_wp2
            go_ret
            exact ⟨ret_bool HE.out.symm, hsin⟩
  · have HE : Hid (decide (xs = ys) = false) := by unfold Hid; simp; intro e; rw [e] at hlen; exact hlen rfl
    have hne : ((xs.length : Int) != (ys.length : Int)) = true := by simp; omega
    have va : ∃ ao c, a = .slice ao xs.length c := by
      obtain ⟨_, ⟨rfl, ao, cap, rfl⟩ | ⟨b1, off1, cap1, rfl, hb1, hc1⟩⟩ := ha
      · exact ⟨_, _, rfl⟩
      · exact ⟨_, _, rfl⟩
    have vb : ∃ ao c, b = .slice ao ys.length c := by
      obtain ⟨_, ⟨rfl, ao, cap, rfl⟩ | ⟨b1, off1, cap1, rfl, hb1, hc1⟩⟩ := hb
      · exact ⟨_, _, rfl⟩
      · exact ⟨_, _, rfl⟩
    obtain ⟨ao, c, rfl⟩ := va
    obtain ⟨ao2, c2, rfl⟩ := vb
    obtain ⟨n, hn⟩ : ∃ n, n = xs.length := ⟨_, rfl⟩
    obtain ⟨m, hm⟩ : ∃ m, m = ys.length := ⟨_, rfl⟩
    rw [← hn, ← hm] at hne ⊢
    have hn9 : n ≤ 4611686018427387904 := by omega
    have hm9 : m ≤ 4611686018427387904 := by omega
    clear hn hm ha hb hlen hl hl2
    go_enter Try.func36, Try.ntmps36
    go_wp2
    go_ret
    exact ⟨ret_bool HE.out.symm, Since.refl _⟩

/-- What markIntS writes: k, k + 1, .. -/
def count (k : Int) (n : Nat) : List Int := (List.range n).map fun (i : Nat) => k + (i : Int)
theorem count_length (k : Int) (n : Nat) : (count k n).length = n := by simp [count]
theorem count_at (k : Int) (n i : Nat) (h : i < n) : (count k n)[i]'(by rw [count_length]; exact h) = k + (i : Int) := by simp [count]
/-- a row xs of which the first j are written. -/
def marked (xs : List Int) (k : Int) (j : Nat) : List Value := (count k j).map icell ++ (xs.drop j).map icell
theorem marked_zero (xs : List Int) (k : Int) : marked xs k 0 = xs.map icell := by simp [marked, count]
theorem marked_all (xs : List Int) (k : Int) : marked xs k xs.length = (count k xs.length).map icell := by simp [marked]
theorem marked_set (xs : List Int) (k : Int) (j : Nat) (h : j < xs.length) : (marked xs k j).set j (.int .i64 (k + (j : Int))) = marked xs k (j + 1) := by
  unfold marked
  rw [List.set_append_right _ _ (by simp [count]), List.length_map, count_length, Nat.sub_self, List.drop_eq_getElem_cons h, List.map_cons, List.set_cons_zero]
  have : count k (j + 1) = count k j ++ [k + (j : Int)] := by simp [count, List.range_succ]
  rw [this, List.map_append, List.append_assoc]; rfl
theorem marked_at (xs : List Int) (k : Int) (j : Nat) (h : j < xs.length) : (marked xs k j)[j]? = some (icell xs[j]) := by
  unfold marked
  rw [List.getElem?_append_right (by simp [count]), List.length_map, count_length, Nat.sub_self, List.getElem?_map]
  simp [h]

def MarkOut (base : Nat) (w : World) (v : Value) (k : Int) (n : Nat) (e : Ending) (w' : World) : Prop :=
  e = .returned (.int .i64 (k + n)) ∧ Own base w' v (count k n) ∧ w.grownBy w' v.ownBlock

set_option maxRecDepth 100000 in
theorem markIntS_any (base : Nat) (v : Value) (xs : List Int) (k : Int) (w : World) (h : Own base w v xs) (hk0 : 0 ≤ k) (hk9 : k ≤ 2305843009213693952) (hl : xs.length ≤ 2305843009213693952) :
    Calls Try.prog 39 #[v, .int .i64 k] w (MarkOut base w v k xs.length) := by
  obtain ⟨_, hown⟩ := h
  have hcase : v = .slice none 0 0 ∧ xs.length = 0 ∨ ∃ g cap, v = .slice (some ⟨g, 0, none⟩) xs.length cap ∧ base ≤ g := by
    rcases hown.2 with ⟨a, b⟩ | ⟨g, cap, cur, a, b, _⟩
    · exact .inl ⟨a, b⟩
    · exact .inr ⟨g, cap, a, b⟩
  have hcin : ∀ n : Nat, n ≤ 2305843009213693952 → ∀ x ∈ count k n, InI x := by
    intro n hn x hx
    simp [count] at hx
    obtain ⟨i, hi, rfl⟩ := hx
    unfold InI; omega
  obtain ⟨n, hn⟩ : ∃ n, n = xs.length := ⟨_, rfl⟩
  rw [← hn] at hcase hown hl ⊢
  have hcn := hcin n (by omega)
  have HCN := Lib.hid hcn
  clear hcin hcn
  rcases hcase with ⟨rfl, hn0⟩ | ⟨g, cap, rfl, hg⟩
  · subst hn0
    clear hn hown
    go_enter Try.func39, Try.ntmps39
    go_wp2
    go_loopw [1, 5] (fun q i wr => q = .int .i64 k ∧ i = .int .i64 0 ∧ wr = w) (fun _ _ _ => 0)
    case atStart => exact ⟨rfl, rfl, rfl⟩
    case round =>
      obtain ⟨rfl, rfl, rfl⟩ := hrel
      go_wp2
      go_ret
      exact ⟨ret_int (by simp), ⟨HCN.out, by simp [count]; exact World.ownsRow_nil _ _ _ _⟩, ⟨rfl, rfl, rfl, Nat.le_refl _, fun _ _ _ => rfl⟩⟩
  · have hown0 : w.ownsRow base 3 1 (.slice (some ⟨g, 0, none⟩) n cap) n (marked xs k 0) := by rw [marked_zero]; exact hown
    clear hown
    have HN := Lib.hid hn
    clear hn
    go_enter Try.func39, Try.ntmps39
    go_wp2
    go_loopw [1, 5] (fun q i wr => ∃ j : Nat, j ≤ n ∧ i = .int .i64 j ∧ q = .int .i64 (k + j) ∧ wr.ownsRow base 3 1 (.slice (some ⟨g, 0, none⟩) n cap) n (marked xs k j) ∧ w.grownBy wr (some g)) (fun _ i _ => n - (intOf i).toNat)
    case atStart => exact ⟨0, Nat.zero_le _, rfl, by simp, hown0, ⟨rfl, rfl, rfl, Nat.le_refl _, fun _ _ _ => rfl⟩⟩
    case round =>
      obtain ⟨j, hj, rfl, rfl, hown, hgr⟩ := hrel
      by_cases hlt : j < n
      · have hx : j < xs.length := by have := HN.out; omega
        have hdst := (hown.cellAt j (by omega)).trans (marked_at xs k j hx)
        unfold icell at hdst
        have hfz := hown.frozenAt j
        have hst := hown.stored j (.int .i64 (k + (j : Int)))
        rw [marked_set xs k j hx] at hst
        have HST := Lib.hid hst.1
        have HG := Lib.hid (grow_tr hgr hst.2)
        clear hst
        go_wp2
        go_roundw
        case rel => exact ⟨j + 1, by omega, by go_num, by go_num, HST.out, HG.out⟩
        case measure => simp [intOf]; omega
      · obtain rfl : j = n := by omega
        have hr : marked xs k j = (count k j).map icell := by
          have := HN.out; subst this; exact marked_all xs k
        rw [hr] at hown
        go_wp2
        go_ret
        exact ⟨rfl, ⟨HCN.out, by rw [count_length]; exact hown⟩, hgr⟩

set_option maxRecDepth 100000 in
theorem heldIntS_any (v : Value) (k : Int) (n : Nat) (w : World) (h : IntsAt w v (count k n)) (hk0 : 0 ≤ k) (hk9 : k ≤ 2305843009213693952) (hl : n ≤ 2305843009213693952) :
    Calls Try.prog 40 #[v, .int .i64 k] w fun e w' => e = .returned (.int .i64 (k + n)) ∧ w = w' := by
  obtain ⟨_, ⟨hnil, ao, cap, rfl⟩ | ⟨b, off, cap, rfl, hb, hc⟩⟩ := h
  · obtain rfl : n = 0 := by have := congrArg List.length hnil; simpa [count] using this
    clear hnil
    go_enter Try.func40, Try.ntmps40
    go_wp2
    go_loop [1, 5] (fun q i => q = .int .i64 k ∧ i = .int .i64 0) (fun _ _ => 0)
    case atStart => exact ⟨rfl, rfl⟩
    case round =>
      obtain ⟨rfl, rfl⟩ := hrel
      go_wp2
      go_ret
      exact ⟨ret_int (by simp), rfl⟩
  · rw [count_length]
    have hc2 : ∀ i, i < n → w.cell? ⟨b, off + i, none⟩ = some (.int .i64 (k + (i : Int))) := fun i hi => by
      rw [hc i (by rw [count_length]; exact hi), count_at k n i hi]
    clear hc
    have HC := Lib.hid hc2
    clear hc2
    go_enter Try.func40, Try.ntmps40
    go_wp2
    go_loop [1, 5] (fun q i => ∃ j : Nat, j ≤ n ∧ i = .int .i64 j ∧ q = .int .i64 (k + j)) (fun _ i => n - (intOf i).toNat)
    case atStart => exact ⟨0, Nat.zero_le _, rfl, by simp⟩
    case round =>
      obtain ⟨j, hj, rfl, rfl⟩ := hrel
      by_cases hlt : j < n
      · have hcell := HC.out j hlt
        have hbe : (k + (j : Int) != k + (j : Int)) = false := by simp
        go_wp2
        go_round
        case rel => exact ⟨j + 1, by omega, by go_num, by go_num⟩
        case measure => simp [intOf]; omega
      · obtain rfl : j = n := by omega
        go_wp2
        go_ret
        exact ⟨rfl, rfl⟩
end Go.Proofs.Ytilkheclimammaa
