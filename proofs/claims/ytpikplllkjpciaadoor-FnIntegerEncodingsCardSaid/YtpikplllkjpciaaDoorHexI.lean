/- DecodeHex, the program's: it ranges over the runes of the string and fills a row of half its length. -/
import Derived.Test.YtpikplllkjpciaaDoorHexD
import Derived.Lib.OthersKept
namespace Go.Proofs.YtpikplllkjpciaaDoor
open Go.ChangeShapes Go.WideShapes Go.ChangeAt Go.RowKit

theorem hexValue_ok (b : UInt8) (w : World) (h : 0 ≤ hx b) :
    Calls Tryd.prog 27 #[.int .i32 (b.toNat : Int)] w fun e w' => e = .returned (.tuple #[.int .u8 (hx b), .bool true]) ∧ w = w' := by
  have hb := b.toNat_lt
  by_cases h1 : 48 ≤ b.toNat ∧ b.toNat ≤ 57
  · obtain ⟨h2, h3⟩ := h1
    have HX : Hid (hx b = (b.toNat : Int) - 48) := by unfold Hid hx; rw [if_pos ⟨h2, h3⟩]
    clear h
    go_enter Tryd.func27, Tryd.ntmps27
    go_wp2
    go_ret2
    exact ⟨by rw [HX.out]; rfl, rfl⟩
  · by_cases h4 : 97 ≤ b.toNat ∧ b.toNat ≤ 102
    · obtain ⟨h2, h3⟩ := h4
      have HX : Hid (hx b = (b.toNat : Int) - 97 + 10) := by unfold Hid hx; rw [if_neg h1, if_pos ⟨h2, h3⟩]; omega
      clear h h1
      go_enter Tryd.func27, Tryd.ntmps27
      go_wp2
      go_ret2
      exact ⟨by rw [HX.out]; rfl, rfl⟩
    · unfold hx at h; rw [if_neg h1, if_neg h4] at h; omega
theorem hexValue_bad (r : Int) (w : World) (h0 : 0 ≤ r) (h9 : r ≤ 2147483647) (h1 : r < 48 ∨ 57 < r) (h2 : r < 97 ∨ 102 < r) :
    Calls Tryd.prog 27 #[.int .i32 r] w fun e w' => e = .returned (.tuple #[.int .u8 0, .bool false]) ∧ w = w' := by
  by_cases a : r < 48
  · clear h1 h2
    go_enter Tryd.func27, Tryd.ntmps27
    go_wp2
    go_ret2
    exact ⟨rfl, rfl⟩
  · have a2 : 57 < r := by omega
    by_cases b : r < 97
    · clear h1 h2 a
      go_enter Tryd.func27, Tryd.ntmps27
      go_wp2
      go_ret2
      exact ⟨rfl, rfl⟩
    · have b2 : 102 < r := by omega
      clear h1 h2 a b
      go_enter Tryd.func27, Tryd.ntmps27
      go_wp2
      go_ret2
      exact ⟨rfl, rfl⟩

theorem own_iterAt {w : World} {base : Nat} {e : TypeId} {size : Nat} {v : Value} {n : Nat} {xs : List Value} (h : w.ownsRow base e size v n xs) {k : Nat} {s : ByteArray} {p : Nat} (hk : w.heap[k]? = some (.stringIter s p)) (p' : Nat) : (w.iterAt k s p').ownsRow base e size v n xs := by
  obtain ⟨h1, h2⟩ := h
  refine ⟨h1, ?_⟩
  rcases h2 with h2 | ⟨g, cap, cur, a, b, c, d⟩
  · exact .inl h2
  · refine .inr ⟨g, cap, cur, a, b, ?_, d⟩
    rw [Lib.iterAt_other _ _ _ _ _ (fun e => by rw [e, hk] at c; cases c)]
    exact c

/-- What byte j of the row holds when k digits have been read. -/
def pv (s : ByteArray) (k j : Nat) : Nat := if 2 * j + 2 ≤ k then 16 * dg s (2 * j) + dg s (2 * j + 1) else if 2 * j + 1 ≤ k then dg s (2 * j) else 0
def rowv (s : ByteArray) (m k : Nat) : List Value := (List.range m).map fun j => .int .u8 ((pv s k j : Nat) : Int)
theorem rowv_length (s : ByteArray) (m k : Nat) : (rowv s m k).length = m := by simp [rowv]
theorem rowv_at (s : ByteArray) (m k j : Nat) (h : j < m) : (rowv s m k)[j]? = some (.int .u8 ((pv s k j : Nat) : Int)) := by
  simp [rowv, h]
theorem pv_even (s : ByteArray) (i : Nat) : pv s (2 * i) i = 0 := by unfold pv; rw [if_neg (by omega), if_neg (by omega)]
theorem pv_odd (s : ByteArray) (i : Nat) : pv s (2 * i + 1) i = dg s (2 * i) := by unfold pv; rw [if_neg (by omega), if_pos (by omega)]
theorem rowv_zero (s : ByteArray) (m : Nat) : rowv s m 0 = List.replicate m (.int .u8 0) := by
  apply List.ext_getElem?
  intro j
  by_cases h : j < m
  · rw [rowv_at s m 0 j h, List.getElem?_replicate, if_pos h]
    unfold pv
    rw [if_neg (by omega), if_neg (by omega)]
    rfl
  · rw [List.getElem?_eq_none (by rw [rowv_length]; omega), List.getElem?_eq_none (by simp; omega)]
theorem rowv_step (s : ByteArray) (m k : Nat) (hk : k / 2 < m) (X : Int) (hX : X = ((pv s (k + 1) (k / 2) : Nat) : Int)) :
    (rowv s m k).set (k / 2) (.int .u8 X) = rowv s m (k + 1) := by
  subst hX
  apply List.ext_getElem?
  intro j
  by_cases h : j < m
  · by_cases e : k / 2 = j
    · subst e
      rw [List.getElem?_set_self (by rw [rowv_length]; exact hk), rowv_at s m (k + 1) _ h]
    · rw [List.getElem?_set_ne e, rowv_at s m k j h, rowv_at s m (k + 1) j h]
      congr 3
      unfold pv
      have hne : 2 * j + 1 ≠ k ∧ 2 * j ≠ k := by omega
      by_cases h2 : 2 * j + 2 ≤ k
      · rw [if_pos h2, if_pos (by omega)]
      · rw [if_neg h2, if_neg (by omega)]
        by_cases h4 : 2 * j + 2 ≤ k + 1
        · omega
        · rw [if_neg h4, if_neg (by omega)]
  · rw [List.getElem?_eq_none (by rw [List.length_set, rowv_length]; omega), List.getElem?_eq_none (by rw [rowv_length]; omega)]
theorem rowv_all (s : ByteArray) (m : Nat) : rowv s m (2 * m) = (pairs s m).map bcell := by
  apply List.ext_getElem?
  intro j
  by_cases h : j < m
  · rw [rowv_at s m _ j h]
    simp only [pairs, List.map_map]
    rw [List.getElem?_map, List.getElem?_range h]
    simp only [Option.map_some, Function.comp]
    have h1 := dg_lt s (2 * j)
    have h2 := dg_lt s (2 * j + 1)
    rw [bcell_ofNat _ (by omega)]
    unfold pv
    rw [if_pos (by omega)]
  · rw [List.getElem?_eq_none (by rw [rowv_length]; omega), List.getElem?_eq_none (by simp [pairs]; omega)]

theorem pv_next (s : ByteArray) (k : Nat) : pv s (k + 1) (k / 2) = pv s k (k / 2) * 16 + dg s k := by
  by_cases h : k % 2 = 0
  · obtain ⟨i, rfl⟩ : ∃ i, k = 2 * i := ⟨k / 2, by omega⟩
    rw [show 2 * i / 2 = i from by omega, pv_even, pv_odd]; omega
  · obtain ⟨i, rfl⟩ : ∃ i, k = 2 * i + 1 := ⟨k / 2, by omega⟩
    rw [show (2 * i + 1) / 2 = i from by omega, pv_odd]
    unfold pv
    rw [if_pos (by omega)]; omega
theorem pv_lt (s : ByteArray) (k : Nat) : pv s k (k / 2) < 16 := by
  by_cases h : k % 2 = 0
  · obtain ⟨i, rfl⟩ : ∃ i, k = 2 * i := ⟨k / 2, by omega⟩
    rw [show 2 * i / 2 = i from by omega, pv_even]; omega
  · obtain ⟨i, rfl⟩ : ∃ i, k = 2 * i + 1 := ⟨k / 2, by omega⟩
    rw [show (2 * i + 1) / 2 = i from by omega, pv_odd]
    exact dg_lt s _
theorem or_16 (o : Nat) (c : Int) (ho : o < 16) (h0 : 0 ≤ c) (h1 : c < 16) : bits .or .u8 ((o : Int) * 16) c = (o : Int) * 16 + c := by
  obtain ⟨c, rfl⟩ := Int.eq_ofNat_of_zero_le h0
  have := u8_or_nat (o * 16) c (by omega) (by omega)
  rw [or_hi 4 o c (by omega)] at this
  simpa using this
theorem own_ne_iter {W : World} {base : Nat} {e : TypeId} {size g n cap : Nat} {xs : List Value} (h : W.ownsRow base e size (.slice (some ⟨g, 0, none⟩) n cap) n xs) {k : Nat} {s : ByteArray} {p : Nat} (hk : W.heap[k]? = some (.stringIter s p)) : k ≠ g := by
  rcases h.2 with ⟨h', _⟩ | ⟨g', cap', cur, h', _, hg, _⟩
  · simp at h'
  · simp only [Value.slice.injEq, Option.some.injEq, Addr.mk.injEq, and_true, true_and] at h'
    obtain ⟨rfl, rfl⟩ := h'
    intro e1
    rw [e1, hg] at hk
    cases hk
open Classical in
noncomputable def outB (s : ByteArray) : Bool := decide (HexOk s)
open Classical in
noncomputable def outS (s : ByteArray) : ByteArray := if HexOk s then ⟨(pairs s (s.size / 2)).toArray⟩ else ⟨#[]⟩
theorem ret_ok {s : ByteArray} (h : HexOk s) {b : ByteArray} (hb : b = ⟨(pairs s (s.size / 2)).toArray⟩) : Ending.returned (.tuple #[.string b, .bool true]) = .returned (.tuple #[.string (outS s), .bool (outB s)]) := by
  unfold outS outB; rw [if_pos h, hb]; simp [h]
theorem ret_bad {s : ByteArray} (h : ¬ HexOk s) : Ending.returned (.tuple #[.string ⟨#[]⟩, .bool false]) = .returned (.tuple #[.string (outS s), .bool (outB s)]) := by
  unfold outS outB; rw [if_neg h]; simp [h]

set_option maxRecDepth 100000 in
theorem implDH_even (s : ByteArray) (w : World) (hs : s.size ≤ 1048576) (hev : s.size % 2 = 0) :
    Calls Tryd.prog 16 #[.string s] w fun e w' => e = .returned (.tuple #[.string (outS s), .bool (outB s)]) ∧ Since w w' := by
  obtain ⟨m, hm⟩ : ∃ m, s.size = 2 * m := ⟨s.size / 2, by omega⟩
  have hm2 : ((s.size : Int) % 2 != 0) = false := by simp; omega
  have hd2 : (s.size : Int) / 2 = (m : Int) := by omega
  have hm9 : m ≤ 1048576 := by omega
  have HM := Lib.hid hm
  have HEV := Lib.hid hev
  clear hm hev
  obtain ⟨i0, hi, hz0, hz1, hz2⟩ := info_parts info_u8
  have HZ2 := Lib.hid hz2
  clear hz2
  go_enter Tryd.func16, Tryd.ntmps16
  go_wp2_with (at_make; go_must (refine wpList_make_full _ rfl _ _ 22 rfl w.heap.size 5 i0 (.int .u8 0) 1 Tryd.underlying22 hi hz0 hz1 .i64 .i64 _ _ m rfl rfl rfl rfl (by rw [HZ2.out]; omega) (by unfold maxLen; omega) (Nat.le_refl _) ?_); intro w1 hown hgrow)
  have hsin : Since w w1 := (Since.refl w).grown hgrow (fun _ h => by simp at h)
  have hrow : (w1.alloc (.stringIter s 0)).ownsRow w.heap.size 5 1 (.slice (some ⟨w.heap.size, 0, none⟩) m m) m (rowv s m 0) := by
    rw [rowv_zero, ← toList_madeCells_one]
    have := hown
    rw [Nat.mul_one] at this
    exact World.ownsRow.alloc this _
  have hit : (w1.iter s 0).heap[w1.heap.size]? = some (.stringIter s 0) := World.iter_heap w1 s 0
  have hwl : w.heap.size ≤ w1.heap.size := hsin.lt
  clear hown hgrow
  go_loopw [5] (fun _ wr => ∃ k : Nat, k ≤ s.size ∧ wr.heap[w1.heap.size]? = some (.stringIter s k) ∧ wr.ownsRow w.heap.size 5 1 (.slice (some ⟨w.heap.size, 0, none⟩) m m) m (rowv s m k) ∧ Hid (∀ i (h : i < s.size), i < k → 0 ≤ hx s[i]) ∧ Since w wr) (fun _ wr => s.size - wr.iterPos w1.heap.size)
  case atStart => exact ⟨0, Nat.zero_le _, hit, hrow, fun i h h0 => by omega, hsin.alloc _⟩
  case round =>
    obtain ⟨k, hk, hit, hown, HP, hsin⟩ := hrel
    by_cases hlt : k < s.size
    · by_cases ha : s[k].toNat < 128
      · have hnx : ∀ ty, (Instr.next (.pointer (some ⟨w1.heap.size, 0, none⟩)) true ty).run Tryd.prog wr = _ := fun ty => Lib.run_next_ascii_at wr w1.heap.size s k ty hit hlt ha
        have hown1 := own_iterAt hown hit (k + 1)
        have hit1 := Lib.iterAt_heap wr w1.heap.size s k (k + 1) hit
        have hne := own_ne_iter hown1 hit1
        have hkm : k / 2 < m := by have := HM.out; omega
        have hcell := (hown1.cellAt (k / 2) (by omega)).trans (rowv_at s m k (k / 2) hkm)
        have hfz := hown1.frozenAt (k / 2)
        by_cases hneg : 0 ≤ hx s[k]
        · have HC := Lib.hid (fun W => hexValue_ok s[k] W hneg)
          have hx9 := hx_lt s[k]
          have HDG := Lib.hid (dg_at s k hlt hneg)
          obtain ⟨o, ho⟩ : ∃ o, o = pv s k (k / 2) := ⟨_, rfl⟩
          have ho9 : o < 16 := by rw [ho]; exact pv_lt s k
          rw [← ho] at hcell
          have HO := Lib.hid ho
          clear ho
          have hor := or_16 o (hx s[k]) ho9 hneg hx9
          have hst := hown1.stored (k / 2) (.int .u8 ((o : Int) * 16 + hx s[k]))
          rw [rowv_step s m k hkm _ (by rw [pv_next, ← HO.out, ← HDG.out]; omega)] at hst
          have HST := Lib.hid hst.1
          have HIT : Hid (((wr.iterAt w1.heap.size s (k + 1)).setCell ⟨w.heap.size, k / 2, none⟩ (.int .u8 ((o : Int) * 16 + hx s[k]))).heap[w1.heap.size]? = some (.stringIter s (k + 1))) :=
            (Below.heap_setCell _ ⟨w.heap.size, k / 2, none⟩ _ _ hne).trans hit1
          have HNE := Lib.hid hne
          have HIT0 := Lib.hid hit
          clear hst hne hit1 hown1
          go_wp2_with (go_at_call 27; refine (HC.out _).mono ?_; rintro e w' ⟨rfl, rfl⟩)
          go_roundw
          case rel => exact ⟨k + 1, by omega, HIT.out, HST.out, fun i h hik => by
            by_cases e : i = k
            · subst e; exact hneg
            · exact HP.out i h (by omega), (hsin.iterAt hwl s _).setCell (Nat.le_refl _) _⟩
          case measure => rw [iterPos_of HIT.out, iterPos_of HIT0.out]; omega
        · have HB : Hid (¬ HexOk s) := fun h => hneg (h.2 k hlt)
          have HC := Lib.hid (fun W => hexValue_bad (s[k].toNat : Int) W (by omega) (by omega) (by unfold hx at hneg; split at hneg <;> omega) (by unfold hx at hneg; split at hneg <;> (try split at hneg) <;> omega))
          clear hneg hcell hfz hne
          go_wp2_with (go_at_call 27; refine (HC.out _).mono ?_; rintro e w' ⟨rfl, rfl⟩)
          go_ret2
          exact ⟨ret_bad HB.out, hsin.iterAt hwl s _⟩
      · have hnx : ∀ ty, (Instr.next (.pointer (some ⟨w1.heap.size, 0, none⟩)) true ty).run Tryd.prog wr = _ := fun ty => Lib.run_next_any_at wr w1.heap.size s k ty hit hlt
        have hdh := (decode_high s k hlt (by omega)).1
        have hdl := decode_le s k
        have HB : Hid (¬ HexOk s) := fun h => by
          have := h.2 k hlt
          unfold hx at this
          rw [if_neg (by omega), if_neg (by omega)] at this
          omega
        have HC := Lib.hid (fun W => hexValue_bad ((Utf8.decode s k).1 : Int) W (by omega) (by omega) (by omega) (by omega))
        go_wp2_with (go_at_call 27; refine (HC.out _).mono ?_; rintro e w' ⟨rfl, rfl⟩)
        go_ret2
        exact ⟨ret_bad HB.out, hsin.iterAt hwl s _⟩
    · have hnx : ∀ ty, (Instr.next (.pointer (some ⟨w1.heap.size, 0, none⟩)) true ty).run Tryd.prog wr = _ := fun ty => Lib.run_next_end_at wr w1.heap.size s k ty hit hlt
      have hks : k = 2 * m := by have := HM.out; omega
      have hcv := row_string wr hown (pairs s m) (by rw [hks]; exact rowv_all s m)
      have HG : Hid (HexOk s) := ⟨HEV.out, fun i h => HP.out i h (by omega)⟩
      have HM2 : Hid (m = s.size / 2) := by have := HM.out; unfold Hid; omega
      clear hks
      go_wp2
      go_ret2
      exact ⟨ret_ok HG.out (by rw [HM2.out]), hsin⟩

theorem implDH_odd (s : ByteArray) (w : World) (_hs : s.size ≤ 1048576) (hodd : s.size % 2 = 1) :
    Calls Tryd.prog 16 #[.string s] w fun e w' => e = .returned (.tuple #[.string ⟨#[]⟩, .bool false]) ∧ Since w w' := by
  have hm : ((s.size : Int) % 2 != 0) = true := by simp; omega
  have HO := Lib.hid hodd
  clear hodd
  go_enter Tryd.func16, Tryd.ntmps16
  go_wp2
  go_ret2
  exact ⟨rfl, Since.refl w⟩
theorem implDH_any (s : ByteArray) (w : World) (hs : s.size ≤ 1048576) :
    Calls Tryd.prog 16 #[.string s] w fun e w' => e = .returned (.tuple #[.string (outS s), .bool (outB s)]) ∧ Since w w' := by
  by_cases h : s.size % 2 = 0
  · exact implDH_even s w hs h
  · rw [← ret_bad (fun x => h x.1)]; exact implDH_odd s w hs (by omega)
end Go.Proofs.YtpikplllkjpciaaDoor
