/- The drawing functions of chapter 1: what they may give. -/
import Derived.Test.YtpikplllkjpciaaDoorCur
import Derived.Test.YtpikplllkjpciaaDoorBytes
namespace Go.Proofs.YtpikplllkjpciaaDoor
open Go.ChangeShapes Go.WideShapes Go.ChangeAt Go.RowKit

/-- append of one cell to a row of the call's own, told by what it turns. -/
theorem append_turn {wr : World} {ops : Array Oper} {rest : List Oper} {o : Oper} {a : Act} {Q : Exit → Act → World → Prop}
    (hgd : o.guard = none) (s x : Operand) (t : TypeId) (ho : o.op = .call { callee := .builtin .append, args := #[s, x], argTypes := #[t, t] })
    (e : TypeId) (z : Value) (bytes : Nat) (ht : Tryd.prog.underlying t = some (.slice e))
    (hinfo : (Tryd.prog.info? e).map (fun i => (i.zero, i.size, i.bytes)) = some (some z, 1, bytes)) (hz : z.cells.size = 1)
    (base : Nat) (v : Value) (n : Nat) (xs : List Value) (hs : a.eval s = v) (hown : wr.ownsRow base e 1 v n xs) (hbase : base ≤ wr.heap.size)
    (y : Value) (hy : y.oneCell' = true) (hx : a.eval x = .slice (some ⟨wr.heap.size, 0, none⟩) 1 1)
    (hb : (n + 1) * bytes ≤ 140737488355328) (h63 : n + 1 ≤ maxLen)
    (h : ∀ v' w', w'.ownsRow base e 1 v' (n + 1) (xs ++ [y]) → wr.grownBy w' v.ownBlock → wpList Tryd.prog ops Q rest (a.put o.dst v') w') :
    wpList Tryd.prog ops Q (o :: rest) a (wr.alloc (.cells #[y] e)) := by
  obtain ⟨i0, hi, hz0, hz1, hz2⟩ := info_parts hinfo
  refine wpList_append_own _ hgd s x t ho base e i0 z 1 bytes ht hi hz0 hz1 hz2 hz (by decide) v n xs hs (hown.alloc _) ⟨wr.heap.size, 0, none⟩ 1 1 [y] hx rfl ?_ ?_ h63 hb ?_ ?_
  · intro j u hj
    match j, hj with
    | 0, hj => simp at hj; subst hj; simp [Addr.add]
  · intro u hu
    simp at hu; subst hu; exact hy
  · simp; omega
  · intro v' w' h1 h2 _
    exact h v' w' h1 (grow_trans (World.grownBy_alloc wr _ _) h2)

def TextOut (B cb most : Nat) (w : World) (e : Ending) (w' : World) : Prop := ∃ l : List UInt8, l.length ≤ most ∧ e = .returned (.string ⟨l.toArray⟩) ∧ Cur B w' cb ∧ Turn cb w w'

set_option maxRecDepth 100000 in
theorem l1Text_any (B cb most : Nat) (w : World) (hc : Cur B w cb) (hm : most ≤ 1000) :
    Calls Tryd.prog 23 #[.pointer (some ⟨cb, 0, none⟩), .int .i64 (most : Int)] w (TextOut B cb most w) := by
  have hcb := hc.2.1
  go_enter Tryd.func23, Tryd.ntmps23
  go_wp2_with fail
  refine (l1Below_any B cb 4 _ (hc.since ((Since.refl w).alloc _)) (by omega) (by omega)).mono ?_
  rintro e w1 ⟨style, hs0, hs9, rfl, hc1, ht1⟩
  go_wp2_with fail
  refine (l1Below_any B cb _ _ hc1 (by omega) (by omega)).mono ?_
  rintro e w2 ⟨n, hn0, hn9, rfl, hc2, ht2⟩
  have hown0 : (w.alloc (.cells #[] 5)).ownsRow w.heap.size 5 1 (.slice (some ⟨w.heap.size, 0, none⟩) 0 0) 0 [] := World.ownsRow_lit w _ 0 (Nat.le_refl _) (by decide) (by simp)
  have hne : some w.heap.size ≠ some cb := fun e => by injection e with e; omega
  have HOWN := Lib.hid ((hown0.kept ht1 (.inr hne)).kept ht2 (.inr hne))
  have HT := Lib.hid (((Turn.of_since ((Since.refl w).alloc _)).trans ht1).trans ht2)
  clear hown0 ht1 ht2 hc1 hc
  have HC2 := Lib.hid hc2
  clear hc2 hne
  go_wp2_with fail
  have hne : Hid (some w.heap.size ≠ some cb) := fun e => by injection e with e; omega
  have hbase : w.heap.size ≤ w2.heap.size := HT.out.size
  obtain ⟨nn, rfl⟩ := Int.eq_ofNat_of_zero_le hn0
  go_loopw [5, 7, 8] (fun out n _ wr => ∃ (m n0 : Nat) (l : List UInt8), n = .int .i64 m ∧ n0 + m ≤ most ∧ Hid (n0 = l.length) ∧ wr.ownsRow w.heap.size 5 1 out n0 (l.map bcell) ∧ Cur B wr cb ∧ Turn cb w wr ∧ w.heap.size ≤ wr.heap.size) (fun _ n _ _ => (intOf n).toNat)
  case atStart => exact ⟨nn, 0, [], rfl, by omega, rfl, HOWN.out, HC2.out, HT.out, hbase⟩
  case round =>
    obtain ⟨m, n0, l, rfl, hmn, HL, hown, hc0, hT, hbase⟩ := hrel
    have HB1 : Hid ((n0 + 1) * 1 ≤ 140737488355328) := by unfold Hid; omega
    have HB2 : Hid (n0 + 1 ≤ maxLen) := by unfold Hid maxLen; omega
    have hne3 : Hid (u5.ownBlock ≠ some cb) := fun e => by have := (hown.lt cb e).1; omega
    by_cases hm1 : 1 ≤ m
    · by_cases hs1 : style = 1
      · have e1 : (style == 1) = true := by simp [hs1]
        have e2 : (style == 2) = false := by simp [hs1]
        clear hs1
        go_wp2_with fail
        refine (l1Byte_any B cb _ hc0).mono ?_
        rintro e w3 ⟨b, hb0, hb9, rfl, hc3, ht3⟩
        have hown3 := hown.kept ht3 (.inr hne3.out)
        have hb3 := Nat.le_trans hbase ht3.size
        go_wp2_with (at_builtin; go_must (refine append_turn rfl _ _ 22 rfl 5 (.int .u8 0) 1 Tryd.underlying22 info_u8 rfl w.heap.size _ _ _ rfl hown3 hb3 _ rfl rfl HB1.out HB2.out ?_); intro v' w4 hown4 hgrow)
        have hl2 : w4.ownsRow w.heap.size 5 1 v' (n0 + 1) ((l ++ [UInt8.ofNat (b % 2).toNat]).map bcell) := by
          rw [← map_bcell_snoc l (b % 2).toNat (b % 2) (by omega) (by omega)]; exact hown4
        have hgk : ∀ g, u5.ownBlock = some g → w.heap.size ≤ g := fun g hg => (hown3.lt g hg).1
        go_roundw
        case rel => exact ⟨m - 1, n0 + 1, _, by go_num, by omega, by unfold Hid; rw [List.length_append, ← HL.out]; rfl, hl2, hc3.grown hgrow (fun g hg => by have := hgk g hg; omega), (hT.trans ht3).grown hgrow hgk, Nat.le_trans hb3 hgrow.size⟩
        case measure => simp [intOf]; omega
      · have e1 : (style == 1) = false := by simpa using hs1
        by_cases hs2 : style = 2
        · have e2 : (style == 2) = true := by simp [hs2]
          clear hs1 hs2
          go_wp2_with fail
          refine (l1Byte_any B cb _ hc0).mono ?_
          rintro e w3 ⟨b, hb0, hb9, rfl, hc3, ht3⟩
          have hown3 := hown.kept ht3 (.inr hne3.out)
          have hb3 := Nat.le_trans hbase ht3.size
          go_wp2_with (at_builtin; go_must (refine append_turn rfl _ _ 22 rfl 5 (.int .u8 0) 1 Tryd.underlying22 info_u8 rfl w.heap.size _ _ _ rfl hown3 hb3 _ rfl rfl HB1.out HB2.out ?_); intro v' w4 hown4 hgrow)
          have hl2 : w4.ownsRow w.heap.size 5 1 v' (n0 + 1) ((l ++ [UInt8.ofNat (97 + b % 4).toNat]).map bcell) := by
            rw [← map_bcell_snoc l (97 + b % 4).toNat (97 + b % 4) (by omega) (by omega)]; exact hown4
          have hgk : ∀ g, u5.ownBlock = some g → w.heap.size ≤ g := fun g hg => (hown3.lt g hg).1
          go_roundw
          case rel => exact ⟨m - 1, n0 + 1, _, by go_num, by omega, by unfold Hid; rw [List.length_append, ← HL.out]; rfl, hl2, hc3.grown hgrow (fun g hg => by have := hgk g hg; omega), (hT.trans ht3).grown hgrow hgk, Nat.le_trans hb3 hgrow.size⟩
          case measure => simp [intOf]; omega
        · have e2 : (style == 2) = false := by simpa using hs2
          clear hs1 hs2
          go_wp2_with fail
          refine (l1Byte_any B cb _ hc0).mono ?_
          rintro e w3 ⟨b, hb0, hb9, rfl, hc3, ht3⟩
          have hown3 := hown.kept ht3 (.inr hne3.out)
          have hb3 := Nat.le_trans hbase ht3.size
          go_wp2_with (at_builtin; go_must (refine append_turn rfl _ _ 22 rfl 5 (.int .u8 0) 1 Tryd.underlying22 info_u8 rfl w.heap.size _ _ _ rfl hown3 hb3 _ rfl rfl HB1.out HB2.out ?_); intro v' w4 hown4 hgrow)
          have hl2 : w4.ownsRow w.heap.size 5 1 v' (n0 + 1) ((l ++ [UInt8.ofNat (b).toNat]).map bcell) := by
            rw [← map_bcell_snoc l (b).toNat (b) (by omega) (by omega)]; exact hown4
          have hgk : ∀ g, u5.ownBlock = some g → w.heap.size ≤ g := fun g hg => (hown3.lt g hg).1
          go_roundw
          case rel => exact ⟨m - 1, n0 + 1, _, by go_num, by omega, by unfold Hid; rw [List.length_append, ← HL.out]; rfl, hl2, hc3.grown hgrow (fun g hg => by have := hgk g hg; omega), (hT.trans ht3).grown hgrow hgk, Nat.le_trans hb3 hgrow.size⟩
          case measure => simp [intOf]; omega
    · obtain rfl : m = 0 := by omega
      have hcv := own_string wr hown l rfl
      have HLE : Hid (l.length ≤ most) := by unfold Hid; rw [← HL.out]; omega
      go_wp2
      go_ret
      exact ⟨l, HLE.out, rfl, hc0, hT⟩
theorem wrap_bd (n : Int) : -9223372036854775808 ≤ wrap64 n ∧ wrap64 n ≤ 9223372036854775807 := by unfold wrap64; omega

def IntOut (B cb : Nat) (w : World) (e : Ending) (w' : World) : Prop := ∃ x : Int, -9223372036854775808 ≤ x ∧ x ≤ 9223372036854775807 ∧ e = .returned (.int .i64 x) ∧ Cur B w' cb ∧ Turn cb w w'

theorem l1PickInt_any (B cb lb n : Nat) (w : World) (hc : Cur B w cb) (hne : lb ≠ cb) (hlt : lb < w.heap.size) (h0 : 0 < n) (h9 : n ≤ 1000)
    (hl : ∀ j, j < n → ∃ x : Int, -9223372036854775808 ≤ x ∧ x ≤ 9223372036854775807 ∧ w.cell? ⟨lb, j, none⟩ = some (.int .i64 x)) :
    Calls Tryd.prog 30 #[.pointer (some ⟨cb, 0, none⟩), .slice (some ⟨lb, 0, none⟩) n n] w (IntOut B cb w) := by
  have HL := Lib.hid hl
  have HNE := Lib.hid hne
  clear hl hne
  go_enter Tryd.func30, Tryd.ntmps30
  go_wp2_with fail
  refine (l1Below_any B cb n _ hc (by omega) (by omega)).mono ?_
  rintro e w1 ⟨x, hx0, hx9, rfl, hc1, ht1⟩
  obtain ⟨x, rfl⟩ := Int.eq_ofNat_of_zero_le hx0
  have hxn : x < n := by omega
  obtain ⟨y, hy0, hy9, hy⟩ := HL.out x hxn
  have hy1 : w1.cell? ⟨lb, x, none⟩ = some (.int .i64 y) := (World.cell?_of_block (w := w) (w' := w1) (a := ⟨lb, x, none⟩) (ht1.block lb hlt (fun e => HNE.out (by injection e)))).trans hy
  have HC1 := Lib.hid hc1
  have HT1 := Lib.hid ht1
  clear hc1 ht1 hc hy
  go_wp2_with fail
  go_ret
  exact ⟨y, hy0, hy9, rfl, HC1.out, HT1.out⟩

def nums17 : List Int := [-1, 0, 127, 128, 255, 256, 16383, 16384, 65535, 65536, 562949953421311, 562949953421312, 999999999, 1000000000, -999999999, 9223372036854775807, -9223372036854775808]
theorem nums17_in : ∀ x ∈ nums17, -9223372036854775808 ≤ x ∧ x ≤ 9223372036854775807 := by decide +kernel

set_option maxHeartbeats 1000000 in
set_option maxRecDepth 100000 in
theorem l1Num_any (B cb : Nat) (w : World) (hc : Cur B w cb) :
    Calls Tryd.prog 22 #[.pointer (some ⟨cb, 0, none⟩)] w (IntOut B cb w) := by
  go_enter Tryd.func22, Tryd.ntmps22
  go_wp2_with fail
  refine (l1Below_any B cb 8 _ hc (by omega) (by omega)).mono ?_
  rintro e w1 ⟨k, hk0, hk9, rfl, hc1, ht1⟩
  have HC1 := Lib.hid hc1
  have HT1 := Lib.hid ht1
  have hlt1 := hc1.2.1
  clear hc hc1 ht1
  by_cases h0 : k = 0
  · have e0 : (k == 0) = true := by simp [h0]
    clear h0
    go_wp2_with fail
    refine (l1PickInt_any B cb w1.heap.size 17 _ (HC1.out.since ((Since.refl w1).alloc _)) (by omega) (by simp) (by omega) (by omega) (fun j hj => ?_)).mono ?_
    · have hm : nums17[j]? = some (nums17.getD j 0) := by
        have : j < nums17.length := hj
        rw [List.getElem?_eq_getElem this, List.getD_eq_getElem?_getD, List.getElem?_eq_getElem this]; rfl
      have hin := nums17_in (nums17.getD j 0) (List.mem_of_getElem? hm)
      refine ⟨nums17.getD j 0, hin.1, hin.2, ?_⟩
      rw [World.cell?_alloc_at _ _ _ _ rfl]
      have e : ((nums17.map (Value.int .i64)).toArray)[j]? = some (.int .i64 (nums17.getD j 0)) := by
        rw [List.getElem?_toArray, List.getElem?_map, hm]; rfl
      exact e
    · rintro e w2 ⟨x, hx0, hx9, rfl, hc2, ht2⟩
      go_wp2_with fail
      go_ret
      exact ⟨x, hx0, hx9, rfl, hc2, (HT1.out.trans (Turn.of_since ((Since.refl w1).alloc _))).trans ht2⟩
  · have e0 : (k == 0) = false := by simpa using h0
    by_cases h1 : k = 1
    · have e1 : (k == 1) = true := by simp [h1]
      clear h0 h1
      go_wp2_with fail
      refine (l1Below_any B cb 1000000000 _ HC1.out (by omega) (by omega)).mono ?_
      rintro e w2 ⟨x, hx0, hx9, rfl, hc2, ht2⟩
      go_wp2_with fail
      refine (l1Below_any B cb 1000000000 _ hc2 (by omega) (by omega)).mono ?_
      rintro e w3 ⟨y, hy0, hy9, rfl, hc3, ht3⟩
      go_wp2_with fail
      go_ret
      have hzb : -9223372036854775808 ≤ wrap64 (x * y) ∧ wrap64 (x * y) ≤ 9223372036854775807 := wrap_bd _
      exact ⟨wrap64 (x * y), hzb.1, hzb.2, rfl, hc3, (HT1.out.trans ht2).trans ht3⟩
    · have e1 : (k == 1) = false := by simpa using h1
      by_cases h2 : k = 2
      · have e2 : (k == 2) = true := by simp [h2]
        clear h0 h1 h2
        go_wp2_with fail
        refine (l1Below_any B cb 100000 _ HC1.out (by omega) (by omega)).mono ?_
        rintro e w2 ⟨x, hx0, hx9, rfl, hc2, ht2⟩
        go_wp2_with fail
        go_ret
        exact ⟨-x, by omega, by omega, rfl, hc2, HT1.out.trans ht2⟩
      · have e2 : (k == 2) = false := by simpa using h2
        clear h0 h1 h2
        go_wp2_with fail
        refine (l1Below_any B cb 70000 _ HC1.out (by omega) (by omega)).mono ?_
        rintro e w2 ⟨x, hx0, hx9, rfl, hc2, ht2⟩
        go_wp2_with fail
        go_ret
        exact ⟨x, by omega, by omega, rfl, hc2, HT1.out.trans ht2⟩

def DrawInt (w : World) (e : Ending) (w' : World) : Prop := ∃ x : Int, -9223372036854775808 ≤ x ∧ x ≤ 9223372036854775807 ∧ e = .returned (.int .i64 x) ∧ Since w w'
def DrawText (most : Nat) (w : World) (e : Ending) (w' : World) : Prop := ∃ l : List UInt8, l.length ≤ most ∧ e = .returned (.string ⟨l.toArray⟩) ∧ Since w w'
def DrawFixed (w : World) (e : Ending) (w' : World) : Prop := ∃ x y : Int, -9223372036854775808 ≤ x ∧ x ≤ 9223372036854775807 ∧ -1 ≤ y ∧ y ≤ 8 ∧ e = .returned (.tuple #[.int .i64 x, .int .i64 y]) ∧ Since w w'
theorem drawEV (B : Nat) (w : World) (v : Value) (hB : B ≤ w.heap.size) (hv : CodeIn B w v) : Calls Tryd.prog 7 #[v] w (DrawInt w) := by
  have H := Lib.hid (l1New_any B w v hB hv)
  clear hv
  go_enter Tryd.func7, Tryd.ntmps7
  go_wp2_with fail
  refine H.out.mono ?_
  rintro e w1 ⟨cb, rfl, hcb, hc1, hs1⟩
  go_wp2_with fail
  refine (l1Num_any B cb _ hc1).mono ?_
  rintro e w2 ⟨x, hx0, hx9, rfl, hc2, ht2⟩
  go_wp2_with fail
  go_ret
  exact ⟨x, hx0, hx9, rfl, hs1.turn hcb ht2⟩
theorem drawEH (B : Nat) (w : World) (v : Value) (hB : B ≤ w.heap.size) (hv : CodeIn B w v) : Calls Tryd.prog 8 #[v] w (DrawText 40 w) := by
  have H := Lib.hid (l1New_any B w v hB hv)
  clear hv
  go_enter Tryd.func8, Tryd.ntmps8
  go_wp2_with fail
  refine H.out.mono ?_
  rintro e w1 ⟨cb, rfl, hcb, hc1, hs1⟩
  go_wp2_with fail
  refine (l1Text_any B cb 40 _ hc1 (by omega)).mono ?_
  rintro e w2 ⟨l, hl, rfl, hc2, ht2⟩
  go_wp2_with fail
  go_ret
  exact ⟨l, hl, rfl, hs1.turn hcb ht2⟩
theorem drawEF (B : Nat) (w : World) (v : Value) (hB : B ≤ w.heap.size) (hv : CodeIn B w v) : Calls Tryd.prog 11 #[v] w (DrawFixed w) := by
  have H := Lib.hid (l1New_any B w v hB hv)
  clear hv
  go_enter Tryd.func11, Tryd.ntmps11
  go_wp2_with fail
  refine H.out.mono ?_
  rintro e w1 ⟨cb, rfl, hcb, hc1, hs1⟩
  go_wp2_with fail
  refine (l1Num_any B cb _ hc1).mono ?_
  rintro e w2 ⟨x, hx0, hx9, rfl, hc2, ht2⟩
  go_wp2_with fail
  refine (l1Below_any B cb 10 _ hc2 (by omega) (by omega)).mono ?_
  rintro e w3 ⟨y, hy0, hy9, rfl, hc3, ht3⟩
  go_wp2_with fail
  go_ret2
  exact ⟨x, y - 1, hx0, hx9, by omega, by omega, rfl, hs1.turn hcb (ht2.trans ht3)⟩
end Go.Proofs.YtpikplllkjpciaaDoor
