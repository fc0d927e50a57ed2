/- The drawing functions of chapter 2: letters, words. -/
import Derived.Test.YtfjlcmippnbhoaaDoorDraw1
import Derived.Test.YtfjlcmippnbhoaaDoorInts
import Derived.Laws.AppendOwnNone
namespace Go.Proofs.YtfjlcmippnbhoaaDoor
set_option linter.unusedVariables false
open Go.ChangeShapes Go.WideShapes Go.ChangeAt Go.RowKit

theorem big_any (w : World) (ao : Option Addr) (len cap : Nat) (h : len ≤ 9223372036854775807) :
    Calls Tryd.prog 8 #[.slice ao len cap] w fun e w' => e = .returned (.bool (decide (1048576 < len))) ∧ w = w' := by
  go_enter Tryd.func8, Tryd.ntmps8
  go_wp2
  go_ret
  exact ⟨ret_bool (by rw [decide_eq_decide]; omega), rfl⟩

def BoolOut (B cb : Nat) (w : World) (e : Ending) (w' : World) : Prop := ∃ b : Bool, e = .returned (.bool b) ∧ Cur B w' cb ∧ Turn cb w w'
theorem l1Once_any (B cb : Nat) (n : Int) (w : World) (hc : Cur B w cb) (h0 : 0 < n) (h9 : n ≤ 9223372036854775807) :
    Calls Tryd.prog 40 #[.pointer (some ⟨cb, 0, none⟩), .int .i64 n] w (BoolOut B cb w) := by
  have H := Lib.hid (l1Below_any B cb n w hc h0 h9)
  clear hc
  go_enter Tryd.func40, Tryd.ntmps40
  go_wp2_with fail
  refine H.out.mono ?_
  rintro e w1 ⟨x, hx0, hx9, rfl, hc1, ht1⟩
  go_wp2_with fail
  go_ret
  exact ⟨_, rfl, hc1, ht1⟩

theorem lit_cells (w : World) (l : List Int) (hl : ∀ x ∈ l, -9223372036854775808 ≤ x ∧ x ≤ 9223372036854775807) (A : Array Value) (hA : A = (l.map icell).toArray) (j : Nat) (hj : j < l.length) :
    ∃ y : Int, -9223372036854775808 ≤ y ∧ y ≤ 9223372036854775807 ∧ (w.alloc (.cells A 3)).cell? ⟨w.heap.size, j, none⟩ = some (.int .i64 y) := by
  have h := hl l[j] (List.getElem_mem hj)
  refine ⟨l[j], h.1, h.2, ?_⟩
  rw [World.cell?_alloc_at _ _ _ _ rfl, hA, List.getElem?_toArray, List.getElem?_map, List.getElem?_eq_getElem hj]
  rfl

set_option maxRecDepth 100000 in
theorem l2Draw_any (B cb : Nat) (w : World) (hc : Cur B w cb) :
    Calls Tryd.prog 33 #[.pointer (some ⟨cb, 0, none⟩)] w (IntOut B cb w) := by
  have H := Lib.hid (l1Once_any B cb 14 w hc (by omega) (by omega))
  clear hc
  go_enter Tryd.func33, Tryd.ntmps33
  go_wp2_with fail
  refine H.out.mono ?_
  rintro e w1 ⟨b, rfl, hc1, ht1⟩
  have HC1 := Lib.hid hc1
  have HT1 := Lib.hid ht1
  have hlt1 := hc1.2.1
  clear hc1 ht1
  cases b with
  | true =>
    go_wp2_with fail
    refine (l1PickInt_any B cb w1.heap.size 4 _ (HC1.out.since ((Since.refl w1).alloc _)) (by omega) (by simp) (by omega) (by omega) (lit_cells w1 [-1, 9, 8, 100] (by decide) _ rfl)).mono ?_
    rintro e w2 ⟨x, hx0, hx9, rfl, hc2, ht2⟩
    have HT2 : Hid (Turn cb w w2) := (HT1.out.trans (Turn.of_since ((Since.refl w1).alloc _))).trans ht2
    clear ht2
    go_wp2_with fail
    go_ret
    exact ⟨x, hx0, hx9, rfl, hc2, HT2.out⟩
  | false =>
    go_wp2_with fail
    refine (l1PickInt_any B cb w1.heap.size 10 _ (HC1.out.since ((Since.refl w1).alloc _)) (by omega) (by simp) (by omega) (by omega) (lit_cells w1 [0, 0, 0, 1, 2, 2, 3, 4, 6, 7] (by decide) _ rfl)).mono ?_
    rintro e w2 ⟨x, hx0, hx9, rfl, hc2, ht2⟩
    have HT2 : Hid (Turn cb w w2) := (HT1.out.trans (Turn.of_since ((Since.refl w1).alloc _))).trans ht2
    clear ht2
    go_wp2_with fail
    go_ret
    exact ⟨x, hx0, hx9, rfl, hc2, HT2.out⟩

/-- A list of the call's own, beside the cursor. -/
def WordOut (B cb most : Nat) (w : World) (e : Ending) (w' : World) : Prop := ∃ v xs, xs.length ≤ most ∧ e = .returned v ∧ Own w.heap.size w' v xs ∧ Cur B w' cb ∧ Turn cb w w'
set_option maxRecDepth 100000 in
theorem l2Word_any (B cb most : Nat) (w : World) (hc : Cur B w cb) (hm : most ≤ 1000) :
    Calls Tryd.prog 39 #[.pointer (some ⟨cb, 0, none⟩), .int .i64 (most : Int)] w (WordOut B cb most w) := by
  have hcb := hc.2.1
  go_enter Tryd.func39, Tryd.ntmps39
  go_wp2_with fail
  refine (l1Below_any B cb _ _ (hc.since ((Since.refl w).alloc _)) (by omega) (by omega)).mono ?_
  rintro e w2 ⟨n, hn0, hn9, rfl, hc2, ht2⟩
  have hown0 : (w.alloc (.cells #[] 3)).ownsRow w.heap.size 3 1 (.slice (some ⟨w.heap.size, 0, none⟩) 0 0) 0 [] := World.ownsRow_lit w _ 0 (Nat.le_refl _) (by decide) (by simp)
  have hne : some w.heap.size ≠ some cb := fun e => by injection e with e; omega
  have HOWN := Lib.hid (hown0.kept ht2 (.inr hne))
  have HT := Lib.hid ((Turn.of_since ((Since.refl w).alloc _)).trans ht2)
  clear hown0 ht2 hc
  have HC2 := Lib.hid hc2
  clear hc2 hne
  go_wp2_with fail
  have hne : Hid (some w.heap.size ≠ some cb) := fun e => by injection e with e; omega
  have hbase : w.heap.size ≤ w2.heap.size := HT.out.size
  obtain ⟨nn, rfl⟩ := Int.eq_ofNat_of_zero_le hn0
  go_loopw [5, 6] (fun out n wr => ∃ (m n0 : Nat) (l : List Int), n = .int .i64 m ∧ n0 + m ≤ most ∧ Hid (n0 = l.length ∧ ∀ x ∈ l, InI x) ∧ wr.ownsRow w.heap.size 3 1 out n0 (l.map icell) ∧ Cur B wr cb ∧ Turn cb w wr ∧ w.heap.size ≤ wr.heap.size) (fun _ n _ => (intOf n).toNat)
  case atStart => exact ⟨nn, 0, [], rfl, by omega, ⟨rfl, fun x hx => by simp at hx⟩, HOWN.out, HC2.out, HT.out, hbase⟩
  case round =>
    obtain ⟨m, n0, l, rfl, hmn, HL, hown, hc0, hT, hbase⟩ := hrel
    have HB1 : Hid ((n0 + 1) * 8 ≤ 140737488355328) := by unfold Hid; omega
    have HB2 : Hid (n0 + 1 ≤ maxLen) := by unfold Hid maxLen; omega
    have hne3 : Hid (u5.ownBlock ≠ some cb) := fun e => by have := (hown.lt cb e).1; omega
    by_cases hm1 : 1 ≤ m
    · go_wp2_with fail
      refine (l2Draw_any B cb _ hc0).mono ?_
      rintro e w3 ⟨b, hb0, hb9, rfl, hc3, ht3⟩
      have hown3 := hown.kept ht3 (.inr hne3.out)
      have hb3 := Nat.le_trans hbase ht3.size
      go_wp2_with (at_builtin; go_must (refine append_turn rfl _ _ 30 rfl 3 (.int .i64 0) 8 Tryd.underlying30 info_int rfl w.heap.size _ _ _ rfl hown3 hb3 _ rfl rfl HB1.out HB2.out ?_); intro v' w4 hown4 hgrow)
      have hl2 : w4.ownsRow w.heap.size 3 1 v' (n0 + 1) ((l ++ [b]).map icell) := by
        rw [List.map_append]; exact hown4
      have hgk : ∀ g, u5.ownBlock = some g → w.heap.size ≤ g := fun g hg => (hown3.lt g hg).1
      have HL2 : Hid (n0 + 1 = (l ++ [b]).length ∧ ∀ x ∈ l ++ [b], InI x) := by
        refine ⟨by rw [List.length_append, ← HL.out.1]; rfl, fun x hx => ?_⟩
        rcases List.mem_append.1 hx with hx | hx
        · exact HL.out.2 x hx
        · rw [List.mem_singleton.1 hx]; exact ⟨hb0, hb9⟩
      go_roundw
      case rel => exact ⟨m - 1, n0 + 1, _, by go_num, by omega, HL2, hl2, hc3.grown hgrow (fun g hg => by have := hgk g hg; omega), (hT.trans ht3).grown hgrow hgk, Nat.le_trans hb3 hgrow.size⟩
      case measure => simp [intOf]; omega
    · obtain rfl : m = 0 := by omega
      have HLE : Hid (l.length ≤ most) := by unfold Hid; rw [← HL.out.1]; omega
      have HO : Hid (Own w.heap.size wr u5 l) := ⟨HL.out.2, by rw [← HL.out.1]; exact hown⟩
      clear hown
      go_wp2
      go_ret
      exact ⟨_, _, HLE.out, rfl, HO.out, hc0, hT⟩

theorem drawIL (B : Nat) (w : World) (v : Value) (hB : B ≤ w.heap.size) (hv : CodeIn B w v) : Calls Tryd.prog 9 #[v] w (DrawInt w) := by
  have H := Lib.hid (l1New_any B w v hB hv)
  clear hv
  go_enter Tryd.func9, Tryd.ntmps9
  go_wp2_with fail
  refine H.out.mono ?_
  rintro e w1 ⟨cb, rfl, hcb, hc1, hs1⟩
  go_wp2_with fail
  refine (l2Draw_any B cb _ hc1).mono ?_
  rintro e w2 ⟨x, hx0, hx9, rfl, hc2, ht2⟩
  go_wp2_with fail
  go_ret
  exact ⟨x, hx0, hx9, rfl, hs1.turn hcb ht2⟩

def DrawWords (w : World) (e : Ending) (w' : World) : Prop := ∃ a b xs ys, xs.length ≤ 1000 ∧ ys.length ≤ 1000 ∧ e = .returned (.tuple #[a, b]) ∧ IntsAt w' a xs ∧ IntsAt w' b ys ∧ Since w w'
theorem Own.turn {base cb : Nat} {w w' : World} {v : Value} {xs : List Int} (h : Own base w v xs) (k : Turn cb w w') (hne : cb < base) : Own base w' v xs :=
  ⟨h.1, h.2.kept k (by
    cases e : v.ownBlock with
    | none => exact .inl rfl
    | some g => exact .inr (fun e2 => by have := (h.2.lt g e).1; injection e2 with e2; omega))⟩

theorem ownBlock_or' (v : Value) (row : Option Nat) (h : ∀ k, v.ownBlock = some k → row ≠ some k) : v.ownBlock = none ∨ v.ownBlock ≠ row := by
  cases e : v.ownBlock with
  | none => exact .inl rfl
  | some k => exact .inr (fun e2 => h k e e2.symm)
set_option maxHeartbeats 1000000 in
set_option maxRecDepth 100000 in
theorem drawCW (B : Nat) (w : World) (v : Value) (hB : B ≤ w.heap.size) (hv : CodeIn B w v) : Calls Tryd.prog 17 #[v] w (DrawWords w) := by
  have H := Lib.hid (l1New_any B w v hB hv)
  clear hv
  go_enter Tryd.func17, Tryd.ntmps17
  go_wp2_with fail
  refine H.out.mono ?_
  rintro e w1 ⟨cb, rfl, hcb, hc1, hs1⟩
  go_wp2_with fail
  refine (l2Word_any B cb 4 _ hc1 (by omega)).mono ?_
  rintro e w2 ⟨va, xs, hlx, rfl, ho2, hc2, ht2⟩
  go_wp2_with fail
  refine (l1Once_any B cb 4 _ hc2 (by omega) (by omega)).mono ?_
  rintro e w3 ⟨b, rfl, hc3, ht3⟩
  have HO3 : Hid (Own w1.heap.size w3 va xs) := ho2.turn ht3 hc1.2.1
  have HC3 := Lib.hid hc3
  have hs2 := hs1.turn hcb ht2
  have HS3 := Lib.hid (hs2.turn hcb ht3)
  have hcb1 := hc1.2.1
  have hsz : w1.heap.size ≤ w3.heap.size := Nat.le_trans ht2.size ht3.size
  clear ho2 ht2 ht3 hc3 hc2 hs1 hs2 hc1
  cases b with
  | true =>
    obtain ⟨i0, hi, hz0, hz1, hz2⟩ := info_parts info_int
    have hrow := World.ownsRow_lit (w := w3) (base := w3.heap.size) (e := 3) (size := 1) #[] 0 (Nat.le_refl _) (by decide) (by simp)
    have HRW := Lib.hid hrow
    clear hrow
    have hcase : va = .slice none 0 0 ∧ xs = [] ∨ ∃ g cap, va = .slice (some ⟨g, 0, none⟩) xs.length cap ∧ g < w3.heap.size := by
      rcases HO3.out.2.2 with ⟨a, b⟩ | ⟨g, cap, cur, a, b, c, _⟩
      · exact .inl ⟨a, List.eq_nil_of_length_eq_zero b⟩
      · exact .inr ⟨g, cap, a, heap_lt c⟩
    rcases hcase with ⟨rfl, rfl⟩ | ⟨g, cap, rfl, hgl⟩
    · go_wp2_with (at_builtin; go_must (refine wpList_append_own_none rfl _ _ 30 rfl w3.heap.size 3 i0 1 Tryd.underlying30 hi _ 0 [] rfl HRW.out rfl ?_))
      go_ret2
      refine ⟨_, _, [], [], by simp, by simp, rfl, ⟨fun x hx => by simp at hx, .inl ⟨rfl, _, _, rfl⟩⟩, ⟨fun x hx => by simp at hx, .inl ⟨rfl, _, _, rfl⟩⟩, HS3.out.alloc _⟩
    · have HCL : Hid (∀ (j : Nat) u, (xs.map icell)[j]? = some u → (w3.alloc (.cells #[] 3)).cell? ((⟨g, 0, none⟩ : Addr).add j) = some u) := by
        intro j u hj
        have hlj : j < (xs.map icell).length := (List.getElem?_eq_some_iff.1 hj).1
        rw [show (⟨g, 0, none⟩ : Addr).add j = ⟨g, j, none⟩ from by by_cases h0 : j = 0 <;> simp [Addr.add, h0]]
        rw [World.cell?_alloc_past _ _ _ hgl]
        rw [HO3.out.2.cellAt j (by simpa using hlj), hj]
      have HB1 : Hid ((0 + xs.length) * 8 ≤ 140737488355328) := by unfold Hid; omega
      have HB2 : Hid (0 + xs.length ≤ maxLen) := by unfold Hid maxLen; omega
      have HLM : Hid ((xs.map icell).length = xs.length * 1) := by unfold Hid; simp
      have HON : Hid (∀ u ∈ xs.map icell, u.oneCell' = true) := by
        intro u hu; obtain ⟨x, _, rfl⟩ := List.mem_map.1 hu; rfl
      go_wp2_with (at_builtin; go_must (refine wpList_append_own _ rfl _ _ 30 rfl w3.heap.size 3 i0 (.int .i64 0) 1 8 Tryd.underlying30 hi hz0 hz1 hz2 rfl (by decide) _ 0 [] rfl HRW.out ⟨g, 0, none⟩ xs.length cap (xs.map icell) rfl HLM.out HCL.out HON.out HB2.out HB1.out (by simp) ?_); intro v' w4 hown4 hgrow hnn)
      have HB4 : Hid (Own w3.heap.size w4 v' xs) := ⟨HO3.out.1, by have := hown4; rwa [Nat.zero_add, List.nil_append] at this⟩
      have HS4 : Hid (Since w w4) := (HS3.out.alloc (.cells #[] 3)).grown hgrow (fun k hk => by
        have := (HRW.out.lt k hk).1
        have := HS3.out.lt; omega)
      have HA4 : Hid (IntsAt w4 (.slice (some ⟨g, 0, none⟩) xs.length cap) xs) :=
        (HO3.out.at.since ((Since.refl w3).alloc (.cells #[] 3))).grown hgrow (ownBlock_or' _ _ (fun k hk e => by
          have a1 := (HRW.out.lt k e).1
          have a2 : g = k := Option.some.inj hk
          omega))
      clear hown4 hgrow hnn
      go_ret2
      exact ⟨_, _, xs, xs, by omega, by omega, rfl, HA4.out, HB4.out.at, HS4.out⟩
  | false =>
    go_wp2_with fail
    refine (l2Word_any B cb 4 _ HC3.out (by omega)).mono ?_
    rintro e w4 ⟨vb, ys, hly, rfl, ho4, hc4, ht4⟩
    have HA := Lib.hid (HO3.out.turn ht4 hcb1)
    have HS4 := Lib.hid (HS3.out.turn hcb ht4)
    have HB4 := Lib.hid ho4
    clear ht4 ho4 hc4
    go_wp2_with fail
    go_ret2
    exact ⟨_, _, xs, ys, by omega, by omega, rfl, HA.out.at, HB4.out.at, HS4.out⟩
end Go.Proofs.YtfjlcmippnbhoaaDoor
