/- The model's drawing of expressions: l8Known, l8Make, l8Expr. -/
import Derived.Test.YtiojgahjfndmdaaDoorDraw2
import Derived.Test.YtiojgahjfndmdaaDoorPxP
namespace Go.Proofs.YtiojgahjfndmdaaDoor
set_option maxRecDepth 100000
open Go.ChangeShapes Go.WideShapes Go.ChangeAt Go.RowKit
set_option linter.unusedVariables false
set_option linter.unusedSimpArgs false

theorem grown_setX (w : World) (G o : Nat) (u : Value) : w.grownBy (w.setCell ⟨G, o, none⟩ u) (some G) :=
  ⟨rfl, rfl, rfl, by simp [World.setCell], fun i hi hn => Below.heap_setCell w ⟨G, o, none⟩ u i (fun e => hn (by rw [e]))⟩
theorem Blk.turnX {w w' : World} {g cb : Nat} {t : TypeId} {cs : Array Value} (h : Blk w g t cs) (k : Turn cb w w') (hd : g ≠ cb) : Blk w' g t cs := (k.block g h.lt (fun e => hd (by injection e))).trans h
theorem OwnK.turnX {lo cb : Nat} {w w' : World} {v : Value} {xs : List Tok} (h : OwnK lo w v xs) (k : Turn cb w w') (hcb : cb < lo) : OwnK lo w' v xs := by
  refine h.grownX k ?_
  cases e : v.ownBlock with
  | none => exact .inl rfl
  | some g => exact .inr (fun e2 => by have := (h.lt g e).1; injection e2 with e2; omega)
theorem OwnX.turnX {lo hi cb : Nat} {w w' : World} {v : Value} {xs : List Tok} (h : OwnX lo hi w v xs) (k : Turn cb w w') (hcb : cb < lo) : OwnX lo hi w' v xs := by
  obtain ⟨b, rfl, h1, r1⟩ := h
  exact ⟨b, rfl, h1.turnX k hcb, r1⟩
/-- An expression drawn. -/
def DrawEx (B cb n : Nat) (w : World) (e : Ending) (w' : World) : Prop := ∃ v xs, e = .returned v ∧ OwnX w.heap.size w'.heap.size w' v xs ∧ 1 ≤ xs.length ∧ xs.length ≤ n ∧ Cur B w' cb ∧ Turn cb w w'
theorem drawEx_box {B cb n lo : Nat} {w w2 : World} {b : Value} {xs : List Tok} (X : Nat) (hX : w.heap.size ≤ X) (hcb : cb < w.heap.size) (ho : OwnK lo w2 b xs) (hlo : X < lo) (h1 : 1 ≤ xs.length) (hn : xs.length ≤ n) (hc : Cur B w2 cb) (ht : Turn cb w w2) (u : Value) :
    DrawEx B cb n w (.returned (.agg #[b])) (w2.setCell ⟨X, 0, none⟩ u) :=
  ⟨_, xs, rfl, OwnX.mk ((ho.far (p := ⟨X, 0, none⟩) hlo u).mono (by omega)), h1, hn, hc.grown (grown_setX w2 X 0 u) (fun g hg => by injection hg; omega), ht.grown (grown_setX w2 X 0 u) (fun g hg => by injection hg; omega)⟩
theorem l1PickS_any (B cb lb n : Nat) (Q : ByteArray → Prop) (w : World) (hc : Cur B w cb) (hne : lb ≠ cb) (hlt : lb < w.heap.size) (h0 : 0 < n) (h9 : n ≤ 1000)
    (hl : ∀ j, j < n → ∃ s, Q s ∧ w.cell? ⟨lb, j, none⟩ = some (.string s)) :
    Calls Tryd.prog 121 #[.pointer (some ⟨cb, 0, none⟩), .slice (some ⟨lb, 0, none⟩) n n] w fun e w' => ∃ s, Q s ∧ e = .returned (.string s) ∧ Cur B w' cb ∧ Turn cb w w' := by
  have HL := Lib.hid hl
  have HNE := Lib.hid hne
  clear hl hne
  go_enter Tryd.func121, Tryd.ntmps121
  go_wp2_with fail
  refine (l1Below_any B cb n _ hc (by omega) (by omega)).mono ?_
  rintro e w1 ⟨x, hx0, hx9, rfl, hc1, ht1⟩
  obtain ⟨x, rfl⟩ := Int.eq_ofNat_of_zero_le hx0
  have hxn : x < n := by omega
  obtain ⟨y, hq, hy⟩ := HL.out x hxn
  have hy1 : w1.cell? ⟨lb, x, none⟩ = some (.string y) := (World.cell?_of_block (w := w) (w' := w1) (a := ⟨lb, x, none⟩) (ht1.block lb hlt (fun e => HNE.out (by injection e)))).trans hy
  have HC1 := Lib.hid hc1
  have HT1 := Lib.hid ht1
  have HQ := Lib.hid hq
  clear hc1 ht1 hc hy hq
  go_wp2_with fail
  go_ret
  exact ⟨y, HQ.out, rfl, HC1.out, HT1.out⟩
theorem l1PickQ_any (B cb lb n : Nat) (Q : Int → Prop) (w : World) (hc : Cur B w cb) (hne : lb ≠ cb) (hlt : lb < w.heap.size) (h0 : 0 < n) (h9 : n ≤ 1000)
    (hl : ∀ j, j < n → ∃ s, Q s ∧ w.cell? ⟨lb, j, none⟩ = some (.int .i64 s)) :
    Calls Tryd.prog 107 #[.pointer (some ⟨cb, 0, none⟩), .slice (some ⟨lb, 0, none⟩) n n] w fun e w' => ∃ s, Q s ∧ e = .returned (.int .i64 s) ∧ Cur B w' cb ∧ Turn cb w w' := by
  have HL := Lib.hid hl
  have HNE := Lib.hid hne
  clear hl hne
  go_enter Tryd.func107, Tryd.ntmps107
  go_wp2_with fail
  refine (l1Below_any B cb n _ hc (by omega) (by omega)).mono ?_
  rintro e w1 ⟨x, hx0, hx9, rfl, hc1, ht1⟩
  obtain ⟨x, rfl⟩ := Int.eq_ofNat_of_zero_le hx0
  have hxn : x < n := by omega
  obtain ⟨y, hq, hy⟩ := HL.out x hxn
  have hy1 : w1.cell? ⟨lb, x, none⟩ = some (.int .i64 y) := (World.cell?_of_block (w := w) (w' := w1) (a := ⟨lb, x, none⟩) (ht1.block lb hlt (fun e => HNE.out (by injection e)))).trans hy
  have HC1 := Lib.hid hc1
  have HT1 := Lib.hid ht1
  have HQ := Lib.hid hq
  clear hc1 ht1 hc hy hq
  go_wp2_with fail
  go_ret
  exact ⟨y, HQ.out, rfl, HC1.out, HT1.out⟩
def knownB : List (List UInt8) := [[97], [97, 32, 98, 32, 46], [97, 32, 42], [97, 32, 98, 32, 124, 32, 42], [97, 32, 97, 45, 32, 46], [97, 32, 42, 32, 98, 32, 46], [97, 32, 98, 32, 42, 32, 46, 32, 99, 32, 46], [97, 32, 97, 32, 124, 32, 42], [97, 32, 98, 32, 46, 32, 42], [48, 32, 97, 32, 46, 32, 42], [97, 32, 49, 32, 46, 32, 98, 32, 46], [97, 32, 123, 48, 44, 50, 125], [97, 32, 98, 32, 124, 32, 123, 49, 44, 51, 125], [40, 41], [33], [97, 45, 32, 42, 32, 97, 32, 46], [97, 32, 98, 45, 32, 46, 32, 42, 32, 99, 32, 124], [97, 32, 42, 32, 97, 32, 42, 32, 46], [97, 32, 48, 32, 124, 32, 42, 32, 98, 32, 46], [97, 32, 97, 32, 46, 32, 42], [97, 32, 98, 32, 46, 32, 98, 32, 97, 32, 46, 32, 124, 32, 42]]
def KnownS (s : ByteArray) : Prop := pxB s = true ∧ 1 ≤ (pxL s).length ∧ s.size ≤ 1048576
theorem known_ok : ∀ l ∈ knownB, pxB (bX l) = true ∧ 1 ≤ (pxL (bX l)).length ∧ l.length ≤ 1048576 := by decide +kernel
theorem strs_cells (w : World) (l : List (List UInt8)) (A : Array Value) (hA : A = (l.map fun t => Value.string (bX t)).toArray) (j : Nat) (hj : j < l.length) :
    (w.alloc (.cells A 9)).cell? ⟨w.heap.size, j, none⟩ = some (.string (bX l[j])) := by
  rw [World.cell?_alloc_at _ _ _ _ rfl, hA, List.getElem?_toArray, List.getElem?_map, List.getElem?_eq_getElem hj]
  rfl
theorem ints_cells (w : World) (l : List Int) (A : Array Value) (hA : A = (l.map icell).toArray) (j : Nat) (hj : j < l.length) :
    (w.alloc (.cells A 3)).cell? ⟨w.heap.size, j, none⟩ = some (.int .i64 l[j]) := by
  rw [World.cell?_alloc_at _ _ _ _ rfl, hA, List.getElem?_toArray, List.getElem?_map, List.getElem?_eq_getElem hj]
  rfl
theorem known_cells (w : World) (A : Array Value) (hA : A = (knownB.map fun t => Value.string (bX t)).toArray) (j : Nat) (hj : j < 21) : ∃ s, KnownS s ∧ (w.alloc (.cells A 9)).cell? ⟨w.heap.size, j, none⟩ = some (.string s) := by
  have hj2 : j < knownB.length := hj
  have hk := known_ok knownB[j] (List.getElem_mem hj2)
  exact ⟨bX knownB[j], ⟨hk.1, hk.2.1, by rw [bX_size]; exact hk.2.2⟩, strs_cells w knownB A hA j hj2⟩
set_option maxHeartbeats 4000000 in
set_option maxRecDepth 100000 in
theorem l8Known_any (B cb : Nat) (w : World) (hc : Cur B w cb) : Calls Tryd.prog 116 #[.pointer (some ⟨cb, 0, none⟩)] w (DrawEx B cb 25 w) := by
  have hcb := hc.2.1
  obtain ⟨y, hy⟩ : ∃ y, y = w.alloc (.cells #[.slice none 0 0] 26) := ⟨_, rfl⟩
  have hs0 : Since w y := by rw [hy]; exact (Since.refl w).alloc _
  have hyz : w.heap.size + 1 = y.heap.size := by rw [hy]; simp
  have BR : Hid (Blk y w.heap.size 26 #[.slice none 0 0]) := by rw [hy]; exact Blk.new rfl _ _
  have HC := Lib.hid (hc.since hs0)
  have HKN := Lib.hid (known_cells y _ rfl)
  clear hc
  go_enter Tryd.func116, Tryd.ntmps116
  go_wp2_with fail
  rw [← hy]
  clear hy
  go_wp2_with fail
  refine (l1PickS_any B cb y.heap.size 21 KnownS _ (HC.out.since ((Since.refl y).alloc _)) (by omega) (by simp) (by decide) (by decide) HKN.out).mono ?_
  rintro e w2 ⟨s, ⟨hp, hl1, hsz⟩, rfl, hc2, ht2⟩
  have ht02 := (Turn.of_since (cb := cb) (hs0.alloc _)).trans ht2
  have BR2 := Lib.hid ((BR.out.alloc _).turnX ht2 (by omega))
  have hz2 := ht2.size
  have hz2' : y.heap.size < w2.heap.size := by simp at hz2; omega
  have HA : Hid (pxA s = pxL s) := by unfold Hid pxA; rw [if_pos hp]
  have HPX := Lib.hid (fun W => specPX_any s W hsz)
  rw [hp, HA.out] at HPX
  have h25 : (pxL s).length ≤ 25 := by unfold pxL; rw [List.length_map, List.length_take]; omega
  generalize pxL s = xs at HPX hl1 h25
  have HC2 := Lib.hid hc2
  have HT2 := Lib.hid ht02
  clear HKN HC hp hc2 ht2 HA ht02 hz2
  go_wp2_with fail
  refine (HPX.out _).mono ?_
  rintro e w3 ⟨v, rfl, ⟨b, rfl, hk, _⟩, hs3⟩
  have HK3 := Lib.hid hk
  obtain ⟨bo, bn, bc, _, rfl⟩ := hk.lenN
  clear hk
  have hs4 := hs3.alloc (.cells #[.slice bo bn bc] 26)
  obtain ⟨r0, r1⟩ := (BR2.out.since hs4).one
  have HK4 := Lib.hid (HK3.out.since ((Since.refl w3).alloc (.cells #[.slice bo bn bc] 26)))
  have HC4 := Lib.hid (HC2.out.since hs4)
  have HT4 := Lib.hid (HT2.out.trans (Turn.of_since hs4))
  clear HPX HC2 HT2 HK3
  go_wp2_with fail
  refine bodyPost_ret (v := .agg #[.slice bo bn bc]) (by simp [results, Tryd.results116, go_sem, *]) rfl ?_
  exact drawEx_box w.heap.size (Nat.le_refl _) hcb HK4.out (by omega) hl1 h25 HC4.out HT4.out _
theorem ex_nil (w : World) : ExAt w (.agg #[.slice none 0 0]) [] := ⟨_, rfl, (show OwnK 0 w (.slice none 0 0) [] from ⟨fun x hx => by simp at hx, World.ownsRow_nil _ _ _ _⟩).at⟩
def mkN : Nat → Nat
  | 0 => 1
  | d + 1 => 2 * mkN d + 1
theorem mkN_le {d : Nat} (h : d ≤ 3) : mkN d ≤ 15 := by
  rcases (by omega : d = 0 ∨ d = 1 ∨ d = 2 ∨ d = 3) with rfl | rfl | rfl | rfl <;> decide
theorem leaf_cells (w : World) (A : Array Value) (hA : A = ([1, 2].map icell).toArray) (j : Nat) (hj : j < 2) : ∃ s : Int, (0 ≤ s ∧ s ≤ 10) ∧ (w.alloc (.cells A 3)).cell? ⟨w.heap.size, j, none⟩ = some (.int .i64 s) :=
  ⟨_, (by decide : ∀ x ∈ ([1, 2] : List Int), 0 ≤ x ∧ x ≤ 10) _ (List.getElem_mem (l := ([1, 2] : List Int)) hj), ints_cells w [1, 2] A hA j hj⟩
theorem letr_cells (w : World) (A : Array Value) (hA : A = ([0, 0, 2, 2, 1, 4, 3, 6, 7].map icell).toArray) (j : Nat) (hj : j < 9) : ∃ s : Int, (0 ≤ s ∧ s ≤ 10) ∧ (w.alloc (.cells A 3)).cell? ⟨w.heap.size, j, none⟩ = some (.int .i64 s) :=
  ⟨_, (by decide : ∀ x ∈ ([0, 0, 2, 2, 1, 4, 3, 6, 7] : List Int), 0 ≤ x ∧ x ≤ 10) _ (List.getElem_mem (l := ([0, 0, 2, 2, 1, 4, 3, 6, 7] : List Int)) hj), ints_cells w [0, 0, 2, 2, 1, 4, 3, 6, 7] A hA j hj⟩
set_option maxHeartbeats 8000000 in
set_option maxRecDepth 100000 in
theorem l8Make_any (B cb : Nat) (d : Nat) : ∀ (n : Int) (w : World), n = (d : Int) → d ≤ 3 → Cur B w cb → Calls Tryd.prog 117 #[.pointer (some ⟨cb, 0, none⟩), .int .i64 n] w (DrawEx B cb (mkN d) w) := by
  induction d with
  | zero =>
    intro n w hn hd hc
    obtain rfl : n = 0 := by simpa using hn
    have hcb := hc.2.1
    obtain ⟨y, hy⟩ : ∃ y, y = w.alloc (.cells #[.slice none 0 0] 26) := ⟨_, rfl⟩
    have hs0 : Since w y := by rw [hy]; exact (Since.refl w).alloc _
    have hyz : w.heap.size + 1 = y.heap.size := by rw [hy]; simp
    have BR : Hid (Blk y w.heap.size 26 #[.slice none 0 0]) := by rw [hy]; exact Blk.new rfl _ _
    have HC := Lib.hid (hc.since hs0)
    clear hc hn hd
    go_enter Tryd.func117, Tryd.ntmps117
    go_wp2_with fail
    rw [← hy]
    clear hy
    refine (l1Once_any B cb 12 _ HC.out (by decide) (by decide)).mono ?_
    rintro e w1 ⟨k, rfl, hc1, ht1⟩
    have hz1 := ht1.size
    have ht01 := (Turn.of_since (cb := cb) hs0).trans ht1
    have BR1 := Lib.hid (BR.out.turnX ht1 (by omega))
    have HC1 := Lib.hid hc1
    have HT1 := Lib.hid ht01
    clear HC hc1 ht1 ht01
    cases k with
    | true =>
      have HLC := Lib.hid (leaf_cells w1 _ rfl)
      go_wp2_with fail
      refine (l1PickQ_any B cb w1.heap.size 2 (fun s => 0 ≤ s ∧ s ≤ 10) _ (HC1.out.since ((Since.refl w1).alloc _)) (by omega) (by simp) (by decide) (by decide) HLC.out).mono ?_
      rintro e w2 ⟨x, hx, rfl, hc2, ht2⟩
      have hz2 := ht2.size
      have hz2' : w1.heap.size < w2.heap.size := by simp at hz2; omega
      have HT2 := Lib.hid ((HT1.out.trans (Turn.of_since ((Since.refl w1).alloc _))).trans ht2)
      have BR2 := Lib.hid ((BR1.out.alloc _).turnX ht2 (by omega))
      have HC2 := Lib.hid hc2
      have HLX := Lib.hid (fun W => l8Leaf_any x W hx)
      clear HLC hc2 ht2 hz2 hx
      go_wp2_with fail
      refine (HLX.out _).mono ?_
      rintro e w3 ⟨v, rfl, ⟨b, rfl, hk, _⟩, hs3⟩
      have HK3 := Lib.hid hk
      obtain ⟨bo, bn, bc, _, rfl⟩ := hk.lenN
      clear hk
      obtain ⟨r0, r1⟩ := (BR2.out.since hs3).one
      have HC3 := Lib.hid (HC2.out.since hs3)
      have HT3 := Lib.hid (HT2.out.trans (Turn.of_since hs3))
      clear HLX HC2 HT2 HC1 HT1
      go_wp2_with fail
      refine bodyPost_ret (v := .agg #[.slice bo bn bc]) (by simp [results, Tryd.results117, go_sem, *]) rfl ?_
      exact drawEx_box w.heap.size (Nat.le_refl _) hcb HK3.out (by omega) (by simp) (by simp [mkN]) HC3.out HT3.out _
    
    | false =>
      have HLC := Lib.hid (letr_cells w1 _ rfl)
      go_wp2_with fail
      refine (l1PickQ_any B cb w1.heap.size 9 (fun s => 0 ≤ s ∧ s ≤ 10) _ (HC1.out.since ((Since.refl w1).alloc _)) (by omega) (by simp) (by decide) (by decide) HLC.out).mono ?_
      rintro e w2 ⟨x, hx, rfl, hc2, ht2⟩
      have hz2 := ht2.size
      have hz2' : w1.heap.size < w2.heap.size := by simp at hz2; omega
      have HT2 := Lib.hid ((HT1.out.trans (Turn.of_since ((Since.refl w1).alloc _))).trans ht2)
      have BR2 := Lib.hid ((BR1.out.alloc _).turnX ht2 (by omega))
      have HC2 := Lib.hid hc2
      have HLX := Lib.hid (fun W => specLE_any x W (int_lit x hx))
      clear HLC hc2 ht2 hz2 hx
      go_wp2_with fail
      refine (HLX.out _).mono ?_
      rintro e w3 ⟨v, rfl, ⟨b, rfl, hk, _⟩, hs3⟩
      have HK3 := Lib.hid hk
      obtain ⟨bo, bn, bc, _, rfl⟩ := hk.lenN
      clear hk
      obtain ⟨r0, r1⟩ := (BR2.out.since hs3).one
      have HC3 := Lib.hid (HC2.out.since hs3)
      have HT3 := Lib.hid (HT2.out.trans (Turn.of_since hs3))
      clear HLX HC2 HT2 HC1 HT1
      go_wp2_with fail
      refine bodyPost_ret (v := .agg #[.slice bo bn bc]) (by simp [results, Tryd.results117, go_sem, *]) rfl ?_
      exact drawEx_box w.heap.size (Nat.le_refl _) hcb HK3.out (by omega) (by simp) (by simp [mkN]) HC3.out HT3.out _
  | succ d ih =>
    intro n w hn hd hc
    have hcb := hc.2.1
    have hn0 : (n == 0) = false := by simp; omega
    have hw1 : IntKind.i64.wrap (n - 1) = n - 1 := by rw [IntKind.wrap_i64]; omega
    have IH := Lib.hid (fun W (h : Cur B W cb) => ih (n - 1) W (by omega) (by omega) h)
    have hm := mkN_le (d := d) (by omega)
    have HMK : Hid (mkN (d + 1) = 2 * mkN d + 1) := rfl
    generalize mkN (d + 1) = M at HMK ⊢
    generalize mkN d = m at IH hm HMK
    obtain ⟨y, hy⟩ : ∃ y, y = w.alloc (.cells #[.slice none 0 0] 26) := ⟨_, rfl⟩
    have hs0 : Since w y := by rw [hy]; exact (Since.refl w).alloc _
    have hyz : w.heap.size + 1 = y.heap.size := by rw [hy]; simp
    have BR : Hid (Blk y w.heap.size 26 #[.slice none 0 0]) := by rw [hy]; exact Blk.new rfl _ _
    have HC := Lib.hid (hc.since hs0)
    clear hc hn hd ih
    go_enter Tryd.func117, Tryd.ntmps117
    go_wp2_with fail
    rw [← hy]
    clear hy
    refine (l1Below_any B cb 6 _ HC.out (by decide) (by decide)).mono ?_
    rintro e w1 ⟨x, hx0, hx9, rfl, hc1, ht1⟩
    have hz1 := ht1.size
    have ht01 := (Turn.of_since (cb := cb) hs0).trans ht1
    have BR1 := Lib.hid (BR.out.turnX ht1 (by omega))
    have HC1 := Lib.hid hc1
    have HT1 := Lib.hid ht01
    clear HC hc1 ht1 ht01
    rcases (by omega : x = 0 ∨ x = 1 ∨ x = 2 ∨ x = 3 ∨ x = 4 ∨ x = 5) with rfl | rfl | rfl | rfl | rfl | rfl
    · skip
      go_wp2_with fail
      refine (IH.out _ HC1.out).mono ?_
      rintro e w2 ⟨v2, xs2, rfl, ho2, hl2, hm2, hc2, ht2⟩
      have hz2 := ht2.size
      have HT2 := Lib.hid (HT1.out.trans ht2)
      have BR2 := Lib.hid (BR1.out.turnX ht2 (by omega))
      have HC2 := Lib.hid hc2
      have HO2 := Lib.hid ho2
      clear ho2 hc2
      go_wp2_with fail
      refine (IH.out _ HC2.out).mono ?_
      rintro e w3 ⟨v3, xs3, rfl, ho3, hl3, hm3, hc3, ht3⟩
      have hz3 := ht3.size
      have HT3 := Lib.hid (HT2.out.trans ht3)
      have BR3 := Lib.hid (BR2.out.turnX ht3 (by omega))
      have HC3 := Lib.hid hc3
      have HO3 := Lib.hid ho3
      clear ho3 hc3
      go_wp2_with fail
      refine (l8Join_any _ _ xs2 xs3 ⟨4, 0, 0, 0⟩ _ (HO2.out.turnX ht3 (by omega)).at HO3.out.at (leafK_in 4 (by decide)) (by omega) (by first | omega | simp)).mono ?_
      rintro e w4 ⟨v, rfl, ⟨b, rfl, hk, _⟩, hs4⟩
      have HK := Lib.hid hk
      obtain ⟨bo, bn, bc, _, rfl⟩ := hk.lenN
      clear hk
      obtain ⟨r0, r1⟩ := (BR3.out.since hs4).one
      have HC := Lib.hid (HC3.out.since hs4)
      have HT := Lib.hid (HT3.out.trans (Turn.of_since hs4))
      go_wp2_with fail
      refine bodyPost_ret (v := .agg #[.slice bo bn bc]) (by simp [results, Tryd.results117, go_sem, *]) rfl ?_
      exact drawEx_box w.heap.size (Nat.le_refl _) hcb HK.out (by omega) (by simp only [List.length_append, List.length_cons, List.length_nil]; omega) (by have := HMK.out; simp only [List.length_append, List.length_cons, List.length_nil]; omega) HC.out HT.out _
    · skip
      go_wp2_with fail
      refine (IH.out _ HC1.out).mono ?_
      rintro e w2 ⟨v2, xs2, rfl, ho2, hl2, hm2, hc2, ht2⟩
      have hz2 := ht2.size
      have HT2 := Lib.hid (HT1.out.trans ht2)
      have BR2 := Lib.hid (BR1.out.turnX ht2 (by omega))
      have HC2 := Lib.hid hc2
      have HO2 := Lib.hid ho2
      clear ho2 hc2
      go_wp2_with fail
      refine (IH.out _ HC2.out).mono ?_
      rintro e w3 ⟨v3, xs3, rfl, ho3, hl3, hm3, hc3, ht3⟩
      have hz3 := ht3.size
      have HT3 := Lib.hid (HT2.out.trans ht3)
      have BR3 := Lib.hid (BR2.out.turnX ht3 (by omega))
      have HC3 := Lib.hid hc3
      have HO3 := Lib.hid ho3
      clear ho3 hc3
      go_wp2_with fail
      refine (l8Join_any _ _ xs2 xs3 ⟨4, 0, 0, 0⟩ _ (HO2.out.turnX ht3 (by omega)).at HO3.out.at (leafK_in 4 (by decide)) (by omega) (by first | omega | simp)).mono ?_
      rintro e w4 ⟨v, rfl, ⟨b, rfl, hk, _⟩, hs4⟩
      have HK := Lib.hid hk
      obtain ⟨bo, bn, bc, _, rfl⟩ := hk.lenN
      clear hk
      obtain ⟨r0, r1⟩ := (BR3.out.since hs4).one
      have HC := Lib.hid (HC3.out.since hs4)
      have HT := Lib.hid (HT3.out.trans (Turn.of_since hs4))
      go_wp2_with fail
      refine bodyPost_ret (v := .agg #[.slice bo bn bc]) (by simp [results, Tryd.results117, go_sem, *]) rfl ?_
      exact drawEx_box w.heap.size (Nat.le_refl _) hcb HK.out (by omega) (by simp only [List.length_append, List.length_cons, List.length_nil]; omega) (by have := HMK.out; simp only [List.length_append, List.length_cons, List.length_nil]; omega) HC.out HT.out _
    · skip
      go_wp2_with fail
      refine (IH.out _ HC1.out).mono ?_
      rintro e w2 ⟨v2, xs2, rfl, ho2, hl2, hm2, hc2, ht2⟩
      have hz2 := ht2.size
      have HT2 := Lib.hid (HT1.out.trans ht2)
      have BR2 := Lib.hid (BR1.out.turnX ht2 (by omega))
      have HC2 := Lib.hid hc2
      have HO2 := Lib.hid ho2
      clear ho2 hc2
      go_wp2_with fail
      refine (IH.out _ HC2.out).mono ?_
      rintro e w3 ⟨v3, xs3, rfl, ho3, hl3, hm3, hc3, ht3⟩
      have hz3 := ht3.size
      have HT3 := Lib.hid (HT2.out.trans ht3)
      have BR3 := Lib.hid (BR2.out.turnX ht3 (by omega))
      have HC3 := Lib.hid hc3
      have HO3 := Lib.hid ho3
      clear ho3 hc3
      go_wp2_with fail
      refine (l8Join_any _ _ xs2 xs3 ⟨5, 0, 0, 0⟩ _ (HO2.out.turnX ht3 (by omega)).at HO3.out.at (leafK_in 5 (by decide)) (by omega) (by first | omega | simp)).mono ?_
      rintro e w4 ⟨v, rfl, ⟨b, rfl, hk, _⟩, hs4⟩
      have HK := Lib.hid hk
      obtain ⟨bo, bn, bc, _, rfl⟩ := hk.lenN
      clear hk
      obtain ⟨r0, r1⟩ := (BR3.out.since hs4).one
      have HC := Lib.hid (HC3.out.since hs4)
      have HT := Lib.hid (HT3.out.trans (Turn.of_since hs4))
      go_wp2_with fail
      refine bodyPost_ret (v := .agg #[.slice bo bn bc]) (by simp [results, Tryd.results117, go_sem, *]) rfl ?_
      exact drawEx_box w.heap.size (Nat.le_refl _) hcb HK.out (by omega) (by simp only [List.length_append, List.length_cons, List.length_nil]; omega) (by have := HMK.out; simp only [List.length_append, List.length_cons, List.length_nil]; omega) HC.out HT.out _
    · skip
      go_wp2_with fail
      refine (IH.out _ HC1.out).mono ?_
      rintro e w2 ⟨v2, xs2, rfl, ho2, hl2, hm2, hc2, ht2⟩
      have hz2 := ht2.size
      have HT2 := Lib.hid (HT1.out.trans ht2)
      have BR2 := Lib.hid (BR1.out.turnX ht2 (by omega))
      have HC2 := Lib.hid hc2
      have HO2 := Lib.hid ho2
      clear ho2 hc2
      go_wp2_with fail
      refine (IH.out _ HC2.out).mono ?_
      rintro e w3 ⟨v3, xs3, rfl, ho3, hl3, hm3, hc3, ht3⟩
      have hz3 := ht3.size
      have HT3 := Lib.hid (HT2.out.trans ht3)
      have BR3 := Lib.hid (BR2.out.turnX ht3 (by omega))
      have HC3 := Lib.hid hc3
      have HO3 := Lib.hid ho3
      clear ho3 hc3
      go_wp2_with fail
      refine (l8Join_any _ _ xs2 xs3 ⟨5, 0, 0, 0⟩ _ (HO2.out.turnX ht3 (by omega)).at HO3.out.at (leafK_in 5 (by decide)) (by omega) (by first | omega | simp)).mono ?_
      rintro e w4 ⟨v, rfl, ⟨b, rfl, hk, _⟩, hs4⟩
      have HK := Lib.hid hk
      obtain ⟨bo, bn, bc, _, rfl⟩ := hk.lenN
      clear hk
      obtain ⟨r0, r1⟩ := (BR3.out.since hs4).one
      have HC := Lib.hid (HC3.out.since hs4)
      have HT := Lib.hid (HT3.out.trans (Turn.of_since hs4))
      go_wp2_with fail
      refine bodyPost_ret (v := .agg #[.slice bo bn bc]) (by simp [results, Tryd.results117, go_sem, *]) rfl ?_
      exact drawEx_box w.heap.size (Nat.le_refl _) hcb HK.out (by omega) (by simp only [List.length_append, List.length_cons, List.length_nil]; omega) (by have := HMK.out; simp only [List.length_append, List.length_cons, List.length_nil]; omega) HC.out HT.out _
    · skip
      go_wp2_with fail
      refine (IH.out _ HC1.out).mono ?_
      rintro e w2 ⟨v2, xs2, rfl, ho2, hl2, hm2, hc2, ht2⟩
      have hz2 := ht2.size
      have HT2 := Lib.hid (HT1.out.trans ht2)
      have BR2 := Lib.hid (BR1.out.turnX ht2 (by omega))
      have HC2 := Lib.hid hc2
      have HO2 := Lib.hid ho2
      clear ho2 hc2
      go_wp2_with fail
      refine (l8Join_any _ _ xs2 [] ⟨6, 0, 0, 0⟩ _ HO2.out.at (ex_nil _) (leafK_in 6 (by decide)) (by omega) (by first | omega | simp)).mono ?_
      rintro e w3 ⟨v, rfl, ⟨b, rfl, hk, _⟩, hs3⟩
      have HK := Lib.hid hk
      obtain ⟨bo, bn, bc, _, rfl⟩ := hk.lenN
      clear hk
      obtain ⟨r0, r1⟩ := (BR2.out.since hs3).one
      have HC := Lib.hid (HC2.out.since hs3)
      have HT := Lib.hid (HT2.out.trans (Turn.of_since hs3))
      go_wp2_with fail
      refine bodyPost_ret (v := .agg #[.slice bo bn bc]) (by simp [results, Tryd.results117, go_sem, *]) rfl ?_
      exact drawEx_box w.heap.size (Nat.le_refl _) hcb HK.out (by omega) (by simp only [List.length_append, List.length_cons, List.length_nil]; omega) (by have := HMK.out; simp only [List.length_append, List.length_cons, List.length_nil]; omega) HC.out HT.out _
    · skip
      go_wp2_with fail
      refine (l1Below_any B cb 3 _ HC1.out (by decide) (by decide)).mono ?_
      rintro e w2 ⟨h, hh0, hh9, rfl, hc2, ht2⟩
      have hz2 := ht2.size
      have HT2 := Lib.hid (HT1.out.trans ht2)
      have BR2 := Lib.hid (BR1.out.turnX ht2 (by omega))
      have HC2 := Lib.hid hc2
      have hw2 : IntKind.i64.wrap (1 + h) = 1 + h := by rw [IntKind.wrap_i64]; omega
      have hw3 : IntKind.i64.wrap (1 + h + 1) = 1 + h + 1 := by rw [IntKind.wrap_i64]; omega
      clear hc2
      go_wp2_with fail
      refine (IH.out _ HC2.out).mono ?_
      rintro e w3 ⟨v3, xs3, rfl, ho3, hl3, hm3, hc3, ht3⟩
      have hz3 := ht3.size
      have HT3 := Lib.hid (HT2.out.trans ht3)
      have BR3 := Lib.hid (BR2.out.turnX ht3 (by omega))
      have HC3 := Lib.hid hc3
      have HO3 := Lib.hid ho3
      clear ho3 hc3
      go_wp2_with fail
      refine (l1Below_any B cb (1 + h + 1) _ HC3.out (by omega) (by omega)).mono ?_
      rintro e w4 ⟨lw, hw40, hw49, rfl, hc4, ht4⟩
      have hz4 := ht4.size
      have HT4 := Lib.hid (HT3.out.trans ht4)
      have BR4 := Lib.hid (BR3.out.turnX ht4 (by omega))
      have HC4 := Lib.hid hc4
      clear hc4
      go_wp2_with fail
      refine (l8Join_any _ _ xs3 [] ⟨7, 0, lw, 1 + h⟩ _ (HO3.out.turnX ht4 (by omega)).at (ex_nil _) ⟨int_lit 7 (by decide), int_lit 0 (by decide), int_lit lw (by omega), int_lit (1 + h) (by omega)⟩ (by omega) (by first | omega | simp)).mono ?_
      rintro e w5 ⟨v, rfl, ⟨b, rfl, hk, _⟩, hs5⟩
      have HK := Lib.hid hk
      obtain ⟨bo, bn, bc, _, rfl⟩ := hk.lenN
      clear hk
      obtain ⟨r0, r1⟩ := (BR4.out.since hs5).one
      have HC := Lib.hid (HC4.out.since hs5)
      have HT := Lib.hid (HT4.out.trans (Turn.of_since hs5))
      go_wp2_with fail
      refine bodyPost_ret (v := .agg #[.slice bo bn bc]) (by simp [results, Tryd.results117, go_sem, *]) rfl ?_
      exact drawEx_box w.heap.size (Nat.le_refl _) hcb HK.out (by omega) (by simp only [List.length_append, List.length_cons, List.length_nil]; omega) (by have := HMK.out; simp only [List.length_append, List.length_cons, List.length_nil]; omega) HC.out HT.out _
set_option maxHeartbeats 4000000 in
set_option maxRecDepth 100000 in
theorem l8Expr_any (B cb : Nat) (w : World) (hc : Cur B w cb) : Calls Tryd.prog 101 #[.pointer (some ⟨cb, 0, none⟩)] w (DrawEx B cb 25 w) := by
  have hcb := hc.2.1
  obtain ⟨y, hy⟩ : ∃ y, y = w.alloc (.cells #[.slice none 0 0] 26) := ⟨_, rfl⟩
  have hs0 : Since w y := by rw [hy]; exact (Since.refl w).alloc _
  have hyz : w.heap.size + 1 = y.heap.size := by rw [hy]; simp
  have BR : Hid (Blk y w.heap.size 26 #[.slice none 0 0]) := by rw [hy]; exact Blk.new rfl _ _
  have HC := Lib.hid (hc.since hs0)
  clear hc
  go_enter Tryd.func101, Tryd.ntmps101
  go_wp2_with fail
  rw [← hy]
  clear hy
  refine (l1Once_any B cb 2 _ HC.out (by decide) (by decide)).mono ?_
  rintro e w1 ⟨k, rfl, hc1, ht1⟩
  have hz1 := ht1.size
  have ht01 := (Turn.of_since (cb := cb) hs0).trans ht1
  have BR1 := Lib.hid (BR.out.turnX ht1 (by omega))
  have HC1 := Lib.hid hc1
  have HT1 := Lib.hid ht01
  clear HC hc1 ht1 ht01
  cases k with
  | true =>
    go_wp2_with fail
    refine (l8Known_any B cb _ HC1.out).mono ?_
    rintro e w2 ⟨v, xs, rfl, ⟨b, rfl, hk, _⟩, hl2, hm2, hc2, ht2⟩
    have HK := Lib.hid hk
    obtain ⟨bo, bn, bc, _, rfl⟩ := hk.lenN
    obtain ⟨r0, r1⟩ := (BR1.out.turnX ht2 (by omega)).one
    have HC2 := Lib.hid hc2
    have HT2 := Lib.hid (HT1.out.trans ht2)
    clear hk hc2 ht2 HC1 HT1
    go_wp2_with fail
    refine bodyPost_ret (v := .agg #[.slice bo bn bc]) (by simp [results, Tryd.results101, go_sem, *]) rfl ?_
    exact drawEx_box w.heap.size (Nat.le_refl _) hcb HK.out (by omega) hl2 hm2 HC2.out HT2.out _
  | false =>
    go_wp2_with fail
    refine (l1Below_any B cb 3 _ HC1.out (by decide) (by decide)).mono ?_
    rintro e w2 ⟨h, hh0, hh9, rfl, hc2, ht2⟩
    have hz2 := ht2.size
    have HT2 := Lib.hid (HT1.out.trans ht2)
    have BR2 := Lib.hid (BR1.out.turnX ht2 (by omega))
    have HC2 := Lib.hid hc2
    have hw2 : IntKind.i64.wrap (1 + h) = 1 + h := by rw [IntKind.wrap_i64]; omega
    obtain ⟨d, hd⟩ : ∃ d : Nat, 1 + h = (d : Int) := ⟨(1 + h).toNat, by omega⟩
    have hd3 : d ≤ 3 := by omega
    have HM := Lib.hid (l8Make_any B cb d (1 + h) w2 hd hd3 HC2.out)
    have hmk := mkN_le hd3
    generalize mkN d = m at HM hmk
    clear hd hc2 ht2 HC1 HT1
    go_wp2_with fail
    refine HM.out.mono ?_
    rintro e w3 ⟨v, xs, rfl, ⟨b, rfl, hk, _⟩, hl3, hm3, hc3, ht3⟩
    have HK := Lib.hid hk
    obtain ⟨bo, bn, bc, _, rfl⟩ := hk.lenN
    obtain ⟨r0, r1⟩ := (BR2.out.turnX ht3 (by omega)).one
    have HC3 := Lib.hid hc3
    have HT3 := Lib.hid (HT2.out.trans ht3)
    clear hk hc3 ht3 HM HC2 HT2
    go_wp2_with fail
    refine bodyPost_ret (v := .agg #[.slice bo bn bc]) (by simp [results, Tryd.results101, go_sem, *]) rfl ?_
    exact drawEx_box w.heap.size (Nat.le_refl _) hcb HK.out (by omega) hl3 (by omega) HC3.out HT3.out _
end Go.Proofs.YtiojgahjfndmdaaDoor
