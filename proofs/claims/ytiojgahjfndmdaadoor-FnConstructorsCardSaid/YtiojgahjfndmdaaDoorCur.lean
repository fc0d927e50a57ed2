/- The drawing cursor of the model: what a byte drawn from it may be, and what the drawing turns in memory. -/
import Derived.Test.YtiojgahjfndmdaaDoorK0
import Derived.Deep.QuietTactic
import Derived.RegionTactic
namespace Go.Proofs.YtiojgahjfndmdaaDoor
set_option maxRecDepth 100000
open Go.ChangeShapes Go.WideShapes Go.ChangeAt Go.RowKit

/-- A []byte whose cells lie below block B. -/
def CodeIn (B : Nat) (w : World) (v : Value) : Prop :=
  ∃ ao len cap, v = .slice ao len cap ∧ len ≤ 140737488355328 ∧ ∀ j, j < len → ∃ b off x, ao = some ⟨b, off, none⟩ ∧ b < B ∧ b < w.heap.size ∧ 0 ≤ x ∧ x < 256 ∧ w.cell? ⟨b, off + j, none⟩ = some (.int .u8 x)
/-- The same, of whatever length. -/
def CodeAt (B : Nat) (w : World) (v : Value) : Prop :=
  ∃ ao len cap, v = .slice ao len cap ∧ len ≤ 9223372036854775807 ∧ ∀ j, j < len → ∃ b off x, ao = some ⟨b, off, none⟩ ∧ b < B ∧ b < w.heap.size ∧ 0 ≤ x ∧ x < 256 ∧ w.cell? ⟨b, off + j, none⟩ = some (.int .u8 x)
/-- Block cb holds a cursor over such bytes. -/
def Cur (B : Nat) (w : World) (cb : Nat) : Prop :=
  B ≤ cb ∧ cb < w.heap.size ∧ ∃ v i h T, w.heap[cb]? = some (.cells #[v, .int .i64 i, .int .i64 h] T (0, 0)) ∧ CodeIn B w v ∧ 0 ≤ i ∧ i ≤ 140737488355328
/-- A step that turns the cursor's block alone, and lays new blocks. -/
def Turn (cb : Nat) (w w' : World) : Prop := w.grownBy w' (some cb)
theorem Turn.refl (cb : Nat) (w : World) : Turn cb w w := ⟨rfl, rfl, rfl, Nat.le_refl _, fun _ _ _ => rfl⟩
theorem Turn.trans {cb : Nat} {a b c : World} (h : Turn cb a b) (k : Turn cb b c) : Turn cb a c :=
  ⟨k.os.trans h.os, k.tape.trans h.tape, k.output.trans h.output, Nat.le_trans h.size k.size, fun i hi hn => (k.block i (Nat.lt_of_lt_of_le hi h.size) hn).trans (h.block i hi hn)⟩
theorem Turn.drew {cb : Nat} {a b : World} (h : Turn cb a b) : Turn cb a b.drew := ⟨h.os, h.tape, h.output, h.size, h.block⟩
theorem Turn.drewN {cb : Nat} {a b : World} (h : Turn cb a b) (n : Nat) : Turn cb a (b.drewN n) := ⟨h.os, h.tape, h.output, h.size, h.block⟩
theorem Turn.setCell {cb : Nat} {a b : World} (h : Turn cb a b) (o : Nat) (u : Value) : Turn cb a (b.setCell ⟨cb, o, none⟩ u) :=
  ⟨h.os, h.tape, h.output, by simpa [World.setCell] using h.size, fun i hi hn => (Below.heap_setCell b ⟨cb, o, none⟩ u i (fun e => hn (by rw [e]))).trans (h.block i hi hn)⟩
theorem Turn.of_since {cb : Nat} {a b : World} (h : Since a b) : Turn cb a b := ⟨h.os, h.tape, h.output, h.size, fun i hi _ => h.block i hi⟩
theorem Since.turn {w0 w w' : World} {cb : Nat} (h : Since w0 w) (hc : w0.heap.size ≤ cb) (k : Turn cb w w') : Since w0 w' :=
  Since.grown h k (fun _ e => by injection e with e; omega)
theorem CodeIn.turn {B cb : Nat} {w w' : World} {v : Value} (h : CodeIn B w v) (hB : B ≤ cb) (k : Turn cb w w') : CodeIn B w' v := by
  obtain ⟨ao, len, cap, hv, hl, hc⟩ := h
  refine ⟨ao, len, cap, hv, hl, fun j hj => ?_⟩
  obtain ⟨b, off, x, h1, h2, h3, h4, h5, h6⟩ := hc j hj
  exact ⟨b, off, x, h1, h2, Nat.lt_of_lt_of_le h3 k.size, h4, h5, (World.cell?_of_block (w := w) (w' := w') (a := ⟨b, off + j, none⟩) (k.block b h3 (fun e => by injection e with e; omega))).trans h6⟩
theorem CodeIn.since {B : Nat} {w w' : World} {v : Value} (h : CodeIn B w v) (k : Since w w') : CodeIn B w' v := by
  obtain ⟨ao, len, cap, hv, hl, hc⟩ := h
  refine ⟨ao, len, cap, hv, hl, fun j hj => ?_⟩
  obtain ⟨b, off, x, h1, h2, h3, h4, h5, h6⟩ := hc j hj
  exact ⟨b, off, x, h1, h2, Nat.lt_of_lt_of_le h3 k.size, h4, h5, (Below.cell k (p := ⟨b, off + j, none⟩) h3).trans h6⟩
theorem Cur.since {B : Nat} {w w' : World} {cb : Nat} (h : Cur B w cb) (k : Since w w') : Cur B w' cb := by
  obtain ⟨h1, h2, v, i, x, T, h3, h4, h5⟩ := h
  exact ⟨h1, Nat.lt_of_lt_of_le h2 k.size, v, i, x, T, (k.block cb h2).trans h3, h4.since k, h5⟩

theorem Turn.grown {cb : Nat} {a b c : World} {row : Option Nat} (h : Turn cb a b) (k : b.grownBy c row) (hr : ∀ g, row = some g → a.heap.size ≤ g) : Turn cb a c :=
  ⟨k.os.trans h.os, k.tape.trans h.tape, k.output.trans h.output, Nat.le_trans h.size k.size, fun i hi hn => (k.block i (Nat.lt_of_lt_of_le hi h.size) (fun e => by have := hr i e.symm; omega)).trans (h.block i hi hn)⟩
theorem Cur.grown {B cb : Nat} {w w' : World} {row : Option Nat} (h : Cur B w cb) (k : w.grownBy w' row) (hr : ∀ g, row = some g → cb < g) : Cur B w' cb := by
  obtain ⟨h1, h2, v, i, x, T, h3, ⟨ao, len, cap, hv, hl, hc⟩, h5⟩ := h
  refine ⟨h1, Nat.lt_of_lt_of_le h2 k.size, v, i, x, T, (k.block cb h2 (fun e => by have := hr cb e.symm; omega)).trans h3, ⟨ao, len, cap, hv, hl, fun j hj => ?_⟩, h5⟩
  obtain ⟨b, off, y, g1, g2, g3, g4, g5, g6⟩ := hc j hj
  exact ⟨b, off, y, g1, g2, Nat.lt_of_lt_of_le g3 k.size, g4, g5, (World.cell?_of_block (w := w) (w' := w') (a := ⟨b, off + j, none⟩) (k.block b g3 (fun e => by have := hr b e.symm; omega))).trans g6⟩
theorem grow_trans {a b c : World} {row : Option Nat} (h : a.grownBy b row) (k : b.grownBy c row) : a.grownBy c row :=
  ⟨k.os.trans h.os, k.tape.trans h.tape, k.output.trans h.output, Nat.le_trans h.size k.size, fun i hi hn => (k.block i (Nat.lt_of_lt_of_le hi h.size) hn).trans (h.block i hi hn)⟩

theorem and_255 (a : Int) : 0 ≤ bits .and .i64 a 255 ∧ bits .and .i64 a 255 < 256 := by
  have key : ∀ x : BitVec 64, (x &&& 255#64).toNat < 256 := fun x => by
    rw [BitVec.toNat_and]
    exact Nat.and_lt_two_pow (n := 8) _ (by decide)
  have h := key (BitVec.ofInt 64 a)
  have e : bits .and .i64 a 255 = (((BitVec.ofInt 64 a) &&& 255#64).toNat : Int) := by
    show IntKind.i64.wrap (((BitVec.ofInt 64 a) &&& BitVec.ofInt 64 255).toNat : Int) = _
    rw [show BitVec.ofInt 64 255 = 255#64 from rfl]
    exact wrap_small _ (by omega)
  rw [e]; omega

/-- What a drawn byte is, and the world behind it. -/
def ByteOut (B cb : Nat) (w : World) (e : Ending) (w' : World) : Prop := ∃ x : Int, 0 ≤ x ∧ x < 256 ∧ e = .returned (.int .i64 x) ∧ Cur B w' cb ∧ Turn cb w w'

theorem block_setCell (w : World) (cb o : Nat) (C : Array Value) (t : TypeId) (u : Value) (h : w.heap[cb]? = some (.cells C t (0, 0))) : (w.setCell ⟨cb, o, none⟩ u).heap[cb]? = some (.cells (C.setIfInBounds o u) t (0, 0)) :=
  heap_setCell_same w cb o C t u h

set_option maxRecDepth 100000 in
theorem l1Byte_any (B cb : Nat) (w : World) (hc : Cur B w cb) :
    Calls Tryd.prog 111 #[.pointer (some ⟨cb, 0, none⟩)] w (ByteOut B cb w) := by
  obtain ⟨hB, hlt, v, i, h, T0, hblk, ⟨ao, len, cap, rfl, hlen, hcode⟩, hi0, hi9⟩ := hc
  have c0 : w.cell? ⟨cb, 0, none⟩ = some (.slice ao len cap) := by rw [cell_of_row w cb 0 _ _ _ hblk]; rfl
  have c1 : w.cell? ⟨cb, 1, none⟩ = some (.int .i64 i) := by rw [cell_of_row w cb 1 _ _ _ hblk]; rfl
  have c2 : w.cell? ⟨cb, 2, none⟩ = some (.int .i64 h) := by rw [cell_of_row w cb 2 _ _ _ hblk]; rfl
  have f1 : w.frozen? ⟨cb, 1, none⟩ = false := frozen_of_row w cb 1 _ _ hblk
  have f2 : w.frozen? ⟨cb, 2, none⟩ = false := frozen_of_row w cb 2 _ _ hblk
  obtain ⟨h2, hh⟩ : ∃ h2, wrap64 (wrap64 (h * 6364136223846793005) + 1442695040888963407) = h2 := ⟨_, rfl⟩
  obtain ⟨x0, hx0⟩ : ∃ x0, bits .and .i64 (bits .xor .i64 (h2 / 8589934592) (h2 / 35184372088832)) 255 = x0 := ⟨_, rfl⟩
  have hx1 : 0 ≤ x0 ∧ x0 < 256 := by rw [← hx0]; exact and_255 _
  obtain ⟨j, rfl⟩ := Int.eq_ofNat_of_zero_le hi0
  by_cases hil : j < len
  · obtain ⟨b, off, y, rfl, hb, hb2, hy0, hy9, hy⟩ := hcode j hil
    have hne : b ≠ cb := by omega
    have hyw : ∀ u, (w.setCell ⟨cb, 2, none⟩ u).cell? ⟨b, off + j, none⟩ = some (.int .u8 y) := fun u => by
      rw [World.cell?_setCell_other _ _ _ _ (fun e => by have := congrArg Addr.block e; simp at this; omega)]; exact hy
    obtain ⟨x1, hx1'⟩ : ∃ x1, bits .and .i64 (x0 + y) 255 = x1 := ⟨_, rfl⟩
    have hx2 : 0 ≤ x1 ∧ x1 < 256 := by rw [← hx1']; exact and_255 _
    obtain ⟨ha, hb9⟩ := hx1
    have hili : (j : Int) < (len : Int) := by omega
    have hw1 : IntKind.i64.wrap y = y := IntWalk.i64_in _ (by omega)
    have hw2 : IntKind.i64.wrap (x0 + y) = x0 + y := IntWalk.i64_in _ (by omega)
    go_enter Tryd.func111, Tryd.ntmps111
    go_wp2_with fail
    go_quiet (fail)
    go_wp2_with fail
    go_quiet (fail)
    go_wp2_with fail
    go_quiet (fail)
    go_wp2_with fail
    go_ret
    have hT : ∀ n, Turn cb w ((((w.setCell ⟨cb, 2, none⟩ (.int .i64 h2)).drewN n).setCell ⟨cb, 1, none⟩ (.int .i64 ((j : Int) + 1)))) := fun n => (((Turn.refl cb w).setCell 2 _).drewN n).setCell 1 _
    refine ⟨x1, hx2.1, hx2.2, rfl, ⟨hB, Nat.lt_of_lt_of_le hlt (hT 0).size, _, _, _, _, block_setCell (w.setCell ⟨cb, 2, none⟩ (.int .i64 h2)) cb 1 _ _ (.int .i64 ((j : Int) + 1)) (block_setCell w cb 2 _ _ (.int .i64 h2) hblk), ?_, by omega, by omega⟩, ?_⟩
    · exact CodeIn.turn ⟨_, len, cap, rfl, hlen, hcode⟩ hB (hT _)
    · exact hT _
  · have hle : (len : Int) ≤ (j : Int) := by omega
    obtain ⟨ha, hb9⟩ := hx1
    go_enter Tryd.func111, Tryd.ntmps111
    go_wp2_with fail
    go_quiet (fail)
    go_wp2_with fail
    go_quiet (fail)
    go_wp2_with fail
    go_ret
    have hT : ∀ n m, Turn cb w (((w.setCell ⟨cb, 2, none⟩ (.int .i64 h2)).drewN n).drewN m) := fun n m => (((Turn.refl cb w).setCell 2 _).drewN n).drewN m
    refine ⟨x0, ha, hb9, rfl, ⟨hB, Nat.lt_of_lt_of_le hlt (hT 0 0).size, _, _, _, _, block_setCell w cb 2 _ _ (.int .i64 h2) hblk, ?_, by omega, by omega⟩, ?_⟩
    · exact CodeIn.turn ⟨_, len, cap, rfl, hlen, hcode⟩ hB (hT _ _)
    · exact hT _ _
theorem and_mask30 (a : Int) : 0 ≤ bits .and .i64 a 1073741823 ∧ bits .and .i64 a 1073741823 < 1073741824 := by
  have key : ∀ x : BitVec 64, (x &&& 1073741823#64).toNat < 1073741824 := fun x => by
    rw [BitVec.toNat_and]
    exact Nat.and_lt_two_pow (n := 30) _ (by decide)
  have h := key (BitVec.ofInt 64 a)
  have e : bits .and .i64 a 1073741823 = (((BitVec.ofInt 64 a) &&& 1073741823#64).toNat : Int) := by
    show IntKind.i64.wrap (((BitVec.ofInt 64 a) &&& BitVec.ofInt 64 1073741823).toNat : Int) = _
    rw [show BitVec.ofInt 64 1073741823 = 1073741823#64 from rfl]
    exact wrap_small _ (by omega)
  rw [e]; omega

def NewOut (B : Nat) (w : World) (e : Ending) (w' : World) : Prop := ∃ cb, e = .returned (.pointer (some ⟨cb, 0, none⟩)) ∧ w.heap.size ≤ cb ∧ Cur B w' cb ∧ Since w w'

set_option maxRecDepth 100000 in
theorem l1New_any (B : Nat) (w : World) (v : Value) (hB : B ≤ w.heap.size) (hv : CodeIn B w v) :
    Calls Tryd.prog 69 #[v] w (NewOut B w) := by
  have hv0 := Lib.hid hv
  obtain ⟨ao, len, cap, rfl, hlen, hcode⟩ := hv
  have HC := Lib.hid hcode
  clear hcode
  go_enter Tryd.func69, Tryd.ntmps69
  go_wp2_with fail
  go_loop [3, 4] (fun h i => ∃ (h0 : Int) (j : Nat), h = .int .i64 h0 ∧ 0 ≤ h0 ∧ h0 ≤ 140737488365429 ∧ i = .int .i64 j ∧ j ≤ 4000 ∧ j ≤ len) (fun _ i => 4000 - (intOf i).toNat)
  case atStart => exact ⟨_, 0, rfl, by omega, by omega, rfl, by omega, by omega⟩
  case round =>
    obtain ⟨h0, j, rfl, hh0, hh9, rfl, hj, hjl⟩ := hrel
    by_cases hlt : j < len ∧ j < 4000
    · obtain ⟨hl1, hl2⟩ := hlt
      obtain ⟨b, off, y, rfl, hb, hb2, hy0, hy9, hy⟩ := HC.out j hl1
      obtain ⟨x0, hx0⟩ : ∃ x0, bits .and .i64 (h0 * 131 + y + 7) 1073741823 = x0 := ⟨_, rfl⟩
      have hx1 : 0 ≤ x0 ∧ x0 < 1073741824 := by rw [← hx0]; exact and_mask30 _
      go_wp2
      go_round
      case rel => exact ⟨x0, j + 1, rfl, by omega, by omega, by go_num, by omega, by omega⟩
      case measure => simp [intOf]; omega
    · by_cases hl1 : j < len
      · have hl2 : 4000 ≤ j := by omega
        clear hlt
        go_wp2
        go_ret
        exact ⟨_, rfl, Nat.le_refl _, ⟨hB, by simp, _, _, _, _, heap_alloc_new w _, hv0.out.since ((Since.refl w).alloc _), by omega, by omega⟩, (Since.refl w).alloc _⟩
      · have hl2 : len ≤ j := by omega
        clear hlt hl1
        go_wp2
        go_ret
        exact ⟨_, rfl, Nat.le_refl _, ⟨hB, by simp, _, _, _, _, heap_alloc_new w _, hv0.out.since ((Since.refl w).alloc _), by omega, by omega⟩, (Since.refl w).alloc _⟩

/-- A drawn number below n, and the world behind it. -/
def BelowOut (B cb : Nat) (n : Int) (w : World) (e : Ending) (w' : World) : Prop := ∃ x : Int, 0 ≤ x ∧ x < n ∧ e = .returned (.int .i64 x) ∧ Cur B w' cb ∧ Turn cb w w'
set_option maxRecDepth 100000 in
theorem l1Below_any (B cb : Nat) (n : Int) (w : World) (hc : Cur B w cb) (h0 : 0 < n) (h9 : n ≤ 9223372036854775807) :
    Calls Tryd.prog 82 #[.pointer (some ⟨cb, 0, none⟩), .int .i64 n] w (BelowOut B cb n w) := by
  by_cases hs : n ≤ 256
  · go_enter Tryd.func82, Tryd.ntmps82
    go_wp2_with fail
    refine (l1Byte_any B cb _ hc).mono ?_
    rintro e w1 ⟨x, hx0, hx9, rfl, hc1, ht1⟩
    go_wp2_with fail
    go_ret
    exact ⟨x % n, Int.emod_nonneg _ (by omega), Int.emod_lt_of_pos _ (by omega), rfl, hc1, ht1⟩
  · have hs' : 256 < n := by omega
    clear hs
    go_enter Tryd.func82, Tryd.ntmps82
    go_wp2_with fail
    refine (l1Byte_any B cb _ hc).mono ?_
    rintro e w1 ⟨x, hx0, hx9, rfl, hc1, ht1⟩
    go_wp2_with fail
    refine (l1Byte_any B cb _ hc1).mono ?_
    rintro e w2 ⟨y, hy0, hy9, rfl, hc2, ht2⟩
    go_wp2_with fail
    refine (l1Byte_any B cb _ hc2).mono ?_
    rintro e w3 ⟨z, hz0, hz9, rfl, hc3, ht3⟩
    go_wp2_with fail
    refine (l1Byte_any B cb _ hc3).mono ?_
    rintro e w4 ⟨u, hu0, hu9, rfl, hc4, ht4⟩
    go_wp2_with fail
    go_ret
    exact ⟨(x * 16777216 + y * 65536 + z * 256 + u) % n, Int.emod_nonneg _ (by omega), Int.emod_lt_of_pos _ (by omega), rfl, hc4, ((ht1.trans ht2).trans ht3).trans ht4⟩
end Go.Proofs.YtiojgahjfndmdaaDoor
