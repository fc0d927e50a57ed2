/- The drawing functions of chapter 1: what they may give. -/
import Derived.Test.YtiojgahjfndmdaaDoorCur
import Derived.Test.YtiojgahjfndmdaaDoorBytes
namespace Go.Proofs.YtiojgahjfndmdaaDoor
set_option maxRecDepth 100000
open Go.ChangeShapes Go.WideShapes Go.ChangeAt Go.RowKit

/-- append of one cell to a row of the call's own, told by what it turns. -/
theorem append_turn {wr : World} {ops : Array Oper} {rest : List Oper} {o : Oper} {a : Act} {Q : Exit → Act → World → Prop}
    (hgd : o.guard = none) (s x : Operand) (t : TypeId) (ho : o.op = .call { callee := .builtin .append, args := #[s, x], argTypes := #[t, t] })
    (e : TypeId) (z : Value) (bytes : Nat) (ht : Tryd.prog.underlying t = some (.slice e))
    (hinfo : (Tryd.prog.info? e).map (fun i => (i.zero, i.size, i.bytes)) = some (some z, 1, bytes)) (hz : z.cells.size = 1)
    (base : Nat) (v : Value) (n : Nat) (xs : List Value) (hs : a.eval s = v) (hown : wr.ownsRow base e 1 v n xs) (hbase : base ≤ wr.heap.size)
    (y : Value) (hy : y.oneCell' = true) (hx : a.eval x = .slice (some ⟨wr.heap.size, 0, none⟩) 1 1)
    (hb : (n + 1) * bytes ≤ 140737488355328) (h63 : n + 1 ≤ maxLen)
    (h : ∀ v' w', w'.ownsRow base e 1 v' (n + 1) (xs ++ [y]) → wr.grownBy w' v.ownBlock → wpList Tryd.prog ops Q rest (a.put o.dst v') w') :
    wpList Tryd.prog ops Q (o :: rest) a (wr.alloc (.cells #[y] e)) := by
  obtain ⟨i0, hi, hz0, hz1, hz2⟩ := info_parts hinfo
  refine wpList_append_own _ hgd s x t ho base e i0 z 1 bytes ht hi hz0 hz1 hz2 hz (by decide) v n xs hs (hown.alloc _) ⟨wr.heap.size, 0, none⟩ 1 1 [y] hx rfl ?_ ?_ h63 hb ?_ ?_
  · intro j u hj
    match j, hj with
    | 0, hj => simp at hj; subst hj; simp [Addr.add]
  · intro u hu
    simp at hu; subst hu; exact hy
  · simp; omega
  · intro v' w' h1 h2 _
    exact h v' w' h1 (grow_trans (World.grownBy_alloc wr _ _) h2)

def TextOut (B cb most : Nat) (w : World) (e : Ending) (w' : World) : Prop := ∃ l : List UInt8, l.length ≤ most ∧ e = .returned (.string ⟨l.toArray⟩) ∧ Cur B w' cb ∧ Turn cb w w'

theorem wrap_bd (n : Int) : -9223372036854775808 ≤ wrap64 n ∧ wrap64 n ≤ 9223372036854775807 := by unfold wrap64; omega

def IntOut (B cb : Nat) (w : World) (e : Ending) (w' : World) : Prop := ∃ x : Int, -9223372036854775808 ≤ x ∧ x ≤ 9223372036854775807 ∧ e = .returned (.int .i64 x) ∧ Cur B w' cb ∧ Turn cb w w'

theorem l1PickInt_any (B cb lb n : Nat) (w : World) (hc : Cur B w cb) (hne : lb ≠ cb) (hlt : lb < w.heap.size) (h0 : 0 < n) (h9 : n ≤ 1000)
    (hl : ∀ j, j < n → ∃ x : Int, -9223372036854775808 ≤ x ∧ x ≤ 9223372036854775807 ∧ w.cell? ⟨lb, j, none⟩ = some (.int .i64 x)) :
    Calls Tryd.prog 107 #[.pointer (some ⟨cb, 0, none⟩), .slice (some ⟨lb, 0, none⟩) n n] w (IntOut B cb w) := by
  have HL := Lib.hid hl
  have HNE := Lib.hid hne
  clear hl hne
  go_enter Tryd.func107, Tryd.ntmps107
  go_wp2_with fail
  refine (l1Below_any B cb n _ hc (by omega) (by omega)).mono ?_
  rintro e w1 ⟨x, hx0, hx9, rfl, hc1, ht1⟩
  obtain ⟨x, rfl⟩ := Int.eq_ofNat_of_zero_le hx0
  have hxn : x < n := by omega
  obtain ⟨y, hy0, hy9, hy⟩ := HL.out x hxn
  have hy1 : w1.cell? ⟨lb, x, none⟩ = some (.int .i64 y) := (World.cell?_of_block (w := w) (w' := w1) (a := ⟨lb, x, none⟩) (ht1.block lb hlt (fun e => HNE.out (by injection e)))).trans hy
  have HC1 := Lib.hid hc1
  have HT1 := Lib.hid ht1
  clear hc1 ht1 hc hy
  go_wp2_with fail
  go_ret
  exact ⟨y, hy0, hy9, rfl, HC1.out, HT1.out⟩

def nums17 : List Int := [-1, 0, 127, 128, 255, 256, 16383, 16384, 65535, 65536, 562949953421311, 562949953421312, 999999999, 1000000000, -999999999, 9223372036854775807, -9223372036854775808]
theorem nums17_in : ∀ x ∈ nums17, -9223372036854775808 ≤ x ∧ x ≤ 9223372036854775807 := by decide +kernel

def DrawInt (w : World) (e : Ending) (w' : World) : Prop := ∃ x : Int, -9223372036854775808 ≤ x ∧ x ≤ 9223372036854775807 ∧ e = .returned (.int .i64 x) ∧ Since w w'
def DrawText (most : Nat) (w : World) (e : Ending) (w' : World) : Prop := ∃ l : List UInt8, l.length ≤ most ∧ e = .returned (.string ⟨l.toArray⟩) ∧ Since w w'
def DrawFixed (w : World) (e : Ending) (w' : World) : Prop := ∃ x y : Int, -9223372036854775808 ≤ x ∧ x ≤ 9223372036854775807 ∧ -1 ≤ y ∧ y ≤ 8 ∧ e = .returned (.tuple #[.int .i64 x, .int .i64 y]) ∧ Since w w'
end Go.Proofs.YtiojgahjfndmdaaDoor
