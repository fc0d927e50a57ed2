/- The drawing functions of chapter 2: letters, words. -/
import Derived.Test.YtiojgahjfndmdaaDoorDraw1
import Derived.Test.YtiojgahjfndmdaaDoorK0
import Derived.Laws.AppendOwnNone
namespace Go.Proofs.YtiojgahjfndmdaaDoor
set_option maxRecDepth 100000
set_option linter.unusedVariables false
open Go.ChangeShapes Go.WideShapes Go.ChangeAt Go.RowKit

theorem big_any (w : World) (ao : Option Addr) (len cap : Nat) (h : len ≤ 9223372036854775807) :
    Calls Tryd.prog 12 #[.slice ao len cap] w fun e w' => e = .returned (.bool (decide (1048576 < len))) ∧ w = w' := by
  go_enter Tryd.func12, Tryd.ntmps12
  go_wp2
  go_ret
  exact ⟨ret_bool (by rw [decide_eq_decide]; omega), rfl⟩

def BoolOut (B cb : Nat) (w : World) (e : Ending) (w' : World) : Prop := ∃ b : Bool, e = .returned (.bool b) ∧ Cur B w' cb ∧ Turn cb w w'
theorem l1Once_any (B cb : Nat) (n : Int) (w : World) (hc : Cur B w cb) (h0 : 0 < n) (h9 : n ≤ 9223372036854775807) :
    Calls Tryd.prog 94 #[.pointer (some ⟨cb, 0, none⟩), .int .i64 n] w (BoolOut B cb w) := by
  have H := Lib.hid (l1Below_any B cb n w hc h0 h9)
  clear hc
  go_enter Tryd.func94, Tryd.ntmps94
  go_wp2_with fail
  refine H.out.mono ?_
  rintro e w1 ⟨x, hx0, hx9, rfl, hc1, ht1⟩
  go_wp2_with fail
  go_ret
  exact ⟨_, rfl, hc1, ht1⟩

theorem lit_cells (w : World) (l : List Int) (hl : ∀ x ∈ l, -9223372036854775808 ≤ x ∧ x ≤ 9223372036854775807) (A : Array Value) (hA : A = (l.map icell).toArray) (j : Nat) (hj : j < l.length) :
    ∃ y : Int, -9223372036854775808 ≤ y ∧ y ≤ 9223372036854775807 ∧ (w.alloc (.cells A 3)).cell? ⟨w.heap.size, j, none⟩ = some (.int .i64 y) := by
  have h := hl l[j] (List.getElem_mem hj)
  refine ⟨l[j], h.1, h.2, ?_⟩
  rw [World.cell?_alloc_at _ _ _ _ rfl, hA, List.getElem?_toArray, List.getElem?_map, List.getElem?_eq_getElem hj]
  rfl

set_option maxRecDepth 100000 in
theorem l2Draw_any (B cb : Nat) (w : World) (hc : Cur B w cb) :
    Calls Tryd.prog 78 #[.pointer (some ⟨cb, 0, none⟩)] w (IntOut B cb w) := by
  have H := Lib.hid (l1Once_any B cb 14 w hc (by omega) (by omega))
  clear hc
  go_enter Tryd.func78, Tryd.ntmps78
  go_wp2_with fail
  refine H.out.mono ?_
  rintro e w1 ⟨b, rfl, hc1, ht1⟩
  have HC1 := Lib.hid hc1
  have HT1 := Lib.hid ht1
  have hlt1 := hc1.2.1
  clear hc1 ht1
  cases b with
  | true =>
    go_wp2_with fail
    refine (l1PickInt_any B cb w1.heap.size 4 _ (HC1.out.since ((Since.refl w1).alloc _)) (by omega) (by simp) (by omega) (by omega) (lit_cells w1 [-1, 9, 8, 100] (by decide) _ rfl)).mono ?_
    rintro e w2 ⟨x, hx0, hx9, rfl, hc2, ht2⟩
    have HT2 : Hid (Turn cb w w2) := (HT1.out.trans (Turn.of_since ((Since.refl w1).alloc _))).trans ht2
    clear ht2
    go_wp2_with fail
    go_ret
    exact ⟨x, hx0, hx9, rfl, hc2, HT2.out⟩
  | false =>
    go_wp2_with fail
    refine (l1PickInt_any B cb w1.heap.size 10 _ (HC1.out.since ((Since.refl w1).alloc _)) (by omega) (by simp) (by omega) (by omega) (lit_cells w1 [0, 0, 0, 1, 2, 2, 3, 4, 6, 7] (by decide) _ rfl)).mono ?_
    rintro e w2 ⟨x, hx0, hx9, rfl, hc2, ht2⟩
    have HT2 : Hid (Turn cb w w2) := (HT1.out.trans (Turn.of_since ((Since.refl w1).alloc _))).trans ht2
    clear ht2
    go_wp2_with fail
    go_ret
    exact ⟨x, hx0, hx9, rfl, hc2, HT2.out⟩

/-- A list of the call's own, beside the cursor. -/
def WordOut (B cb most : Nat) (w : World) (e : Ending) (w' : World) : Prop := ∃ v xs, xs.length ≤ most ∧ e = .returned v ∧ Own w.heap.size w' v xs ∧ Cur B w' cb ∧ Turn cb w w'
def DrawWords (w : World) (e : Ending) (w' : World) : Prop := ∃ a b xs ys, xs.length ≤ 1000 ∧ ys.length ≤ 1000 ∧ e = .returned (.tuple #[a, b]) ∧ IntsAt w' a xs ∧ IntsAt w' b ys ∧ Since w w'
theorem Own.turn {base cb : Nat} {w w' : World} {v : Value} {xs : List Int} (h : Own base w v xs) (k : Turn cb w w') (hne : cb < base) : Own base w' v xs :=
  ⟨h.1, h.2.kept k (by
    cases e : v.ownBlock with
    | none => exact .inl rfl
    | some g => exact .inr (fun e2 => by have := (h.2.lt g e).1; injection e2 with e2; omega))⟩

theorem ownBlock_or' (v : Value) (row : Option Nat) (h : ∀ k, v.ownBlock = some k → row ≠ some k) : v.ownBlock = none ∨ v.ownBlock ≠ row := by
  cases e : v.ownBlock with
  | none => exact .inl rfl
  | some k => exact .inr (fun e2 => h k e e2.symm)
end Go.Proofs.YtiojgahjfndmdaaDoor
