/- Fragments joined, the program's. -/
import Derived.Test.YtblmiocjhbpklaaDoorBpT
namespace Go.Proofs.YtblmiocjhbpklaaDoor
set_option maxRecDepth 100000
open Go.ChangeShapes Go.WideShapes Go.ChangeAt Go.RowKit
set_option linter.unusedVariables false
set_option linter.unusedSimpArgs false

def FrgW (g : Frg) : Value := .agg #[.int .i64 (g.fi : Int), .int .i64 (g.la : Int), .bool g.nu]
theorem frgW (nu : Bool) (fi la : Nat) : FrgW ⟨nu, fi, la⟩ = .agg #[.int .i64 (fi : Int), .int .i64 (la : Int), .bool nu] := rfl
theorem tree_ki {G : Nat} {w w' : World} {T : Tr} {lo hi : Nat} {v : Value} (h : TreeAt w T lo hi v) (k : KI G w w') : TreeAt w' T lo hi v := h.of fun _ _ _ _ hb => k.typed _ _ _ hb (by decide) (by decide)
set_option maxHeartbeats 2000000 in
set_option maxRecDepth 100000 in
theorem frag_concat (n1 n2 : Bool) (fi1 la1 fi2 la2 : Nat) (w : World) (h1 : fi1 < 1048576) (h2 : la1 < 1048576) (h3 : fi2 < 1048576) (h4 : la2 < 1048576) :
    Calls Tryd.prog 113 #[.agg #[.int .i64 (fi1 : Int), .int .i64 (la1 : Int), .bool n1], .agg #[.int .i64 (fi2 : Int), .int .i64 (la2 : Int), .bool n2]] w fun e w' => e = .returned (FrgW ⟨n1 && n2, if n1 = true then fi1 ||| fi2 else fi1, if n2 = true then la1 ||| la2 else la2⟩) ∧ Since w w' := by
  have HO1 := Lib.hid (i64_or_nat fi1 fi2 (by omega) (by omega))
  have HO2 := Lib.hid (i64_or_nat la1 la2 (by omega) (by omega))
  have HO3 : Hid (bits .or .i64 (la2 : Int) (la1 : Int) = ((la1 ||| la2 : Nat) : Int)) := by unfold Hid; rw [Nat.or_comm]; exact i64_or_nat la2 la1 (by omega) (by omega)
  have ho3 := HO3.out
  have ho1 := HO1.out
  have ho2 := HO2.out
  clear h1 h2 h3 h4
  cases n1 with
  | false =>
    cases n2 with
    | false =>
      go_enter Tryd.func113, Tryd.ntmps113
      go_wp2
      refine bodyPost_ret (v := .agg #[.int .i64 ((fi1 : Nat) : Int), .int .i64 ((la2 : Nat) : Int), .bool false]) (by simp [results, Tryd.results113, go_sem, *]) rfl ?_
      refine ⟨rfl, ?_⟩
      repeat' (first | exact Since.refl _ | with_reducible refine Since.alloc ?_ _ | with_reducible refine Since.setCell ?_ (by simp) _)
    | true =>
      go_enter Tryd.func113, Tryd.ntmps113
      go_wp2
      refine bodyPost_ret (v := .agg #[.int .i64 ((fi1 : Nat) : Int), .int .i64 ((la1 ||| la2 : Nat) : Int), .bool false]) (by simp [results, Tryd.results113, go_sem, *]) rfl ?_
      refine ⟨rfl, ?_⟩
      repeat' (first | exact Since.refl _ | with_reducible refine Since.alloc ?_ _ | with_reducible refine Since.setCell ?_ (by simp) _)
  | true =>
    cases n2 with
    | false =>
      go_enter Tryd.func113, Tryd.ntmps113
      go_wp2
      refine bodyPost_ret (v := .agg #[.int .i64 ((fi1 ||| fi2 : Nat) : Int), .int .i64 ((la2 : Nat) : Int), .bool false]) (by simp [results, Tryd.results113, go_sem, *]) rfl ?_
      refine ⟨rfl, ?_⟩
      repeat' (first | exact Since.refl _ | with_reducible refine Since.alloc ?_ _ | with_reducible refine Since.setCell ?_ (by simp) _)
    | true =>
      go_enter Tryd.func113, Tryd.ntmps113
      go_wp2
      refine bodyPost_ret (v := .agg #[.int .i64 ((fi1 ||| fi2 : Nat) : Int), .int .i64 ((la1 ||| la2 : Nat) : Int), .bool true]) (by simp [results, Tryd.results113, go_sem, *]) rfl ?_
      refine ⟨rfl, ?_⟩
      repeat' (first | exact Since.refl _ | with_reducible refine Since.alloc ?_ _ | with_reducible refine Since.setCell ?_ (by simp) _)
set_option maxHeartbeats 2000000 in
set_option maxRecDepth 100000 in
theorem frag_union (n1 n2 : Bool) (fi1 la1 fi2 la2 : Nat) (w : World) (h1 : fi1 < 1048576) (h2 : la1 < 1048576) (h3 : fi2 < 1048576) (h4 : la2 < 1048576) :
    Calls Tryd.prog 114 #[.agg #[.int .i64 (fi1 : Int), .int .i64 (la1 : Int), .bool n1], .agg #[.int .i64 (fi2 : Int), .int .i64 (la2 : Int), .bool n2]] w fun e w' => e = .returned (FrgW ⟨n1 || n2, fi1 ||| fi2, la1 ||| la2⟩) ∧ Since w w' := by
  have HO1 := Lib.hid (i64_or_nat fi1 fi2 (by omega) (by omega))
  have HO2 := Lib.hid (i64_or_nat la1 la2 (by omega) (by omega))
  have HO3 : Hid (bits .or .i64 (la2 : Int) (la1 : Int) = ((la1 ||| la2 : Nat) : Int)) := by unfold Hid; rw [Nat.or_comm]; exact i64_or_nat la2 la1 (by omega) (by omega)
  have ho3 := HO3.out
  have ho1 := HO1.out
  have ho2 := HO2.out
  clear h1 h2 h3 h4
  cases n1 with
  | false =>
    cases n2 with
    | false =>
      go_enter Tryd.func114, Tryd.ntmps114
      go_wp2
      refine bodyPost_ret (v := .agg #[.int .i64 ((fi1 ||| fi2 : Nat) : Int), .int .i64 ((la1 ||| la2 : Nat) : Int), .bool false]) (by simp [results, Tryd.results114, go_sem, *]) rfl ?_
      refine ⟨rfl, ?_⟩
      repeat' (first | exact Since.refl _ | with_reducible refine Since.alloc ?_ _ | with_reducible refine Since.setCell ?_ (by simp) _)
    | true =>
      go_enter Tryd.func114, Tryd.ntmps114
      go_wp2
      refine bodyPost_ret (v := .agg #[.int .i64 ((fi1 ||| fi2 : Nat) : Int), .int .i64 ((la1 ||| la2 : Nat) : Int), .bool true]) (by simp [results, Tryd.results114, go_sem, *]) rfl ?_
      refine ⟨rfl, ?_⟩
      repeat' (first | exact Since.refl _ | with_reducible refine Since.alloc ?_ _ | with_reducible refine Since.setCell ?_ (by simp) _)
  | true =>
    cases n2 with
    | false =>
      go_enter Tryd.func114, Tryd.ntmps114
      go_wp2
      refine bodyPost_ret (v := .agg #[.int .i64 ((fi1 ||| fi2 : Nat) : Int), .int .i64 ((la1 ||| la2 : Nat) : Int), .bool true]) (by simp [results, Tryd.results114, go_sem, *]) rfl ?_
      refine ⟨rfl, ?_⟩
      repeat' (first | exact Since.refl _ | with_reducible refine Since.alloc ?_ _ | with_reducible refine Since.setCell ?_ (by simp) _)
    | true =>
      go_enter Tryd.func114, Tryd.ntmps114
      go_wp2
      refine bodyPost_ret (v := .agg #[.int .i64 ((fi1 ||| fi2 : Nat) : Int), .int .i64 ((la1 ||| la2 : Nat) : Int), .bool true]) (by simp [results, Tryd.results114, go_sem, *]) rfl ?_
      refine ⟨rfl, ?_⟩
      repeat' (first | exact Since.refl _ | with_reducible refine Since.alloc ?_ _ | with_reducible refine Since.setCell ?_ (by simp) _)
end Go.Proofs.YtblmiocjhbpklaaDoor
