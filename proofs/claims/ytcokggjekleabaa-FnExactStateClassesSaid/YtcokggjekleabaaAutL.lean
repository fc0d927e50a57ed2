/- Automata: the laws' sizes in another form; a box of a result. -/
import Derived.Test.YtcokggjekleabaaAut
namespace Go.Proofs.Ytcokggjekleabaa
set_option maxRecDepth 100000
open Go.ChangeShapes Go.WideShapes Go.ChangeAt Go.RowKit
set_option linter.unusedVariables false
set_option linter.unusedSimpArgs false

theorem szA_smallB {A : Aut} {left : Int} (h1 : left ≤ 1048576) (h : ¬ szA A left < 0) : (0 ≤ szA A left ∧ szA A left ≤ 1048576) ∧ SmA A := by
  unfold szA szS at h ⊢
  unfold SmA
  split at h
  · omega
  · rename_i k
    rw [if_neg k]
    split at h
    · omega
    · rename_i k2
      rw [if_neg k2]; omega
theorem szAu_is (v : Value) (A : Aut) (left x : Int) (w : World) (h : AutAt w v A) (hm : MxA A) (h0 : 0 ≤ left) (h1 : left ≤ 1048576) (hx : szA A left = x) :
    Calls Try.prog 38 #[v, .int .i64 left] w fun e w' => e = .returned (.int .i64 x) ∧ Since w w' := by
  rw [← hx]; exact szAutomaton_any v A left w h hm h0 h1
theorem szAu_le {A : Aut} (h : SmA A) : 0 ≤ szAu A ∧ szAu A ≤ 2097154 := by unfold SmA at h; unfold szAu; omega
theorem szAu_bg {A : Aut} (h : BgA A) : 0 ≤ szAu A ∧ szAu A ≤ 4194308 := by unfold BgA at h; unfold szAu; omega
/-- A box of a result. -/
def BoxA (w1 wx : World) (p : Value) (R : Aut) : Prop :=
  ∃ lo hi B so sc uo uc, p = .pointer (some ⟨B, 0, none⟩) ∧ w1.heap.size ≤ lo ∧ w1.heap.size ≤ B ∧ hi ≤ wx.heap.size ∧ (B < lo ∨ hi ≤ B) ∧
    OwnA lo hi wx (.agg #[.int .i64 R.st, .slice so R.ac.length sc, .slice uo R.nx.length uc]) R ∧ Blk wx B 27 #[.int .i64 R.st, .slice so R.ac.length sc, .slice uo R.nx.length uc] ∧ Since w1 wx
theorem OwnA.far1 {lo hi B : Nat} {w : World} {v : Value} {x : Aut} (h : OwnA lo hi w v x) (hB : B < lo ∨ hi ≤ B) (i : Nat) (u : Value) : OwnA lo hi (w.setCell ⟨B, i, none⟩ u) v x := by
  have k : Within B (B + 1) w (w.setCell ⟨B, i, none⟩ u) := ⟨rfl, rfl, rfl, by simp [World.setCell], fun k _ hn => Below.heap_setCell w ⟨B, i, none⟩ u k (by show k ≠ B; omega)⟩
  exact h.within k (by omega)
theorem OwnA.far3 {lo hi B : Nat} {w : World} {v : Value} {x : Aut} (h : OwnA lo hi w v x) (hB : B < lo ∨ hi ≤ B) {i j k : Nat} {u u2 u3 : Value} : OwnA lo hi (((w.setCell ⟨B, i, none⟩ u).setCell ⟨B, j, none⟩ u2).setCell ⟨B, k, none⟩ u3) v x :=
  ((h.far1 hB i u).far1 hB j u2).far1 hB k u3
theorem boxA_mk {w1 wx : World} {lo hi : Nat} {so uo : Option Addr} {sc uc : Nat} {R : Aut} (B : Nat) (hB : w1.heap.size ≤ B) (h0 : w1.heap.size ≤ lo) (h1 : hi ≤ wx.heap.size ∧ (B < lo ∨ hi ≤ B))
    (hO : OwnA lo hi wx (.agg #[.int .i64 R.st, .slice so R.ac.length sc, .slice uo R.nx.length uc]) R) (hK : Blk wx B 27 #[.int .i64 R.st, .slice so R.ac.length sc, .slice uo R.nx.length uc]) (hS : Since w1 wx) :
    BoxA w1 wx (.pointer (some ⟨B, 0, none⟩)) R := ⟨lo, hi, B, so, sc, uo, uc, rfl, h0, hB, h1.1, h1.2, hO, hK, hS⟩
end Go.Proofs.Ytcokggjekleabaa
