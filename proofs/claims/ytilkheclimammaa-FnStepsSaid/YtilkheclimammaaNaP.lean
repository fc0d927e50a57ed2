/- NodesAfter, the model's. -/
import Derived.Test.YtilkheclimammaaNaI
import Derived.Test.YtilkheclimammaaK3
import Derived.Test.YtilkheclimammaaK0
import Derived.Test.YtilkheclimammaaK1
namespace Go.Proofs.Ytilkheclimammaa
set_option maxRecDepth 100000
open Go.ChangeShapes Go.WideShapes Go.ChangeAt Go.RowKit
set_option linter.unusedVariables false
set_option linter.unusedSimpArgs false

def setTo (zs : List Int) (k : Nat) : List Int := ((List.range k).filter (fun i : Nat => decide ((i : Int) ∈ zs))).map (fun (i : Nat) => (i : Int))
theorem setTo_succ (zs : List Int) (k : Nat) : setTo zs (k + 1) = setTo zs k ++ (if (k : Int) ∈ zs then [(k : Int)] else []) := by
  unfold setTo
  rw [List.range_succ, List.filter_append, List.map_append]
  congr 1
  by_cases h : (k : Int) ∈ zs <;> simp [h]
theorem setTo_len (zs : List Int) (k : Nat) : (setTo zs k).length ≤ k := by
  unfold setTo; rw [List.length_map]
  exact Nat.le_trans (List.length_filter_le _ _) (by simp)
theorem and_one (M k : Nat) (hM : M < 9223372036854775808) : bits .and .i64 ((M : Int) / 2 ^ k) 1 = ((M / 2 ^ k % 2 : Nat) : Int) := by
  have e : ((M : Int) / 2 ^ k) = ((M / 2 ^ k : Nat) : Int) := by rw [Int.natCast_ediv, Int.natCast_pow]; rfl
  have hle : M / 2 ^ k ≤ M := Nat.div_le_self _ _
  rw [e]
  have := i64_and_nat (M / 2 ^ k) 1 (by omega) (by omega)
  rw [Nat.and_one_is_mod] at this
  simpa using this
theorem bit_test (M k : Nat) (hM : M < 9223372036854775808) : (bits .and .i64 ((M : Int) / 2 ^ k) 1 == 1) = M.testBit k := by
  rw [and_one M k hM, Nat.testBit_eq_decide_div_mod_eq, Bool.eq_iff_iff]
  simp only [beq_iff_eq, decide_eq_true_eq]
  omega
end Go.Proofs.Ytilkheclimammaa
