/- Lengths of what chapter 3's functions answer; a number's range. -/
import Derived.Test.YtpmkpeclfhmhlaaK2
namespace Go.Proofs.Ytpmkpeclfhmhlaa
set_option maxRecDepth 100000
open Go.ChangeShapes Go.WideShapes Go.ChangeAt Go.RowKit
theorem wf_in {n : Int} (h : (Lit.int .i64 n).wf = true) : InI n := by
  simp [Lit.wf] at h
  have e : IntKind.i64.min = -9223372036854775808 := by decide
  rw [e] at h
  exact h
theorem setG_vs (g : Grf) (node x : Int) : (setG g node x).vs.length = g.vs.length := by
  unfold setG; split
  · simp
  · rfl
theorem setG_es (g : Grf) (node x : Int) : (setG g node x).es.length = g.es.length := by
  unfold setG; split <;> rfl
theorem revG_vs (g : Grf) : (revG g).vs.length = g.vs.length := rfl
theorem revG_es (g : Grf) : (revG g).es.length = g.es.length := by simp [revG]
theorem delG_vs (g : Grf) (id : Int) : (delG g id).vs.length = g.vs.length := by
  unfold delG; split <;> rfl
theorem delG_es (g : Grf) (id : Int) : (delG g id).es.length ≤ g.es.length := by
  unfold delG; split
  · unfold delL; simp only [List.length_append, List.length_take, List.length_drop]; omega
  · exact Nat.le_refl _
theorem insG_vs (g : Grf) (e : Edg) : (insG g e).vs.length = g.vs.length := by
  unfold insG; split <;> rfl
theorem insG_es (g : Grf) (e : Edg) : (insG g e).es.length ≤ g.es.length + 1 := by
  unfold insG; split
  · unfold insL; simp only [List.length_append, List.length_take, List.length_cons, List.length_drop]; omega
  · exact Nat.le_succ _
end Go.Proofs.Ytpmkpeclfhmhlaa
