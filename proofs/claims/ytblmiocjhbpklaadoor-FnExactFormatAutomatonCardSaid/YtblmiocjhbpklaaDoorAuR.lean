/- RunWord and AcceptsWord, the model's and the program's. -/
import Derived.Test.YtblmiocjhbpklaaDoorAuS
import Derived.Test.YtblmiocjhbpklaaDoorK0
import Derived.BigQuiet
import Derived.Deep.QuietTactic
namespace Go.Proofs.YtblmiocjhbpklaaDoor
set_option maxRecDepth 100000
open Go.ChangeShapes Go.WideShapes Go.ChangeAt Go.RowKit
set_option linter.unusedVariables false
set_option linter.unusedSimpArgs false

/-- Where the transitions of a valid automaton lie. -/
theorem next_cells {w : World} {A : Aut} {bo : Option Addr} (hv : ValidA A) (h : Hid (∀ i (h : i < A.nx.length), ∃ b off p, bo = some ⟨b, off, none⟩ ∧ b < w.heap.size ∧ w.cell? ⟨b, off + i, none⟩ = some p ∧ IntsAt w p A.nx[i])) (t : Nat) (ht : t < A.ac.length) :
    ∃ b off b2 off2 c2, bo = some ⟨b, off, none⟩ ∧ b < w.heap.size ∧ w.cell? ⟨b, off + t, none⟩ = some (.slice (some ⟨b2, off2, none⟩) 9 c2) ∧ b2 < w.heap.size ∧ ∀ k : Nat, k < 9 → w.cell? ⟨b2, off2 + k, none⟩ = some (.int .i64 (nextA A.nx t k)) := by
  have ht2 : t < A.nx.length := by have := hv.2.1; omega
  obtain ⟨b, off, p, e, hb, c0, g⟩ := h.out t ht2
  have hr := hv.row t ht2
  obtain ⟨vo, vc, rfl, HR⟩ := g.row
  obtain ⟨b2, off2, e2, hb2, _⟩ := HR.out 0 (by have := hr.1; omega)
  subst e2
  refine ⟨b, off, b2, off2, vc, e, hb, by rw [hr.1] at c0; exact c0, hb2, fun k hk => ?_⟩
  have hk2 : k < (A.nx[t]).length := by have := hr.1; omega
  obtain ⟨b3, off3, e3, _, c3⟩ := HR.out k hk2
  injection e3 with e3
  injection e3 with e4 e5
  rw [e4, e5, nextA_at A.nx t k ht2 hk2]
  exact c3
end Go.Proofs.YtblmiocjhbpklaaDoor
