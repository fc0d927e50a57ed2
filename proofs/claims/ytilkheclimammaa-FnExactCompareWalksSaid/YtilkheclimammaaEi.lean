/- EdgeIndex, the model's and the program's. -/
import Derived.Test.YtilkheclimammaaVgWalk
namespace Go.Proofs.Ytilkheclimammaa
set_option maxRecDepth 100000
open Go.ChangeShapes Go.WideShapes Go.ChangeAt Go.RowKit
set_option linter.unusedVariables false
set_option linter.unusedSimpArgs false

theorem ne_step {es : List Edg} {id : Int} {k : Nat} (hk : k < es.length) (h : ∀ j (hj : j < k), (es[j]'(by omega)).id ≠ id) (hx : (es[k]).id ≠ id) : ∀ j (hj : j < k + 1), (es[j]'(by omega)).id ≠ id := by
  intro j hj
  by_cases e : j = k
  · subst e; exact hx
  · exact h j (by omega)
/-- No edge ahead of place k has this number. -/
def noneTo (es : List Edg) (id : Int) (k : Nat) : Prop := ∀ j (_ : j < k) (h : j < es.length), (es[j]).id ≠ id
theorem noneTo_zero (es : List Edg) (id : Int) : noneTo es id 0 := fun j hj => by omega
theorem noneTo_step {es : List Edg} {id : Int} {k : Nat} (hk : k < es.length) (h : noneTo es id k) (hx : (es[k]).id ≠ id) : noneTo es id (k + 1) := by
  intro j hj hl
  by_cases e : j = k
  · subst e; exact hx
  · exact h j (by omega) hl
theorem noneTo_hit {es : List Edg} {id : Int} {k : Nat} (hk : k < es.length) (h : noneTo es id k) (hx : (es[k]).id = id) : idxE es id = k := idxE_at hk hx (fun j hj => h j hj (by omega))
theorem noneTo_end {es : List Edg} {id : Int} (h : noneTo es id es.length) : idxE es id = -1 := idxE_none (fun j hj => h j hj hj)

set_option maxRecDepth 100000 in
theorem specEI_any (v : Value) (g : Grf) (id : Int) (w : World) (h : GrfAt w v g) (h2 : g.es.length ≤ 1048577) :
    Calls Try.prog 104 #[v, .int .i64 id] w fun e w' => e = .returned (.int .i64 (idxE g.es id)) ∧ Since w w' := by
  obtain ⟨a, b, rfl, ha, hb⟩ := h
  obtain ⟨ao, ac, rfl, _⟩ := ha.row
  obtain ⟨bo, bc, rfl, HE⟩ := hb.row
  clear ha hb
  obtain ⟨n, hn⟩ : ∃ n, n = g.vs.length := ⟨_, rfl⟩
  obtain ⟨m, hm⟩ : ∃ m, m = g.es.length := ⟨_, rfl⟩
  rw [← hn, ← hm]
  have hm9 : m ≤ 1048577 := by omega
  have HM := Lib.hid hm
  clear hn hm h2
  have hs0 : Since w (w.alloc (.cells #[.slice ao n ac, .slice bo m bc] 27)) := (Since.refl w).alloc _
  go_enter Try.func104, Try.ntmps104
  go_wp2
  go_loop [5] (fun i => ∃ k : Nat, k ≤ m ∧ i = .int .i64 k ∧ Hid (noneTo g.es id k)) (fun i => m - (intOf i).toNat)
  case atStart => exact ⟨0, Nat.zero_le _, rfl, noneTo_zero _ _⟩
  case round =>
    obtain ⟨k, hk, rfl, HT⟩ := hrel
    by_cases hlt : k < m
    · have hx : k < g.es.length := by have := HM.out; omega
      obtain ⟨be, oe, rfl, hbe, d0, _, _, _⟩ := HE.out k hx
      rw [← since_cells hs0 hbe] at d0
      by_cases he : (g.es[k]).id = id
      · have HX := Lib.hid (noneTo_hit hx HT.out he)
        have hb0 : ((g.es[k]).id == id) = true := by simpa using he
        clear he
        go_wp2
        go_ret
        exact ⟨ret_int HX.out.symm, hs0⟩
      · have HX := Lib.hid (noneTo_step hx HT.out he)
        have hb0 : ((g.es[k]).id == id) = false := by simpa using he
        clear he
        go_wp2
        go_round
        case rel => exact ⟨k + 1, by omega, by go_num, HX⟩
        case measure => simp [intOf]; omega
    · obtain rfl : k = m := by omega
      have HX : Hid (idxE g.es id = -1) := noneTo_end (by rw [← HM.out]; exact HT.out)
      go_wp2
      go_ret
      exact ⟨ret_int HX.out.symm, hs0⟩
end Go.Proofs.Ytilkheclimammaa
