/- The table of the tokens' forms, out of a row's condition. -/
import Derived.Test.YtblmiocjhbpklaaDoorTree
import Derived.Test.YtblmiocjhbpklaaDoorRows
import Derived.LaidSub
import Derived.OpenVars
import Derived.Lib.LaidTab
import Derived.Lib.SmallJoins
import Derived.ShutString
namespace Go.Proofs.YtblmiocjhbpklaaDoor
set_option maxRecDepth 100000
open Go.ChangeShapes Go.WideShapes Go.ChangeAt Go.RowKit
set_option linter.unusedVariables false
set_option linter.unusedSimpArgs false

def opA : Nat → Int
  | 4 => 2
  | 5 => 2
  | 6 => 1
  | 7 => 1
  | _ => 0
def frB : Nat → ByteArray
  | 1 => ⟨#[33]⟩
  | 2 => ⟨#[40, 41]⟩
  | 4 => ⟨#[46]⟩
  | 5 => ⟨#[124]⟩
  | 6 => ⟨#[42]⟩
  | _ => ⟨#[]⟩
/-- The program's table of forms lies as its initialiser lays it. -/
def Forms (w : World) : Prop := 0 < w.heap.size ∧ ∀ k, k < 8 → w.cell? ⟨0, k * 2, none⟩ = some (.int .i64 (opA k)) ∧ w.cell? ⟨0, k * 2 + 1, none⟩ = some (.string (frB k))
theorem Forms.since {w w' : World} (h : Forms w) (k : Since w w') : Forms w' :=
  ⟨Nat.lt_of_lt_of_le h.1 k.size, fun i hi => ⟨(Below.cell k (p := ⟨_, i * 2, none⟩) h.1).trans (h.2 i hi).1, (Below.cell k (p := ⟨_, i * 2 + 1, none⟩) h.1).trans (h.2 i hi).2⟩⟩
def frmRows : List (Int × List UInt8) := [(0, []), (0, [33]), (0, [40, 41]), (0, []), (2, [46]), (2, [124]), (1, [42]), (1, [])]
theorem frmRows_laid {H : Type} : (Rows.laid_loop_example_g01922_impl_tokenForms : DataW H) = .agg (frmRows.map fun r => .agg [.lit (.int .i64 r.1), .lit (.string r.2)]) := rfl
theorem gFrm : Tryd.prog.globalNamed "loop.example/g01922/impl.tokenForms" = some 0 := by kernel_rfl
theorem gFrmType : (Tryd.prog.globals[0]?).map (·.type) = some 129 := by kernel_rfl
theorem cellsFr8 : Tryd.prog.cellsOf 129 = 16 := by kernel_rfl
theorem cellsFr2 : Tryd.prog.cellsOf 128 = 2 := by kernel_rfl
theorem cellsFrI : Tryd.prog.cellsOf 3 = 1 := by kernel_rfl
theorem cellsFrS : Tryd.prog.cellsOf 9 = 1 := by kernel_rfl
theorem under_form : ∃ f0 f1 : Field, Tryd.prog.underlying 128 = some (.struct #[f0, f1]) ∧ f0.type = 3 ∧ f1.type = 9 ∧ f0.offset = 0 ∧ f1.offset = 1 :=
  ⟨_, _, Tryd.underlying128, rfl, rfl, rfl, rfl⟩
theorem eight {k : Nat} (h : k < 8) : k = 0 ∨ k = 1 ∨ k = 2 ∨ k = 3 ∨ k = 4 ∨ k = 5 ∨ k = 6 ∨ k = 7 := by omega
theorem bytes_of_list {s : ByteArray} {l : List UInt8} (h : s.data.toList = l) : s = ⟨l.toArray⟩ := by
  cases s with
  | mk d => simp only at h; subst h; simp
theorem forms_of {W : World} (h : laidMet Tryd.prog [("loop.example/g01922/impl.tokenForms", Rows.laid_loop_example_g01922_impl_tokenForms)] W) : Forms W := by
  obtain ⟨ps, ⟨g', t', cs, fuel, p, q, hg', ht', hvar, hd, _, _⟩, _⟩ := h
  obtain rfl := Option.some.inj (gFrm.symm.trans hg')
  obtain rfl := Option.some.inj (gFrmType.symm.trans ht')
  have hcell := fun i => World.var?_cell gFrm hvar i
  have hsz : 0 < W.heap.size := by
    unfold World.var? at hvar
    rw [gFrm] at hvar
    simp only [Option.bind_some] at hvar
    cases hh : W.heap[0]? with
    | none => rw [hh] at hvar; cases hvar
    | some o => exact (Array.getElem?_eq_some_iff.1 hh).1
  refine ⟨hsz, ?_⟩
  cases fuel with
  | zero => simp [DataW.trod] at hd
  | succ fuel =>
    simp only [DataW.trod, Tryd.underlying129, cellsFr8, cellsFr2] at hd
    split at hd
    · rename_i hl
      obtain ⟨xs, hm, hx⟩ := Option.map_eq_some_iff.1 hd
      have hxs : xs.map (·.1) = frmRows.map fun r => (.agg [.lit (.int .i64 r.1), .lit (.string r.2)] : DataW Unit) := by
        have := congrArg Prod.fst hx
        rw [frmRows_laid] at this
        simpa using this
      obtain ⟨f0, f1, hu, t0, t1, o0, o1⟩ := under_form
      have key : ∀ (a : Nat) (r : Int × List UInt8), frmRows[a]? = some r → a < 8 → W.cell? ⟨0, a * 2, none⟩ = some (.int .i64 r.1) ∧ W.cell? ⟨0, a * 2 + 1, none⟩ = some (.string ⟨r.2.toArray⟩) := by
        intro a r hr ha
        obtain ⟨b, hb, hf⟩ := Lib.mapM_at hm a a (by simp [ha])
        have h2 : (xs.map (·.1))[a]? = some b.1 := by simp [hb]
        rw [hxs, List.getElem?_map, hr] at h2
        have h3 := (Option.some.inj h2).symm
        obtain ⟨y0, y1, n, e, hlen, q0, q1⟩ := trod_struct2 hu hf
        rw [t0, o0, cellsFrI] at q0
        rw [t1, o1, cellsFrS] at q1
        obtain ⟨x0, e0, z0, _⟩ := DataW.trod_int Tryd.underlying3 q0
        obtain ⟨x1, e1, z1, _⟩ := DataW.trod_string Tryd.underlying9 q1
        have e' := congrArg Prod.fst e
        rw [h3, z0, z1] at e'
        simp only at e'
        injection e' with e'
        injection e' with ea eb
        injection eb with eb _
        injection ea with ea
        injection ea with _ ea
        injection eb with eb
        injection eb with eb
        subst ea
        have hb2 := bytes_of_list eb.symm
        subst hb2
        simp only [List.drop_drop, List.drop_zero] at e0 e1
        constructor
        · have := congrArg (·[0]?) e0
          simp only [List.getElem?_cons_zero] at this
          rw [List.getElem?_take_of_lt (by omega), List.getElem?_take_of_lt (by omega), List.getElem?_drop] at this
          rw [hcell, ← Array.getElem?_toList]
          exact this
        · have := congrArg (·[0]?) e1
          simp only [List.getElem?_cons_zero] at this
          rw [List.getElem?_take_of_lt (by omega), List.getElem?_drop, List.getElem?_take_of_lt (by omega), List.getElem?_drop] at this
          rw [hcell, ← Array.getElem?_toList]
          exact this
      intro i hi
      rcases eight hi with rfl | rfl | rfl | rfl | rfl | rfl | rfl | rfl <;> exact key _ _ rfl (by omega)
    · cases hd
end Go.Proofs.YtblmiocjhbpklaaDoor
