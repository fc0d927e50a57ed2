/- AppendBatch of histories: what it answers. -/
import Derived.Test.YtgdeiecbkmhbeaaHch
import Derived.Test.YtgdeiecbkmhbeaaBoxIn
import Derived.Test.YtgdeiecbkmhbeaaLawM
namespace Go.Proofs.Ytgdeiecbkmhbeaa
set_option maxRecDepth 100000
open Go.ChangeShapes Go.WideShapes Go.ChangeAt Go.RowKit
set_option linter.unusedVariables false

theorem addC_inv {x : Hst} {cs : List Chg} (h : validH x = false) : addC x cs = false ∧ addH x cs = x := by
  have : addC x cs = false := by unfold addC; rw [h]; rfl
  exact ⟨this, by unfold addH; rw [this]; rfl⟩
theorem addC_full {x : Hst} {cs : List Chg} (h : latH x = 999) : addC x cs = false ∧ addH x cs = x := by
  have : addC x cs = false := by unfold addC; rw [h]; simp
  exact ⟨this, by unfold addH; rw [this]; rfl⟩
theorem addC_app {x : Hst} {cs : List Chg} (h : validH x = true) (h2 : latH x ≠ 999) {g : Grf} (hg : lastG x = g) : addC x cs = appC g cs := by
  unfold addC; rw [h, decide_eq_false h2, hg]; rfl
theorem addC_no {x : Hst} {cs : List Chg} (h : addC x cs = false) : addC x cs = false ∧ addH x cs = x := ⟨h, by unfold addH; rw [h]; rfl⟩
theorem addC_yes {x : Hst} {cs : List Chg} (h : addC x cs = true) {g : Grf} (hg : lastG x = g) : addC x cs = true ∧ addH x cs = addL x (appG g cs) := ⟨h, by unfold addH; rw [if_pos h, hg]⟩
theorem lastG_get {x : Hst} {k : Nat} (hk : k + 1 = x.gs.length) : lastG x = x.gs[k]'(by omega) := by
  have e : x.gs.length - 1 = k := by omega
  unfold lastG
  rw [e, List.getD_eq_getElem?_getD, List.getElem?_eq_getElem (by omega)]; rfl
theorem latH_zero {x : Hst} (h : validH x = false) : latH x = 0 := by unfold latH; rw [h]; rfl
theorem latH_pos {x : Hst} (h : validH x = true) : latH x = x.f + (x.gs.length : Int) - 1 ∧ 1 ≤ latH x := by
  obtain ⟨_, a1, a2, a3, a4⟩ := validH_parts h
  have : latH x = x.f + (x.gs.length : Int) - 1 := by unfold latH; rw [if_pos h]
  exact ⟨this, by omega⟩
theorem addH_len {x : Hst} (h : SmH x) (cs : List Chg) : BgH (addH x cs) := by
  unfold addH
  split
  · rename_i hc
    have hv : validH x = true := by
      unfold addC at hc
      cases hx : validH x with
      | false => rw [hx] at hc; cases hc
      | true => rfl
    obtain ⟨_, a1, a2, _, _⟩ := validH_parts hv
    have h1 := appG_vs (lastG x) cs
    have h2 := appG_es (lastG x) cs
    obtain ⟨k, hk⟩ : ∃ k, k + 1 = x.gs.length := ⟨x.gs.length - 1, by omega⟩
    have hl := lastG_get hk
    have hgd := (validH_parts hv).1 k (by omega)
    rw [← hl] at hgd
    have hvb : validB (lastG x) = true := by unfold goodG at hgd; simp only [Bool.and_eq_true] at hgd; exact hgd.1
    obtain ⟨z1, z2⟩ := runC_size hvb (show runC (lastG x) [] = some (lastG x) from rfl)
    have h4 := h.2
    have h5 : totH (x.gs ++ [appG (lastG x) cs]) ≤ 2097154 := by rw [totH_append]; simp only [totH, totG]; omega
    unfold addL
    split
    · refine ⟨by simp; omega, ?_⟩
      have := totH_drop (x.gs ++ [appG (lastG x) cs]) 1
      show totH ((x.gs ++ [appG (lastG x) cs]).drop 1) ≤ _
      omega
    · exact ⟨by simp; omega, h5⟩
  · exact h.bg
end Go.Proofs.Ytgdeiecbkmhbeaa
