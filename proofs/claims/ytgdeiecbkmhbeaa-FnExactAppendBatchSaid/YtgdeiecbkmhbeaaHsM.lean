/- Histories: sizes, marks, and what each function answers. -/
import Derived.Test.YtgdeiecbkmhbeaaHst
import Derived.Test.YtgdeiecbkmhbeaaMarkG
import Derived.Test.YtgdeiecbkmhbeaaBchM
namespace Go.Proofs.Ytgdeiecbkmhbeaa
set_option maxRecDepth 100000
open Go.ChangeShapes Go.WideShapes Go.ChangeAt Go.RowKit
set_option linter.unusedVariables false

/-! Sizes and marks. -/
def totG (g : Grf) : Nat := g.vs.length + g.es.length
def totH : List Grf → Nat
  | [] => 0
  | g :: gs => totG g + totH gs
theorem totH_append (gs hs : List Grf) : totH (gs ++ hs) = totH gs + totH hs := by
  induction gs with
  | nil => simp [totH]
  | cons g gs ih => simp only [List.cons_append, totH, ih]; omega
theorem totH_step (gs : List Grf) (k : Nat) (h : k < gs.length) : totH (gs.take (k + 1)) = totH (gs.take k) + totG gs[k] := by
  rw [List.take_succ_eq_append_getElem h, totH_append]; simp [totH]
theorem totH_take (gs : List Grf) (k : Nat) : totH (gs.take k) ≤ totH gs := by
  have := totH_append (gs.take k) (gs.drop k)
  rw [List.take_append_drop] at this; omega
theorem totH_get (gs : List Grf) (k : Nat) (h : k < gs.length) : totG gs[k] ≤ totH gs := by
  have := totH_step gs k h; have := totH_take gs (k + 1); omega
def szH (gs : List Grf) (left : Int) : Int := if left - (gs.length : Int) - (totH gs : Int) < 0 then -1 else left - (gs.length : Int) - (totH gs : Int)
theorem szG_tot (g : Grf) (left : Int) : szG g left = if left - (totG g : Int) < 0 then -1 else left - (totG g : Int) := by
  unfold szG szLeft totG
  by_cases h : left - (g.vs.length : Int) < 0
  · rw [if_pos h, if_pos (by omega)]
  · rw [if_neg h]
    by_cases h2 : left - (g.vs.length : Int) - (g.es.length : Int) < 0
    · rw [if_pos h2, if_pos (by omega)]
    · rw [if_neg h2, if_neg (by omega)]; omega
/-- small enough for a law -/
def SmH (x : Hst) : Prop := x.gs.length ≤ 1048577 ∧ totH x.gs ≤ 1048577
theorem szH_small {gs : List Grf} {left : Int} (hl : left ≤ 1048576) (h : ¬ szH gs left < 0) : (0 ≤ szH gs left ∧ szH gs left ≤ 1048576) ∧ (gs.length ≤ 1048577 ∧ totH gs ≤ 1048577) := by
  unfold szH at h ⊢
  by_cases c : left - (gs.length : Int) - (totH gs : Int) < 0
  · rw [if_pos c] at h; omega
  · rw [if_neg c] at h ⊢; omega
theorem SmH.get {x : Hst} (h : SmH x) (k : Nat) (hk : k < x.gs.length) : (x.gs[k]).vs.length ≤ 1048577 ∧ (x.gs[k]).es.length ≤ 1048577 := by
  have := totH_get x.gs k hk
  unfold totG at this
  have := h.2
  omega
def MxH (x : Hst) : Prop := x.gs.length ≤ maxLen ∧ ∀ k (hk : k < x.gs.length), (x.gs[k]).vs.length ≤ maxLen ∧ (x.gs[k]).es.length ≤ maxLen
def szHs : List Grf → Int
  | [] => 0
  | g :: gs => szOf g + szHs gs
theorem szHs_append (gs hs : List Grf) : szHs (gs ++ hs) = szHs gs + szHs hs := by
  induction gs with
  | nil => simp [szHs]
  | cons g gs ih => simp only [List.cons_append, szHs, ih]; omega
theorem szHs_step (gs : List Grf) (k : Nat) (h : k < gs.length) : szHs (gs.take (k + 1)) = szHs (gs.take k) + szOf gs[k] := by
  rw [List.take_succ_eq_append_getElem h, szHs_append]; simp [szHs]
theorem szHs_tot (gs : List Grf) : 0 ≤ szHs gs ∧ szHs gs ≤ 4 * (totH gs : Int) := by
  induction gs with
  | nil => simp [szHs, totH]
  | cons g gs ih => simp only [szHs, totH, totG, szOf]; omega
theorem szHs_take (gs : List Grf) (k : Nat) : 0 ≤ szHs (gs.take k) ∧ szHs (gs.take k) ≤ 4 * (totH gs : Int) := by
  have := szHs_tot (gs.take k); have := totH_take gs k; omega
/-- What markGraphS writes. -/
def cntH (k : Int) : List Grf → List Grf
  | [] => []
  | g :: gs => cntG k g :: cntH (k + szOf g) gs
theorem cntH_append (k : Int) (gs hs : List Grf) : cntH k (gs ++ hs) = cntH k gs ++ cntH (k + szHs gs) hs := by
  induction gs generalizing k with
  | nil => simp [cntH, szHs]
  | cons g gs ih => simp only [List.cons_append, cntH, szHs, ih]; rw [show k + szOf g + szHs gs = k + (szOf g + szHs gs) from by omega]
theorem cntH_length (k : Int) (gs : List Grf) : (cntH k gs).length = gs.length := by
  induction gs generalizing k with
  | nil => rfl
  | cons g gs ih => simp [cntH, ih]
theorem cntH_step (k : Int) (gs : List Grf) (j : Nat) (h : j < gs.length) : cntH k (gs.take (j + 1)) = cntH k (gs.take j) ++ [cntG (k + szHs (gs.take j)) gs[j]] := by
  rw [List.take_succ_eq_append_getElem h, cntH_append]; rfl
theorem cntH_get (k : Int) (gs : List Grf) (j : Nat) (h : j < gs.length) : (cntH k gs)[j]'(by rw [cntH_length]; exact h) = cntG (k + szHs (gs.take j)) gs[j] := by
  have e : gs = gs.take j ++ gs[j] :: gs.drop (j + 1) := by rw [List.getElem_cons_drop, List.take_append_drop]
  have hl : (cntH k (gs.take j)).length = j := by rw [cntH_length, List.length_take]; omega
  have e2 : cntH k gs = cntH k (gs.take j) ++ (cntG (k + szHs (gs.take j)) gs[j] :: cntH (k + szHs (gs.take j) + szOf gs[j]) (gs.drop (j + 1))) := by
    conv => lhs; rw [e]
    rw [cntH_append]; rfl
  have hlt : j < (cntH k gs).length := by rw [cntH_length]; exact h
  have e3 : (cntH k gs)[j]? = some (cntG (k + szHs (gs.take j)) gs[j]) := by
    rw [e2, List.getElem?_append_right (by omega), hl, Nat.sub_self]; rfl
  rw [List.getElem?_eq_getElem hlt] at e3
  exact Option.some.inj e3
def markedH (k : Int) (gs : List Grf) (j : Nat) : List Grf := cntH k (gs.take j) ++ gs.drop j
theorem markedH_length (k : Int) (gs : List Grf) (j : Nat) (h : j ≤ gs.length) : (markedH k gs j).length = gs.length := by simp [markedH, cntH_length]; omega
theorem markedH_get (k : Int) (gs : List Grf) (j : Nat) (h : j < gs.length) : (markedH k gs j)[j]'(by rw [markedH_length k gs j (by omega)]; exact h) = gs[j] := by
  unfold markedH
  have hl : (cntH k (gs.take j)).length = j := by rw [cntH_length, List.length_take]; omega
  rw [List.getElem_append_right (by omega), List.getElem_drop]
  congr 1; omega
theorem markedH_all (k : Int) (gs : List Grf) : markedH k gs gs.length = cntH k gs := by simp [markedH]
/-! What the functions of chapter 7 answer. -/
def hd0 (gs : List Grf) : List Int := match gs with | [] => [] | g :: _ => g.vs
def goodG (gs : List Grf) (g : Grf) : Bool := validB g && decide (g.vs = hd0 gs)
def validH (h : Hst) : Bool := h.gs.all (goodG h.gs) && inB (h.gs.length : Int) 1 8 && inB h.f 1 (999 - (h.gs.length : Int) + 1)
def latH (h : Hst) : Int := if validH h = true then h.f + (h.gs.length : Int) - 1 else 0
def hasV (h : Hst) (v : Int) : Bool := validH h && inB v h.f (latH h)
def atH (h : Hst) (v : Int) : Grf := if hasV h v = true then h.gs.getD (v - h.f).toNat zeroGr else zeroGr
def newC (g : Grf) (v : Int) : Bool := validH ⟨v, [g]⟩
def newH (g : Grf) (v : Int) : Hst := if newC g v = true then ⟨v, [g]⟩ else ⟨0, []⟩
def cutH (h : Hst) (v : Int) : Hst := if hasV h v = true then ⟨v, h.gs.drop (v - h.f).toNat⟩ else h
def lastG (h : Hst) : Grf := h.gs.getD (h.gs.length - 1) zeroGr
def addC (h : Hst) (cs : List Chg) : Bool := validH h && !decide (latH h = 999) && appC (lastG h) cs
def addL (h : Hst) (g : Grf) : Hst := if 8 < h.gs.length + 1 then ⟨h.f + 1, (h.gs ++ [g]).drop 1⟩ else ⟨h.f, h.gs ++ [g]⟩
def addH (h : Hst) (cs : List Chg) : Hst := if addC h cs = true then addL h (appG (lastG h) cs) else h
theorem validH_parts {h : Hst} (hv : validH h = true) : (∀ k (hk : k < h.gs.length), goodG h.gs h.gs[k] = true) ∧ 1 ≤ h.gs.length ∧ h.gs.length ≤ 8 ∧ 1 ≤ h.f ∧ h.f + (h.gs.length : Int) ≤ 1000 := by
  unfold validH at hv
  simp only [Bool.and_eq_true, List.all_eq_true] at hv
  obtain ⟨⟨h1, h2⟩, h3⟩ := hv
  unfold inB at h2 h3
  simp only [decide_eq_true_eq] at h2 h3
  exact ⟨fun k hk => h1 _ (List.getElem_mem hk), by omega, by omega, by omega, by omega⟩
theorem validH_bad {h : Hst} (k : Nat) (hk : k < h.gs.length) (hb : goodG h.gs h.gs[k] = false) : validH h = false := by
  rcases Bool.eq_false_or_eq_true (validH h) with hv | hv
  · have := (validH_parts hv).1 k hk; rw [hb] at this; cases this
  · exact hv
theorem validH_all {h : Hst} (ha : ∀ k (hk : k < h.gs.length), goodG h.gs h.gs[k] = true) : validH h = (inB (h.gs.length : Int) 1 8 && inB h.f 1 (999 - (h.gs.length : Int) + 1)) := by
  have : h.gs.all (goodG h.gs) = true := by
    rw [List.all_eq_true]
    intro g hg
    obtain ⟨k, hk, rfl⟩ := List.mem_iff_getElem.1 hg
    exact ha k hk
  unfold validH
  rw [this, Bool.true_and]
theorem hd0_get {gs : List Grf} (h : 0 < gs.length) : hd0 gs = (gs[0]).vs := by
  cases gs with
  | nil => simp at h
  | cons g gs => rfl
end Go.Proofs.Ytgdeiecbkmhbeaa
