/- The rows that NetBatch's map holds; marks; what a turned map leaves alone. -/
import Derived.Test.YtgdeiecbkmhbeaaMapG
import Derived.Test.YtgdeiecbkmhbeaaNetM
namespace Go.Proofs.Ytgdeiecbkmhbeaa
set_option maxRecDepth 100000
open Go.ChangeShapes Go.WideShapes Go.ChangeAt Go.RowKit
set_option linter.unusedVariables false

/-- w' is w but for block b. -/
abbrev setB (w : World) (b : Nat) (o : Obj) : World := { w with heap := w.heap.setIfInBounds b o }
theorem setB_size (w : World) (b : Nat) (o : Obj) : (setB w b o).heap.size = w.heap.size := by simp
theorem setB_block (w : World) (b : Nat) (o : Obj) {k : Nat} (h : k ≠ b) : (setB w b o).heap[k]? = w.heap[k]? := by
  simp [Ne.symm h]
theorem Since.setB {w w' : World} (h : Since w w') {b : Nat} (hb : w.heap.size ≤ b) (o : Obj) : Since w (setB w' b o) := by
  refine ⟨h.os, h.tape, h.output, ?_, fun k hk => ?_⟩
  · rw [setB_size]; exact h.size
  · rw [setB_block w' b o (by omega)]; exact h.block k hk
theorem row_keep {w w' : World} {base n size : Nat} {e : TypeId} {v : Value} {xs : List Value} (h : w.ownsRow base e size v n xs) (k : ∀ g, v.ownBlock = some g → w'.heap[g]? = w.heap[g]?) : w'.ownsRow base e size v n xs := by
  obtain ⟨h1, h2⟩ := h
  refine ⟨h1, ?_⟩
  rcases h2 with h2 | ⟨g, cap, cur, rfl, hb, hg, r⟩
  · exact .inl h2
  · exact .inr ⟨g, cap, cur, rfl, hb, (k g rfl).trans hg, r⟩
theorem Own.keep {w w' : World} {base : Nat} {v : Value} {xs : List Int} (h : Own base w v xs) (k : ∀ g, v.ownBlock = some g → w'.heap[g]? = w.heap[g]?) : Own base w' v xs := ⟨h.1, row_keep h.2 k⟩
theorem Own.drop {w : World} {base n cap : Nat} {o : Option Addr} {xs : List Int} (h : Own base w (.slice o n cap) xs) (hn : n = xs.length) (h0 : 0 < n) : Own base w (.slice o (n - 1) cap) xs.dropLast := by
  subst hn
  obtain ⟨h1, h2, h3⟩ := h
  refine ⟨fun x hx => h1 x (List.dropLast_subset xs hx), by simp, ?_⟩
  rcases h3 with ⟨hv, h3⟩ | ⟨g, cap', cur, hv, hb, hg, h4, h5, h6, h7⟩
  · omega
  · simp only [Value.slice.injEq] at hv
    obtain ⟨rfl, -, rfl⟩ := hv
    refine .inr ⟨g, cap, cur, by simp, hb, hg, by simp; omega, h5, h6, ?_⟩
    simp only [List.length_dropLast, Nat.mul_one] at h7 ⊢
    rw [List.dropLast_eq_take, List.map_take, ← h7, List.take_take]
    congr 1
    omega
/-- The numbers of places. -/
def plcI (cs : List Chg) (L : List Nat) (c : Chg) : List Int := (plcN cs L c).map Int.ofNat
/-- What f holds under each change are rows of the call's own, no two in one block: the places of L at which the change stands. -/
def PlcAt (base : Nat) (w : World) (f : Chg → Value) (cs : List Chg) (L : List Nat) : Prop :=
  (∀ c, Own base w (f c) (plcI cs L c)) ∧ ∀ c d, c ≠ d → (f c).ownBlock = none ∨ (f c).ownBlock ≠ (f d).ownBlock
theorem PlcAt.start (base : Nat) (w : World) (cs : List Chg) : PlcAt base w (fun _ => .slice none 0 0) cs [] :=
  ⟨fun c => ⟨fun x hx => by simp [plcI, plcN] at hx, World.ownsRow_nil _ _ _ _⟩, fun c d _ => .inl rfl⟩
theorem PlcAt.keep {base : Nat} {w w' : World} {f : Chg → Value} {cs : List Chg} {L : List Nat} (h : PlcAt base w f cs L) (k : ∀ g, base ≤ g → g < w.heap.size → w'.heap[g]? = w.heap[g]?) : PlcAt base w' f cs L :=
  ⟨fun c => (h.1 c).keep (fun g hg => by have := (h.1 c).2.lt g hg; exact k g this.1 this.2), h.2⟩
theorem PlcAt.since {base : Nat} {w w' : World} {f : Chg → Value} {cs : List Chg} {L : List Nat} (h : PlcAt base w f cs L) (k : Since w w') : PlcAt base w' f cs L := h.keep (fun g _ hg => k.block g hg)
theorem PlcAt.setB {base b : Nat} {w : World} {f : Chg → Value} {cs : List Chg} {L : List Nat} (h : PlcAt base w f cs L) (hb : b < base) (o : Obj) : PlcAt base (setB w b o) f cs L := h.keep (fun g hg _ => setB_block w b o (by omega))
/-- A place more. -/
theorem PlcAt.more {base : Nat} {w w' : World} {f : Chg → Value} {cs : List Chg} {L : List Nat} {j : Nat} {c : Chg} {v : Value} (h : PlcAt base w f cs L) (hj : j < cs.length) (hc : cs[j] = c)
    (ho : Own base w' v (plcI cs L c ++ [(j : Int)])) (hg : w.grownBy w' (f c).ownBlock) (hb : v.ownBlock = (f c).ownBlock ∨ v.ownBlock = some w.heap.size) : PlcAt base w' (updF f c v) cs (L ++ [j]) := by
  have hsep : ∀ d, d ≠ c → (f d).ownBlock = none ∨ (f d).ownBlock ≠ v.ownBlock := by
    intro d hd
    rcases hb with hb | hb
    · rw [hb]; exact h.2 d c hd
    · rw [hb]
      cases hx : (f d).ownBlock with
      | none => exact .inl rfl
      | some g =>
        have := (h.1 d).2.lt g hx
        exact .inr (fun e => by injection e with e; omega)
  refine ⟨fun d => ?_, fun a d hne => ?_⟩
  · unfold updF
    by_cases hd : d = c
    · subst hd
      rw [if_pos rfl]
      unfold plcI
      rw [plcN_append hj, if_pos hc, List.map_append]
      exact ho
    · rw [if_neg hd]
      unfold plcI
      rw [plcN_append hj, if_neg (fun e => hd (e.symm.trans hc)), List.append_nil]
      refine (h.1 d).keep (fun g hgg => ?_)
      have := (h.1 d).2.lt g hgg
      refine hg.block g this.2 (fun e => ?_)
      rcases h.2 d c hd with h0 | h0
      · rw [h0] at hgg; cases hgg
      · exact h0 (hgg.trans e)
  · unfold updF
    by_cases ha : a = c
    · rw [if_pos ha, if_neg (fun e => hne (ha.trans e.symm))]
      have hd : d ≠ c := fun e => hne (ha.trans e.symm)
      rcases hsep d hd with h0 | h0
      · cases hx : v.ownBlock with
        | none => exact .inl rfl
        | some g => right; rw [h0]; simp
      · exact .inr (fun e => h0 e.symm)
    · rw [if_neg ha]
      by_cases hd : d = c
      · rw [if_pos hd]; exact hsep a ha
      · rw [if_neg hd]; exact h.2 a d hne
/-- A place less: the last under d. -/
theorem PlcAt.less {base : Nat} {w : World} {f : Chg → Value} {cs : List Chg} {L : List Nat} {p : Nat} {d : Chg} {o : Option Addr} {n cap : Nat} (h : PlcAt base w f cs L) (hL : L.Nodup) (hl : (plcN cs L d).getLast? = some p) (hf : f d = .slice o n cap) (hn : n = (plcN cs L d).length) :
    PlcAt base w (updF f d (.slice o (n - 1) cap)) cs (L.filter fun i => i != p) := by
  have h0 : 0 < n := by
    rcases Nat.eq_zero_or_pos n with e | e
    · rw [hn] at e; rw [List.length_eq_zero_iff.1 e] at hl; simp at hl
    · exact e
  have hbk : (Value.slice o (n - 1) cap).ownBlock = (f d).ownBlock := by rw [hf]; cases o <;> rfl
  refine ⟨fun c => ?_, fun a c hne => ?_⟩
  · unfold updF plcI
    by_cases hc : c = d
    · subst hc
      rw [if_pos rfl, plcN_same hL hl, List.map_dropLast]
      have := h.1 c
      rw [hf] at this
      exact this.drop (by unfold plcI; rw [List.length_map]; exact hn) h0
    · rw [if_neg hc, plcN_other (plcN_last hl).2 hc]
      exact h.1 c
  · have e : ∀ c, (updF f d (.slice o (n - 1) cap) c).ownBlock = (f c).ownBlock := by
      intro c
      unfold updF
      by_cases hc : c = d
      · rw [if_pos hc, hbk, hc]
      · rw [if_neg hc]
    rw [e, e]; exact h.2 a c hne
/-- Truth values of the call's own. -/
def OwnL (base : Nat) (w : World) (v : Value) (xs : List Bool) : Prop := w.ownsRow base 4 1 v xs.length (xs.map Value.bool)
theorem OwnL.keep {w w' : World} {base : Nat} {v : Value} {xs : List Bool} (h : OwnL base w v xs) (k : ∀ g, v.ownBlock = some g → w'.heap[g]? = w.heap[g]?) : OwnL base w' v xs := row_keep h k
end Go.Proofs.Ytgdeiecbkmhbeaa
