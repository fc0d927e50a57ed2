/- Parts of a list of changes; the last opposite, scanned for. -/
import Derived.Test.YtgdeiecbkmhbeaaNetM
namespace Go.Proofs.Ytgdeiecbkmhbeaa
set_option maxRecDepth 100000
open Go.ChangeShapes Go.WideShapes Go.ChangeAt Go.RowKit
set_option linter.unusedVariables false

theorem chgs_takeO {w : World} {ao : Option Addr} {m cap : Nat} {xs : List Chg} (h : ChgsAt w (.slice ao m cap) xs) {k : Nat} (hk : k ≤ m) (ad : Option Addr) (c : Nat) (had : ∀ b off, ao = some ⟨b, off, none⟩ → ad = some ⟨b, off, none⟩) : ChgsAt w (.slice ad k c) (xs.take k) := by
  obtain ⟨h1, ao', cap', e, hc⟩ := h
  injection e with e1 e2 e3
  subst e1
  refine ⟨fun x hx => h1 x (List.mem_of_mem_take hx), ad, c, by rw [List.length_take, ← e2, Nat.min_eq_left hk], fun i hi => ?_⟩
  rw [List.length_take] at hi
  obtain ⟨b, off, e, hb, c'⟩ := hc.out i (by omega)
  refine ⟨b, off, had b off e, hb, ?_⟩
  rw [List.getElem_take]; exact c'
theorem chgs_dropO {w : World} {ao : Option Addr} {m cap : Nat} {xs : List Chg} (h : ChgsAt w (.slice ao m cap) xs) {k : Nat} (hk : k ≤ m) (ad : Option Addr) (n c : Nat) (hn : n = m - k) (had : k < m → ∀ b off, ao = some ⟨b, off, none⟩ → ad = some ⟨b, off + k * 5, none⟩) : ChgsAt w (.slice ad n c) (xs.drop k) := by
  obtain ⟨h1, ao', cap', e, hc⟩ := h
  injection e with e1 e2 e3
  subst e1
  refine ⟨fun x hx => h1 x (List.mem_of_mem_drop hx), ad, c, by rw [List.length_drop, hn, e2], fun i hi => ?_⟩
  rw [List.length_drop] at hi
  obtain ⟨b, off, e, hb, c'⟩ := hc.out (k + i) (by omega)
  refine ⟨b, off + k * 5, had (by omega) b off e, hb, ?_⟩
  rw [List.getElem_drop, show off + k * 5 + i * 5 = off + (k + i) * 5 from by omega]; exact c'
theorem erase_parts (xs : List Chg) (k : Nat) : xs.eraseIdx k = xs.take k ++ xs.drop (k + 1) := List.eraseIdx_eq_take_drop_succ xs k
theorem ownC_lit (w w1 : World) (h : Since w w1) (b : Nat) (hb : b = w1.heap.size) : OwnC w.heap.size (w1.alloc (.cells #[] 98)) (.slice (some ⟨b, 0, none⟩) 0 0) [] := by
  subst hb; exact ⟨fun x hx => by simp at hx, World.ownsRow_lit w1 #[] 0 h.size (Nat.zero_le _) rfl⟩
/-- The scan's answer so far. -/
def atV (o : Option Nat) : Int := match o with | none => -1 | some q => (q : Int)
theorem lastIx_hit {x : List Chg} {d : Chg} {n : Nat} (h : n < x.length) (he : x[n] = d) : lastIx x d (n + 1) = some n := by
  rw [lastIx, if_pos (by rw [List.getElem?_eq_getElem h, he])]
theorem lastIx_miss {x : List Chg} {d : Chg} {n : Nat} (h : n < x.length) (he : x[n] ≠ d) : lastIx x d (n + 1) = lastIx x d n := by
  rw [lastIx, if_neg (by rw [List.getElem?_eq_getElem h]; intro e; exact he (Option.some.inj e))]
theorem turn_iff (a c : Chg) : a = turnC c ↔ (a.ed = c.ed ∧ (a.ins != c.ins) = true) := by
  unfold turnC
  rw [Chg.eq_iff]
  cases a.ins <;> cases c.ins <;> simp
theorem stepN_none {x : List Chg} {c : Chg} (h : lastIx x (turnC c) x.length = none) : stepN x c = x ++ [c] := by unfold stepN; rw [h]
theorem stepN_at {x : List Chg} {c : Chg} {k : Nat} (h : lastIx x (turnC c) x.length = some k) : stepN x c = x.take k ++ x.drop (k + 1) := by unfold stepN; rw [h]; exact erase_parts x k
/-- The changes of one kind among the first k. -/
def kindL (b : Bool) (xs : List Chg) : List Chg := xs.filter fun c => c.ins == b
theorem kindL_step {b : Bool} {xs : List Chg} {k : Nat} (h : k < xs.length) : kindL b (xs.take (k + 1)) = kindL b (xs.take k) ++ (if xs[k].ins = b then [xs[k]] else []) := by
  rw [List.take_succ_eq_append_getElem h]
  unfold kindL
  rw [List.filter_append]
  cases xs[k] with
  | mk i e => cases i <;> cases b <;> simp
theorem kindL_len (b : Bool) (xs : List Chg) (k : Nat) : (kindL b (xs.take k)).length ≤ k := by
  unfold kindL
  have h1 := List.length_filter_le (fun c : Chg => c.ins == b) (xs.take k)
  rw [List.length_take] at h1
  omega
theorem kindL_net (cs : List Chg) : netB cs = kindL false (netL cs) ++ kindL true (netL cs) := by
  unfold netB kindL
  congr 1
  · apply List.filter_congr; intro c _; cases c.ins <;> rfl
  · apply List.filter_congr; intro c _; cases c.ins <;> rfl
end Go.Proofs.Ytgdeiecbkmhbeaa
