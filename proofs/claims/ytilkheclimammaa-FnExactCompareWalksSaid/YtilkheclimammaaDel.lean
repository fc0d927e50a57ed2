/- Slices of slices of edges. -/
import Derived.Test.YtilkheclimammaaWithin
namespace Go.Proofs.Ytilkheclimammaa
set_option maxRecDepth 100000
open Go.ChangeShapes Go.WideShapes Go.ChangeAt Go.RowKit
set_option linter.unusedVariables false

/-- The graph's slice of edges is not longer than its capacity. -/
def CapE (v : Value) : Prop := ∃ a ao m cap, v = .agg #[a, .slice ao m cap] ∧ m ≤ cap
theorem CapE.out {a : Value} {ao : Option Addr} {m cap : Nat} (h : CapE (.agg #[a, .slice ao m cap])) : m ≤ cap := by
  obtain ⟨a', ao', m', cap', e, h⟩ := h
  injection e with e; injection e with e; injection e with _ e; injection e with e; injection e with _ e1 e2
  subst e1; subst e2; exact h
theorem OwnG.cap {lo hi : Nat} {w : World} {v : Value} {g : Grf} (h : OwnG lo hi w v g) : CapE v := by
  obtain ⟨a, b, rfl, _, _, h2, _⟩ := h
  rcases h2.2.2 with ⟨rfl, _⟩ | ⟨g, cap, cur, rfl, _, _, hc, _⟩
  · exact ⟨a, none, 0, 0, rfl, Nat.le_refl _⟩
  · exact ⟨a, _, _, cap, rfl, hc⟩
/-- A cell written: other blocks stand. -/
theorem Within.cell (w : World) (p : Addr) (u : Value) : Within p.block (p.block + 1) w (w.setCell p u) := ⟨rfl, rfl, rfl, by simp [World.setCell], fun k _ hn => Below.heap_setCell w p u k (by omega)⟩
theorem edges_take {w : World} {ao : Option Addr} {m cap : Nat} {xs : List Edg} (h : EdgesAt w (.slice ao m cap) xs) {k : Nat} (hk : k ≤ m) (ad : Option Addr) (c : Nat) (had : ad = ao) : EdgesAt w (.slice ad k c) (xs.take k) := by
  subst had
  obtain ⟨h1, h2⟩ := h
  refine ⟨fun x hx => h1 x (List.mem_of_mem_take hx), ?_⟩
  rcases h2 with ⟨rfl, ao', cap', e⟩ | ⟨b, off, cap', e, hb, hc⟩
  · injection e with _ e _
    obtain rfl : k = 0 := by omega
    exact .inl ⟨by simp, ad, c, rfl⟩
  · injection e with e1 e2 _
    have hl : (xs.take k).length = k := by simp; omega
    refine .inr ⟨b, off, c, by rw [hl, e1], hb, fun i hi => ?_⟩
    rw [List.getElem_take]
    exact hc i (by omega)
theorem edges_drop {w : World} {b off m cap : Nat} {xs : List Edg} (h : EdgesAt w (.slice (some ⟨b, off, none⟩) m cap) xs) {k : Nat} (hk : k ≤ m) (ad : Option Addr) (n c : Nat) (hn : n = m - k) (had : k < m → ad = some ⟨b, off + k * 4, none⟩) : EdgesAt w (.slice ad n c) (xs.drop k) := by
  subst hn
  obtain ⟨h1, h2⟩ := h
  refine ⟨fun x hx => h1 x (List.mem_of_mem_drop hx), ?_⟩
  rcases h2 with ⟨rfl, ao', cap', e⟩ | ⟨b', off', cap', e, hb, hc⟩
  · injection e with _ e _
    exact .inl ⟨by simp, ad, c, by rw [show m - k = 0 from by omega]⟩
  · injection e with e1 e2 _
    injection e1 with e1; injection e1 with e1 e3
    subst e1; subst e3
    by_cases hlt : k < m
    · refine .inr ⟨b, off + k * 4, c, by rw [had hlt, List.length_drop, ← e2], hb, fun i hi => ?_⟩
      rw [List.length_drop] at hi
      have := hc (k + i) (by omega)
      rw [List.getElem_drop]
      rw [show off + k * 4 + i * 4 = off + (k + i) * 4 from by omega]
      exact this
    · exact .inl ⟨List.drop_of_length_le (by omega), ad, c, by rw [show m - k = 0 from by omega]⟩
theorem edges_takeO {w : World} {ao : Option Addr} {m cap : Nat} {xs : List Edg} (h : EdgesAt w (.slice ao m cap) xs) {k : Nat} (hk : k ≤ m) (ad : Option Addr) (c : Nat) (had : ∀ b off, ao = some ⟨b, off, none⟩ → ad = some ⟨b, off, none⟩) : EdgesAt w (.slice ad k c) (xs.take k) := by
  have h0 := h
  rcases h.2 with ⟨rfl, ao', cap', e⟩ | ⟨b, off, cap', e, hb, hc⟩
  · injection e with _ e _
    obtain rfl : k = 0 := by omega
    exact ⟨fun x hx => by simp at hx, .inl ⟨by simp, ad, c, rfl⟩⟩
  · injection e with e1 e2 _
    exact edges_take h0 hk ad c ((had b off e1).trans e1.symm)
theorem edges_dropO {w : World} {ao : Option Addr} {m cap : Nat} {xs : List Edg} (h : EdgesAt w (.slice ao m cap) xs) {k : Nat} (hk : k ≤ m) (ad : Option Addr) (n c : Nat) (hn : n = m - k) (had : k < m → ∀ b off, ao = some ⟨b, off, none⟩ → ad = some ⟨b, off + k * 4, none⟩) : EdgesAt w (.slice ad n c) (xs.drop k) := by
  rcases h.2 with ⟨rfl, ao', cap', e⟩ | ⟨b, off, cap', e, hb, hc⟩
  · injection e with _ e _
    exact ⟨fun x hx => by simp at hx, .inl ⟨by simp, ad, c, by rw [show n = 0 from by omega]⟩⟩
  · injection e with e1 e2 _
    subst e1
    exact edges_drop h hk ad n c hn (fun hlt => had hlt b off rfl)
end Go.Proofs.Ytilkheclimammaa
