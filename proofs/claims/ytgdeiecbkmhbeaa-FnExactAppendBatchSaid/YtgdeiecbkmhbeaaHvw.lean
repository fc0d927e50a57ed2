/- Histories that are only read: a slice of graphs at whatever place of a row. -/
import Derived.Test.YtgdeiecbkmhbeaaHsN
namespace Go.Proofs.Ytgdeiecbkmhbeaa
set_option maxRecDepth 100000
open Go.ChangeShapes Go.WideShapes Go.ChangeAt Go.RowKit
set_option linter.unusedVariables false

/-- v is a slice of graphs that reads as gs; its row and the graphs' memory lie in blocks from lo on and below hi. -/
def OwnV (lo hi : Nat) (w : World) (v : Value) (gs : List Grf) : Prop :=
  ∃ ao cap, v = .slice ao gs.length cap ∧ Hid (∀ i (h : i < gs.length), ∃ b off p q, ao = some ⟨b, off, none⟩ ∧ (lo ≤ b ∧ b < hi) ∧ b < w.heap.size ∧
    w.cell? ⟨b, off + i * 2, none⟩ = some p ∧ w.cell? ⟨b, off + i * 2 + 1, none⟩ = some q ∧ OwnG lo hi w (.agg #[p, q]) gs[i])
section
variable {lo hi : Nat} {w w' : World} {v : Value} {gs : List Grf}
theorem OwnV.at (h : OwnV lo hi w v gs) : GrsAt w v gs := by
  obtain ⟨ao, cap, rfl, hc⟩ := h
  refine ⟨ao, cap, rfl, fun i hi => ?_⟩
  obtain ⟨b, off, p, q, e, _, hb, c0, c1, hg⟩ := hc.out i hi
  exact ⟨b, off, p, q, e, hb, c0, c1, hg.at⟩
theorem OwnV.since (h : OwnV lo hi w v gs) (k : Since w w') : OwnV lo hi w' v gs := by
  obtain ⟨ao, cap, rfl, hc⟩ := h
  refine ⟨ao, cap, rfl, fun i hi => ?_⟩
  obtain ⟨b, off, p, q, e, hr, hb, c0, c1, hg⟩ := hc.out i hi
  have hx : ∀ o, w'.cell? ⟨b, o, none⟩ = w.cell? ⟨b, o, none⟩ := fun o => Below.cell k (p := ⟨b, o, none⟩) hb
  exact ⟨b, off, p, q, e, hr, Nat.lt_of_lt_of_le hb k.size, (hx _).trans c0, (hx _).trans c1, hg.since k⟩
theorem OwnV.within {a b : Nat} (h : OwnV a b w v gs) (k : Within lo hi w w') (hd : b ≤ lo ∨ hi ≤ a) : OwnV a b w' v gs := by
  obtain ⟨ao, cap, rfl, hc⟩ := h
  refine ⟨ao, cap, rfl, fun i hi => ?_⟩
  obtain ⟨c, off, p, q, e, hr, hb, c0, c1, hg⟩ := hc.out i hi
  have hk := k.block c hb (by omega)
  have hx : ∀ o, w'.cell? ⟨c, o, none⟩ = w.cell? ⟨c, o, none⟩ := fun o => World.cell?_of_block (w := w) (w' := w') (a := ⟨c, o, none⟩) hk
  exact ⟨c, off, p, q, e, hr, Nat.lt_of_lt_of_le hb k.size, (hx _).trans c0, (hx _).trans c1, hg.within k hd⟩
theorem OwnV.wider {a' b' : Nat} (h : OwnV lo hi w v gs) (ha : a' ≤ lo) (hb : hi ≤ b') : OwnV a' b' w v gs := by
  obtain ⟨ao, cap, rfl, hc⟩ := h
  refine ⟨ao, cap, rfl, fun i hi => ?_⟩
  obtain ⟨b, off, p, q, e, hr, hb, c0, c1, hg⟩ := hc.out i hi
  exact ⟨b, off, p, q, e, by omega, hb, c0, c1, hg.wider ha (by assumption)⟩
theorem OwnV.len (h : OwnV lo hi w v gs) : ∃ ao cap, v = .slice ao gs.length cap := by
  obtain ⟨ao, cap, e, _⟩ := h; exact ⟨ao, cap, e⟩
theorem OwnV.far {B : Nat} (h : OwnV lo hi w v gs) (hB : B < lo ∨ hi ≤ B) (i : Nat) (u : Value) : OwnV lo hi (w.setCell ⟨B, i, none⟩ u) v gs := by
  have k : Within B (B + 1) w (w.setCell ⟨B, i, none⟩ u) := ⟨rfl, rfl, rfl, by simp [World.setCell], fun k _ hn => Below.heap_setCell w ⟨B, i, none⟩ u k (by show k ≠ B; omega)⟩
  exact h.within k (by omega)
end
theorem OwnR.view {lo hi : Nat} {w : World} {v : Value} {gs : List Grf} (h : OwnR lo hi w v gs) : OwnV lo hi w v gs := by
  obtain ⟨ps, hr, hl, hin, hN⟩ := h
  rcases hr.2 with ⟨hv, hn⟩ | ⟨g, cap, cur, rfl, hb, hg, _⟩
  · exact ⟨none, 0, by rw [hv, hn], fun i hi => by omega⟩
  · refine ⟨_, cap, rfl, fun i hi => ?_⟩
    obtain ⟨c0, c1⟩ := ownR_cells hr hl.symm i (by omega)
    obtain ⟨a, b, h1, h2, h3, h4, _, _⟩ := hN.split i (by omega) hi
    exact ⟨g, 0, _, _, rfl, hin g rfl, heap_lt hg, by rw [Nat.zero_add]; exact c0, by simpa using c1, h4.wider h1 h3⟩
theorem OwnV.drop {lo hi : Nat} {w : World} {ao : Option Addr} {n cap : Nat} {gs : List Grf} (h : OwnV lo hi w (.slice ao n cap) gs) {k : Nat} (hk : k ≤ n) (ad : Option Addr) (m c : Nat) (hm : m = n - k) (had : k < n → ∀ b off, ao = some ⟨b, off, none⟩ → ad = some ⟨b, off + k * 2, none⟩) : OwnV lo hi w (.slice ad m c) (gs.drop k) := by
  obtain ⟨ao', cap', e, hc⟩ := h
  injection e with e1 e2 e3
  subst e1
  refine ⟨ad, c, by rw [List.length_drop, hm, e2], fun i hi => ?_⟩
  rw [List.length_drop] at hi
  obtain ⟨b, off, p, q, e, hr, hb, c0, c1, hg⟩ := hc.out (k + i) (by omega)
  refine ⟨b, off + k * 2, p, q, had (by omega) b off e, hr, hb, ?_, ?_, ?_⟩
  · rw [show off + k * 2 + i * 2 = off + (k + i) * 2 from by omega]; exact c0
  · rw [show off + k * 2 + i * 2 + 1 = off + (k + i) * 2 + 1 from by omega]; exact c1
  · rw [List.getElem_drop]; exact hg
def OwnVH (lo hi : Nat) (w : World) (v : Value) (h : Hst) : Prop := ∃ b, v = .agg #[.int .i64 h.f, b] ∧ OwnV lo hi w b h.gs
theorem OwnVH.at {lo hi : Nat} {w : World} {v : Value} {x : Hst} (h : OwnVH lo hi w v x) : HstAt w v x := by
  obtain ⟨b, rfl, h1⟩ := h; exact ⟨b, rfl, h1.at⟩
theorem OwnVH.since {lo hi : Nat} {w w' : World} {v : Value} {x : Hst} (h : OwnVH lo hi w v x) (k : Since w w') : OwnVH lo hi w' v x := by
  obtain ⟨b, rfl, h1⟩ := h; exact ⟨b, rfl, h1.since k⟩
theorem OwnVH.within {lo hi a b : Nat} {w w' : World} {v : Value} {x : Hst} (h : OwnVH a b w v x) (k : Within lo hi w w') (hd : b ≤ lo ∨ hi ≤ a) : OwnVH a b w' v x := by
  obtain ⟨y, rfl, h1⟩ := h; exact ⟨y, rfl, h1.within k hd⟩
theorem OwnVH.far2 {lo hi B : Nat} {w : World} {v : Value} {x : Hst} (h : OwnVH lo hi w v x) (hB : B < lo ∨ hi ≤ B) {i j : Nat} {u u' : Value} : OwnVH lo hi ((w.setCell ⟨B, i, none⟩ u).setCell ⟨B, j, none⟩ u') v x := by
  obtain ⟨y, rfl, h1⟩ := h; exact ⟨y, rfl, (h1.far hB i u).far hB j u'⟩
def HVBOut (w : World) (x : Hst) (c : Bool) (e : Ending) (w' : World) : Prop := ∃ v, e = .returned (.tuple #[v, .bool c]) ∧ OwnVH w.heap.size w'.heap.size w' v x ∧ Since w w'
def BoxHV (w1 wx : World) (p : Value) (R : Hst) : Prop :=
  ∃ lo hi B so sc, p = .pointer (some ⟨B, 0, none⟩) ∧ w1.heap.size ≤ lo ∧ w1.heap.size ≤ B ∧ hi ≤ wx.heap.size ∧ (B < lo ∨ hi ≤ B) ∧
    OwnVH lo hi wx (.agg #[.int .i64 R.f, .slice so R.gs.length sc]) R ∧ Blk wx B 26 #[.int .i64 R.f, .slice so R.gs.length sc] ∧ Since w1 wx
theorem boxHV_mk {w1 wx : World} {lo hi : Nat} {so : Option Addr} {sc : Nat} {R : Hst} (B : Nat) (hB : w1.heap.size ≤ B) (h0 : w1.heap.size ≤ lo) (h1 : hi ≤ wx.heap.size ∧ (B < lo ∨ hi ≤ B))
    (hO : OwnVH lo hi wx (.agg #[.int .i64 R.f, .slice so R.gs.length sc]) R) (hK : Blk wx B 26 #[.int .i64 R.f, .slice so R.gs.length sc]) (hS : Since w1 wx) :
    BoxHV w1 wx (.pointer (some ⟨B, 0, none⟩)) R := ⟨lo, hi, B, so, sc, rfl, h0, hB, h1.1, h1.2, hO, hK, hS⟩
/-- A view stored in the result's cell. -/
theorem hvb_stored {w w1 : World} {lo hi B : Nat} {v : Value} {x : Hst} {c d : Bool} (hc : c = d) (hO : OwnV lo hi w1 v x.gs) (hB : B < lo ∨ hi ≤ B) (hlo : w.heap.size ≤ lo) (hhi : hi ≤ w1.heap.size) (hB2 : w.heap.size ≤ B) (hs : Since w w1) {f : Int} (hf : f = x.f) (u0 u1 : Value) :
    HVBOut w x c (.returned (.tuple #[.agg #[.int .i64 f, v], .bool d])) ((w1.setCell ⟨B, 0, none⟩ u0).setCell ⟨B, 1, none⟩ u1) := by
  subst hc; subst hf
  exact ⟨_, rfl, ⟨_, rfl, ((hO.far hB 0 u0).far hB 1 u1).wider hlo (by simpa using hhi)⟩, (hs.setCell (a := ⟨B, 0, none⟩) hB2 u0).setCell (a := ⟨B, 1, none⟩) hB2 u1⟩
theorem OwnV.farT {lo hi B : Nat} {w : World} {v : Value} {gs : List Grf} (hB : B < lo ∨ hi ≤ B) (h : OwnV lo hi w v gs) (i : Nat) (u : Value) : OwnV lo hi (w.setCell ⟨B, i, none⟩ u) v gs := h.far hB i u
end Go.Proofs.Ytgdeiecbkmhbeaa
