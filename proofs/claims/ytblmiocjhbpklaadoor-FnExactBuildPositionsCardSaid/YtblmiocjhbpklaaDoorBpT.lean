/- What the building of positions leaves alone: tokens below the box, boxes of other types. -/
import Derived.Test.YtblmiocjhbpklaaDoorBpS
import Derived.Test.YtblmiocjhbpklaaDoorTok
namespace Go.Proofs.YtblmiocjhbpklaaDoor
set_option maxRecDepth 100000
open Go.ChangeShapes Go.WideShapes Go.ChangeAt Go.RowKit
set_option linter.unusedVariables false
set_option linter.unusedSimpArgs false

theorem toks_low {G b off n c : Nat} {w w' : World} {xs : List Tok} (h : ToksAt w (.slice (some ⟨b, off, none⟩) n c) xs) (hb : b < G) (k : KI G w w') : ToksAt w' (.slice (some ⟨b, off, none⟩) n c) xs := by
  obtain ⟨h1, h2 | ⟨b', off', cap, h2, h3, h4⟩⟩ := h
  · exact ⟨h1, .inl h2⟩
  · injection h2 with e1 e2 e3
    injection e1 with e1
    injection e1 with e1 e4
    subst e1; subst e4; subst e3
    refine ⟨h1, .inr ⟨b, off, c, by rw [e2], Nat.lt_of_lt_of_le h3 k.size, fun i hi => ?_⟩⟩
    have hc : ∀ o, w'.cell? ⟨b, o, none⟩ = w.cell? ⟨b, o, none⟩ := fun o => World.cell?_of_block (w := w) (w' := w') (a := ⟨b, o, none⟩) (k.low b h3 hb)
    rw [hc, hc, hc, hc]; exact h4 i hi
theorem own_farT {base X i : Nat} {w : World} {v : Value} {xs : List Int} {t : TypeId} {cs : Array Value} (h : Own base w v xs) (hb : Blk w X t cs) (ht : t ≠ 3) (u : Value) : Own base (w.setCell ⟨X, i, none⟩ u) v xs := by
  refine ⟨h.1, h.2.kept (grown_setP w X i u) ?_⟩
  cases e : v.ownBlock with
  | none => exact .inl rfl
  | some g => exact .inr (fun e2 => by injection e2 with e2; subst e2; exact other_type h.2 hb (fun e3 => ht e3.symm) e)
/-- A box of another type is written. -/
theorem BP.setT {G X i : Nat} {w : World} {lv fv : Value} {ls : List Int} {fo : List Nat} {t : TypeId} {cs : Array Value} (h : BP G w lv fv ls fo) (hb : Blk w X t cs) (h1 : t ≠ 3) (h2 : t ≠ 39) (u : Value) : BP G (w.setCell ⟨X, i, none⟩ u) lv fv ls fo := by
  refine ⟨h.blk.far (fun e => ?_) u, own_farT h.own1 hb h1 u, own_farT h.own2 hb h1 u, h.ap⟩
  have e : G = X := e
  subst e
  have := hb.symm.trans h.blk
  injection this with this
  injection this with _ this
  exact h2 this
/-- A block that is newer than the world that counts. -/
theorem KI.setNew {G X i : Nat} {w w' : World} (h : KI G w w') (hX : w.heap.size ≤ X) (hG : G < w.heap.size) (u : Value) : KI G w (w'.setCell ⟨X, i, none⟩ u) := by
  refine ⟨h.os, h.tape, h.output, by simp; exact h.size, fun k hk hk2 => ?_, fun k cs t hk h1 h2 => ?_⟩
  · rw [Below.heap_setCell w' ⟨X, i, none⟩ u k (fun e => by have e : k = X := e; omega)]
    exact h.low k hk hk2
  · have := h.typed k cs t hk h1 h2
    exact this.far (fun e => by have e : k = X := e; have := hk.lt; omega) u
theorem Blk.threeP {w : World} {g : Nat} {t : TypeId} {a b c : Value} (h : Blk w g t #[a, b, c]) : (w.cell? ⟨g, 0, none⟩ = some a ∧ w.cell? ⟨g, 1, none⟩ = some b ∧ w.cell? ⟨g, 2, none⟩ = some c) ∧ (w.frozen? ⟨g, 0, none⟩ = false ∧ w.frozen? ⟨g, 1, none⟩ = false ∧ w.frozen? ⟨g, 2, none⟩ = false) :=
  ⟨⟨h.cell 0, h.cell 1, h.cell 2⟩, h.frozen 0, h.frozen 1, h.frozen 2⟩
def FrgV (g : Frg) : Value := .agg #[.bool g.nu, .int .i64 (g.fi : Int), .int .i64 (g.la : Int)]
end Go.Proofs.YtblmiocjhbpklaaDoor
