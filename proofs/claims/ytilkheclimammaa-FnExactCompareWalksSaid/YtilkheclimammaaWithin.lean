/- Steps that turn blocks of a range alone; values that lie in a range of blocks. -/
import Derived.Test.YtilkheclimammaaEdgL
namespace Go.Proofs.Ytilkheclimammaa
set_option maxRecDepth 100000
open Go.ChangeShapes Go.WideShapes Go.ChangeAt Go.RowKit

/-- The slice v lies in a block from lo on and below hi (or in none). -/
def InR (lo hi : Nat) (v : Value) : Prop := ∀ k, v.ownBlock = some k → lo ≤ k ∧ k < hi
/-- Blocks below lo and from hi on are as they were. -/
structure Within (lo hi : Nat) (w w' : World) : Prop where
  os : w'.os = w.os
  tape : w'.tape = w.tape
  output : w'.output = w.output
  size : w.heap.size ≤ w'.heap.size
  block : ∀ k, k < w.heap.size → (k < lo ∨ hi ≤ k) → w'.heap[k]? = w.heap[k]?
theorem Within.refl (lo hi : Nat) (w : World) : Within lo hi w w := ⟨rfl, rfl, rfl, Nat.le_refl _, fun _ _ _ => rfl⟩
theorem Within.trans {lo hi : Nat} {a b c : World} (h : Within lo hi a b) (k : Within lo hi b c) : Within lo hi a c :=
  ⟨k.os.trans h.os, k.tape.trans h.tape, k.output.trans h.output, Nat.le_trans h.size k.size, fun i hi hn => (k.block i (Nat.lt_of_lt_of_le hi h.size) hn).trans (h.block i hi hn)⟩
theorem Within.of_since {lo hi : Nat} {a b : World} (h : Since a b) : Within lo hi a b := ⟨h.os, h.tape, h.output, h.size, fun i hi _ => h.block i hi⟩
theorem Within.of_grown {lo hi : Nat} {a b : World} {row : Option Nat} (h : a.grownBy b row) (hr : ∀ k, row = some k → lo ≤ k ∧ k < hi) : Within lo hi a b :=
  ⟨h.os, h.tape, h.output, h.size, fun i hi hn => h.block i hi (fun e => by have := hr i e.symm; omega)⟩
theorem Since.within {lo hi : Nat} {w0 w w' : World} (h : Since w0 w) (hl : w0.heap.size ≤ lo) (k : Within lo hi w w') : Since w0 w' :=
  ⟨k.os.trans h.os, k.tape.trans h.tape, k.output.trans h.output, Nat.le_trans h.size k.size, fun i hi => (k.block i (Nat.lt_of_lt_of_le hi h.size) (.inl (by omega))).trans (h.block i hi)⟩
theorem ownsRow_within {lo hi a b base size n : Nat} {e : TypeId} {w w' : World} {v : Value} {xs : List Value} (h : w.ownsRow base e size v n xs) (hv : InR a b v) (k : Within lo hi w w') (hd : b ≤ lo ∨ hi ≤ a) : w'.ownsRow base e size v n xs := by
  refine ⟨h.1, ?_⟩
  rcases h.2 with h3 | ⟨g, cap, cur, rfl, hb, hg, hr⟩
  · exact .inl h3
  · have := hv g rfl
    exact .inr ⟨g, cap, cur, rfl, hb, (k.block g (heap_lt hg) (by omega)).trans hg, hr⟩
theorem Own.within {lo hi a b base : Nat} {w w' : World} {v : Value} {xs : List Int} (h : Own base w v xs) (hv : InR a b v) (k : Within lo hi w w') (hd : b ≤ lo ∨ hi ≤ a) : Own base w' v xs :=
  ⟨h.1, ownsRow_within h.2 hv k hd⟩
theorem OwnE.within {lo hi a b base : Nat} {w w' : World} {v : Value} {xs : List Edg} (h : OwnE base w v xs) (hv : InR a b v) (k : Within lo hi w w') (hd : b ≤ lo ∨ hi ≤ a) : OwnE base w' v xs :=
  ⟨h.1, ownsRow_within h.2 hv k hd⟩
theorem Own.inR {base : Nat} {w : World} {v : Value} {xs : List Int} (h : Own base w v xs) : InR base w.heap.size v := fun k hk => h.2.lt k hk
theorem OwnE.inR {base : Nat} {w : World} {v : Value} {xs : List Edg} (h : OwnE base w v xs) : InR base w.heap.size v := fun k hk => h.2.lt k hk
theorem InR.mono {a b a' b' : Nat} {v : Value} (h : InR a b v) (ha : a' ≤ a) (hb : b ≤ b') : InR a' b' v := fun k hk => by have := h k hk; omega

/-- v is a graph whose two slices lie in blocks from lo on and below hi, and reads as g. -/
def OwnG (lo hi : Nat) (w : World) (v : Value) (g : Grf) : Prop := ∃ a b, v = .agg #[a, b] ∧ Own lo w a g.vs ∧ InR lo hi a ∧ OwnE lo w b g.es ∧ InR lo hi b
theorem OwnG.at {lo hi : Nat} {w : World} {v : Value} {g : Grf} (h : OwnG lo hi w v g) : GrfAt w v g := by
  obtain ⟨a, b, rfl, h1, _, h2, _⟩ := h; exact ⟨a, b, rfl, h1.at, h2.at⟩
theorem OwnG.since {lo hi : Nat} {w w' : World} {v : Value} {g : Grf} (h : OwnG lo hi w v g) (k : Since w w') : OwnG lo hi w' v g := by
  obtain ⟨a, b, rfl, h1, r1, h2, r2⟩ := h; exact ⟨a, b, rfl, h1.since k, r1, h2.since k, r2⟩
theorem OwnG.within {lo hi a b : Nat} {w w' : World} {v : Value} {g : Grf} (h : OwnG a b w v g) (k : Within lo hi w w') (hd : b ≤ lo ∨ hi ≤ a) : OwnG a b w' v g := by
  obtain ⟨x, y, rfl, h1, r1, h2, r2⟩ := h; exact ⟨x, y, rfl, h1.within r1 k hd, r1, h2.within r2 k hd, r2⟩
theorem OwnG.wider {a b a' b' : Nat} {w : World} {v : Value} {g : Grf} (h : OwnG a b w v g) (ha : a' ≤ a) (hb : b ≤ b') : OwnG a' b' w v g := by
  obtain ⟨x, y, rfl, h1, r1, h2, r2⟩ := h; exact ⟨x, y, rfl, h1.mono ha, r1.mono ha hb, h2.mono ha, r2.mono ha hb⟩
theorem OwnG.mk {lo : Nat} {w : World} {a b : Value} {vs : List Int} {es : List Edg} (h1 : Own lo w a vs) (h2 : OwnE lo w b es) : OwnG lo w.heap.size w (.agg #[a, b]) ⟨vs, es⟩ := ⟨a, b, rfl, h1, h1.inR, h2, h2.inR⟩
theorem own_apart {base base' : Nat} {w : World} {a b : Value} {xs : List Int} {ys : List Edg} (h : Own base w a xs) (k : OwnE base' w b ys) : a.ownBlock = none ∨ a.ownBlock ≠ b.ownBlock := by
  rcases k.2.2 with ⟨rfl, _⟩ | ⟨g, cap, cur, rfl, _, hg, _⟩
  · cases a.ownBlock with
    | none => exact .inl rfl
    | some _ => exact .inr (by simp [Value.ownBlock])
  · exact .inr (other_type h.2 hg (by decide))
/-- A step that turns a's block leaves b, and the other way round. -/
theorem own_apart' {base base' : Nat} {w : World} {a b : Value} {xs : List Int} {ys : List Edg} (h : Own base w a xs) (k : OwnE base' w b ys) : b.ownBlock = none ∨ b.ownBlock ≠ a.ownBlock := by
  rcases own_apart h k with e | e
  · cases hb : b.ownBlock with
    | none => exact .inl rfl
    | some _ => exact .inr (by rw [e]; simp)
  · exact .inr (fun e2 => e e2.symm)

end Go.Proofs.Ytilkheclimammaa
