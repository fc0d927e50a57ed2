/- Trees of tokens in memory: nodes in a range of blocks, apart from each other; what keeps them. -/
import Derived.Test.YthnppgcmmabolaaExM
namespace Go.Proofs.Ythnppgcmmabolaa
set_option maxRecDepth 100000
open Go.ChangeShapes Go.WideShapes Go.ChangeAt Go.RowKit
set_option linter.unusedVariables false
set_option linter.unusedSimpArgs false

abbrev ncells (t : Tok) (lv rv : Value) : Array Value := #[.int .i64 t.kd, .int .i64 t.lr, .int .i64 t.lo, .int .i64 t.hi, lv, rv]
/-- Blocks below base and blocks that hold no tokens are as they were. -/
structure KeepK (base : Nat) (w w' : World) : Prop where
  os : w'.os = w.os
  tape : w'.tape = w.tape
  output : w'.output = w.output
  size : w.heap.size ≤ w'.heap.size
  low : ∀ k, k < w.heap.size → k < base → w'.heap[k]? = w.heap[k]?
  typed : ∀ k cs t, Blk w k t cs → t ≠ 41 → Blk w' k t cs
theorem KeepK.refl (base : Nat) (w : World) : KeepK base w w := ⟨rfl, rfl, rfl, Nat.le_refl _, fun _ _ _ => rfl, fun _ _ _ h _ => h⟩
theorem KeepK.trans {base : Nat} {a b c : World} (h : KeepK base a b) (k : KeepK base b c) : KeepK base a c :=
  ⟨k.os.trans h.os, k.tape.trans h.tape, k.output.trans h.output, Nat.le_trans h.size k.size, fun i hi hb => (k.low i (Nat.lt_of_lt_of_le hi h.size) hb).trans (h.low i hi hb), fun i cs t hb ht => k.typed i cs t (h.typed i cs t hb ht) ht⟩
theorem KeepK.of_since {base : Nat} {a b : World} (h : Since a b) : KeepK base a b := ⟨h.os, h.tape, h.output, h.size, fun i hi _ => h.block i hi, fun i cs t hb _ => hb.since h⟩
theorem KeepK.of_drew {base : Nat} {w w' : World} (h : KeepK base w.drew w') : KeepK base w w' := ⟨h.os, h.tape, h.output, h.size, h.low, h.typed⟩
theorem KeepK.of_grown {base : Nat} {a b : World} {v : Value} {xs : List Tok} (h : a.grownBy b v.ownBlock) (ho : OwnK base a v xs) : KeepK base a b :=
  ⟨h.os, h.tape, h.output, h.size, fun i hi hb => h.block i hi (fun e => by have := ho.2.lt i e.symm; omega), fun i cs t hb ht => (h.block i hb.lt (fun e => other_type ho.2 hb (fun e => ht e.symm) e.symm)).trans hb⟩
theorem KeepK.since {w w' : World} (h : KeepK w.heap.size w w') : Since w w' := ⟨h.os, h.tape, h.output, h.size, fun i hi => h.low i hi hi⟩
theorem Since.keepK {w0 w w' : World} (h : Since w0 w) (k : KeepK w0.heap.size w w') : Since w0 w' := ((KeepK.of_since (base := w0.heap.size) h).trans k).since
theorem Blk.keep {w w' : World} {base g : Nat} {t : TypeId} {cs : Array Value} (h : Blk w g t cs) (k : KeepK base w w') (ht : t ≠ 41) : Blk w' g t cs := k.typed g cs t h ht
end Go.Proofs.Ythnppgcmmabolaa
