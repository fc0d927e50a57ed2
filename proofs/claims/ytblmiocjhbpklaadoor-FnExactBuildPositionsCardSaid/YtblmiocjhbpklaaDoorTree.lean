/- Trees of tokens in memory: nodes in a range of blocks, apart from each other; what keeps them. -/
import Derived.Test.YtblmiocjhbpklaaDoorExM
namespace Go.Proofs.YtblmiocjhbpklaaDoor
set_option maxRecDepth 100000
open Go.ChangeShapes Go.WideShapes Go.ChangeAt Go.RowKit
set_option linter.unusedVariables false
set_option linter.unusedSimpArgs false

abbrev ncells (t : Tok) (lv rv : Value) : Array Value := #[.int .i64 t.kd, .int .i64 t.lr, .int .i64 t.lo, .int .i64 t.hi, lv, rv]
/-- v is a pointer to a tree whose nodes lie in blocks from lo on and below hi. -/
def TreeAt (w : World) : Tr → Nat → Nat → Value → Prop
  | .nil, lo, hi, v => v = .pointer none
  | .node t l r, lo, hi, v => t.In ∧ ∃ g lv rv a b c d, v = .pointer (some ⟨g, 0, none⟩) ∧ (lo ≤ g ∧ g < hi) ∧ Blk w g 131 (ncells t lv rv) ∧ (lo ≤ a ∧ b ≤ hi ∧ lo ≤ c ∧ d ≤ hi) ∧ (b ≤ c ∨ d ≤ a) ∧ (g < a ∨ b ≤ g) ∧ (g < c ∨ d ≤ g) ∧ TreeAt w l a b lv ∧ TreeAt w r c d rv
theorem TreeAt.of {w w' : World} {T : Tr} : ∀ {lo hi : Nat} {v : Value}, (∀ k cs, lo ≤ k → k < hi → Blk w k 131 cs → Blk w' k 131 cs) → TreeAt w T lo hi v → TreeAt w' T lo hi v := by
  induction T with
  | nil => intro lo hi v _ h; exact h
  | node t l r hl hr =>
    intro lo hi v hk h
    obtain ⟨h0, g, lv, rv, a, b, c, d, h1, h2, h3, h4, h5, h6, h7, h8, h9⟩ := h
    refine ⟨h0, g, lv, rv, a, b, c, d, h1, h2, hk _ _ h2.1 h2.2 h3, h4, h5, h6, h7, hl (fun k cs k1 k2 => hk k cs (by omega) (by omega)) h8, hr (fun k cs k1 k2 => hk k cs (by omega) (by omega)) h9⟩
theorem TreeAt.since {w w' : World} {T : Tr} {lo hi : Nat} {v : Value} (h : TreeAt w T lo hi v) (k : Since w w') : TreeAt w' T lo hi v := h.of fun _ _ _ _ hb => hb.since k
theorem TreeAt.within {w w' : World} {T : Tr} {lo hi x y : Nat} {v : Value} (h : TreeAt w T lo hi v) (k : Within x y w w') (hd : hi ≤ x ∨ y ≤ lo) : TreeAt w' T lo hi v := h.of fun j _ j1 j2 hb => hb.within k (by omega)
theorem TreeAt.wider {w : World} {T : Tr} {lo hi lo' hi' : Nat} {v : Value} (h : TreeAt w T lo hi v) (h1 : lo' ≤ lo) (h2 : hi ≤ hi') : TreeAt w T lo' hi' v := by
  cases T with
  | nil => exact h
  | node t l r =>
    obtain ⟨h0, g, lv, rv, a, b, c, d, e1, e2, e3, e4, e5⟩ := h
    exact ⟨h0, g, lv, rv, a, b, c, d, e1, by omega, e3, by omega, e5⟩
theorem TreeAt.ptr {w : World} {T : Tr} {lo hi : Nat} {v : Value} (h : TreeAt w T lo hi v) : v.oneCell' = true := by
  cases T with
  | nil => rw [show v = .pointer none from h]; rfl
  | node t l r => obtain ⟨_, g, _, _, _, _, _, _, rfl, _⟩ := h; rfl
/-- A row that grows, of another element type. -/
theorem TreeAt.grown {w w' : World} {T : Tr} {lo hi base size n : Nat} {e : TypeId} {v u : Value} {xs : List Value} (h : TreeAt w T lo hi v) (k : w.grownBy w' u.ownBlock) (ho : w.ownsRow base e size u n xs) (he : e ≠ 131) : TreeAt w' T lo hi v :=
  h.of fun j cs _ _ hb => (k.block j hb.lt (fun e2 => other_type ho hb he e2.symm)).trans hb
/-- Trees one behind the other. -/
def StkT (w : World) : Nat → Nat → List Value → List Tr → Prop
  | lo, hi, [], [] => lo ≤ hi
  | lo, hi, v :: vs, T :: Ts => ∃ m, lo ≤ m ∧ m ≤ hi ∧ TreeAt w T lo m v ∧ StkT w m hi vs Ts
  | _, _, _, _ => False
theorem StkT.lt {w : World} {vs : List Value} {Ts : List Tr} : ∀ {lo hi : Nat}, StkT w lo hi vs Ts → lo ≤ hi := by
  induction vs generalizing Ts with
  | nil => intro lo hi h; cases Ts with
    | nil => exact h
    | cons _ _ => exact h.elim
  | cons v vs ih => intro lo hi h; cases Ts with
    | nil => exact h.elim
    | cons T Ts => obtain ⟨m, h1, h2, _, h3⟩ := h; exact Nat.le_trans h1 (ih h3)
theorem StkT.len {w : World} {vs : List Value} {Ts : List Tr} : ∀ {lo hi : Nat}, StkT w lo hi vs Ts → vs.length = Ts.length := by
  induction vs generalizing Ts with
  | nil => intro lo hi h; cases Ts with
    | nil => rfl
    | cons _ _ => exact h.elim
  | cons v vs ih => intro lo hi h; cases Ts with
    | nil => exact h.elim
    | cons T Ts => obtain ⟨m, h1, h2, _, h3⟩ := h; simp [ih h3]
theorem StkT.wider {w : World} {vs : List Value} {Ts : List Tr} : ∀ {lo hi hi' : Nat}, StkT w lo hi vs Ts → hi ≤ hi' → StkT w lo hi' vs Ts := by
  induction vs generalizing Ts with
  | nil => intro lo hi hi' h hh; cases Ts with
    | nil => exact Nat.le_trans h hh
    | cons _ _ => exact h.elim
  | cons v vs ih => intro lo hi hi' h hh; cases Ts with
    | nil => exact h.elim
    | cons T Ts => obtain ⟨m, h1, h2, h4, h3⟩ := h; exact ⟨m, h1, Nat.le_trans h2 hh, h4, ih h3 hh⟩
theorem StkT.of {w w' : World} {vs : List Value} {Ts : List Tr} : ∀ {lo hi : Nat}, (∀ k cs, lo ≤ k → k < hi → Blk w k 131 cs → Blk w' k 131 cs) → StkT w lo hi vs Ts → StkT w' lo hi vs Ts := by
  induction vs generalizing Ts with
  | nil => intro lo hi _ h; cases Ts with
    | nil => exact h
    | cons _ _ => exact h.elim
  | cons v vs ih => intro lo hi hk h; cases Ts with
    | nil => exact h.elim
    | cons T Ts =>
      obtain ⟨m, h1, h2, h4, h3⟩ := h
      exact ⟨m, h1, h2, h4.of (fun k cs k1 k2 => hk k cs k1 (by omega)), ih (fun k cs k1 k2 => hk k cs (by omega) k2) h3⟩
theorem StkT.since {w w' : World} {vs : List Value} {Ts : List Tr} {lo hi : Nat} (h : StkT w lo hi vs Ts) (k : Since w w') : StkT w' lo hi vs Ts := h.of fun _ _ _ _ hb => hb.since k
theorem StkT.grown {w w' : World} {vs : List Value} {Ts : List Tr} {lo hi base size n : Nat} {e : TypeId} {u : Value} {xs : List Value} (h : StkT w lo hi vs Ts) (k : w.grownBy w' u.ownBlock) (ho : w.ownsRow base e size u n xs) (he : e ≠ 131) : StkT w' lo hi vs Ts :=
  h.of fun j cs _ _ hb => (k.block j hb.lt (fun e2 => other_type ho hb he e2.symm)).trans hb
theorem StkT.far {w : World} {vs : List Value} {Ts : List Tr} {lo hi : Nat} (h : StkT w lo hi vs Ts) {p : Addr} (hp : p.block < lo ∨ hi ≤ p.block) (u : Value) : StkT (w.setCell p u) lo hi vs Ts := h.of fun k cs k1 k2 hb => hb.far (by omega) u
theorem StkT.append {w : World} {vs us : List Value} {Ts Us : List Tr} : ∀ {lo m hi : Nat}, StkT w lo m vs Ts → StkT w m hi us Us → StkT w lo hi (vs ++ us) (Ts ++ Us) := by
  induction vs generalizing Ts with
  | nil => intro lo m hi h k; cases Ts with
    | cons _ _ => exact h.elim
    | nil =>
      have h : lo ≤ m := h
      cases us with
      | nil => cases Us with
        | nil => exact Nat.le_trans h k
        | cons _ _ => exact k.elim
      | cons u us => cases Us with
        | nil => exact k.elim
        | cons U Us => obtain ⟨j, h1, h2, h4, h3⟩ := k; exact ⟨j, Nat.le_trans h h1, h2, h4.wider h (Nat.le_refl _), h3⟩
  | cons v vs ih => intro lo m hi h k; cases Ts with
    | nil => exact h.elim
    | cons T Ts => obtain ⟨j, h1, h2, h4, h3⟩ := h; exact ⟨j, h1, Nat.le_trans h2 k.lt, h4, ih h3 k⟩
theorem StkT.split {w : World} {vs us : List Value} {Ts Us : List Tr} : ∀ {lo hi : Nat}, StkT w lo hi (vs ++ us) (Ts ++ Us) → vs.length = Ts.length → ∃ m, StkT w lo m vs Ts ∧ StkT w m hi us Us := by
  induction vs generalizing Ts with
  | nil => intro lo hi h hl; cases Ts with
    | cons _ _ => simp at hl
    | nil => exact ⟨lo, Nat.le_refl _, h⟩
  | cons v vs ih => intro lo hi h hl; cases Ts with
    | nil => simp at hl
    | cons T Ts =>
      obtain ⟨j, h1, h2, h4, h3⟩ := h
      obtain ⟨m, k1, k2⟩ := ih h3 (by simpa using hl)
      exact ⟨m, ⟨j, h1, k1.lt, h4, k1⟩, k2⟩
theorem StkT.cut {w : World} {vs : List Value} {Ts : List Tr} {lo hi : Nat} (h : StkT w lo hi vs Ts) (k : Nat) : ∃ m, StkT w lo m (vs.take k) (Ts.take k) ∧ StkT w m hi (vs.drop k) (Ts.drop k) := by
  have hl := h.len
  have : StkT w lo hi (vs.take k ++ vs.drop k) (Ts.take k ++ Ts.drop k) := by rw [List.take_append_drop, List.take_append_drop]; exact h
  exact this.split (by simp [hl])
theorem StkT.ptrs {w : World} {vs : List Value} {Ts : List Tr} : ∀ {lo hi : Nat}, StkT w lo hi vs Ts → ∀ v ∈ vs, v.oneCell' = true := by
  induction vs generalizing Ts with
  | nil => intro lo hi _ v hv; simp at hv
  | cons u vs ih => intro lo hi h v hv; cases Ts with
    | nil => exact h.elim
    | cons T Ts =>
      obtain ⟨m, _, _, h4, h3⟩ := h
      rcases List.mem_cons.1 hv with e | e
      · subst e; exact h4.ptr
      · exact ih h3 v e
/-- A node is put on the stack, its operands are the last ones. -/
theorem StkT.node {w : World} {vs : List Value} {Ts : List Tr} {lo hi g n : Nat} {t : Tok} (h : StkT w lo hi vs Ts) (ht : t.In) (hn : n ≤ Ts.length) (h2 : n ≤ 2) (hg : hi ≤ g)
    (hb : Blk w g 131 (ncells t ((vs.drop (Ts.length - n)).getD 0 (.pointer none)) ((vs.drop (Ts.length - n)).getD 1 (.pointer none)))) :
    StkT w lo (g + 1) (vs.take (Ts.length - n) ++ [.pointer (some ⟨g, 0, none⟩)]) (Ts.take (Ts.length - n) ++ [mkT t (Ts.drop (Ts.length - n))]) := by
  obtain ⟨m, h1, h3⟩ := h.cut (Ts.length - n)
  have hl := h.len
  have hmh := h3.lt
  have hdl : (Ts.drop (Ts.length - n)).length = n := by rw [List.length_drop]; omega
  have hvl : (vs.drop (Ts.length - n)).length = n := by rw [List.length_drop]; omega
  refine h1.append (m := m) ?_
  generalize vs.drop (Ts.length - n) = us at h3 hb hvl
  generalize Ts.drop (Ts.length - n) = Us at h3 hdl
  refine ⟨g + 1, by omega, Nat.le_refl _, ?_, Nat.le_refl _⟩
  match us, Us, hvl, hdl, h3 with
  | [], [], _, _, h3 => exact ⟨ht, g, _, _, m, m, m, m, rfl, by omega, hb, by omega, by omega, by omega, by omega, rfl, rfl⟩
  | [u], [U], _, _, h3 =>
    obtain ⟨j, j1, j2, k1, k2⟩ := h3
    exact ⟨ht, g, _, _, m, j, m, m, rfl, by omega, hb, by omega, by omega, by omega, by omega, k1, rfl⟩
  | [u, x], [U, X], _, _, h3 =>
    obtain ⟨j, j1, j2, k1, i, i1, i2, k2, k3⟩ := h3
    have k3 : i ≤ hi := k3
    exact ⟨ht, g, _, _, m, j, j, i, rfl, by omega, hb, by omega, by omega, by omega, by omega, k1, k2⟩
  | _ :: _ :: _ :: _, _, hvl, _, _ => simp at hvl; omega
  | [], _ :: _, hvl, hdl, _ => simp at hvl hdl; omega
  | [_], [], hvl, hdl, _ => simp at hvl hdl; omega
  | [_], _ :: _ :: _, hvl, hdl, _ => simp at hvl hdl; omega
  | [_, _], [], hvl, hdl, _ => simp at hvl hdl; omega
  | [_, _], [_], hvl, hdl, _ => simp at hvl hdl; omega
  | [_, _], _ :: _ :: _ :: _, hvl, hdl, _ => simp at hvl hdl; omega
/-- Blocks below base and blocks that hold no tokens are as they were. -/
structure KeepK (base : Nat) (w w' : World) : Prop where
  os : w'.os = w.os
  tape : w'.tape = w.tape
  output : w'.output = w.output
  size : w.heap.size ≤ w'.heap.size
  low : ∀ k, k < w.heap.size → k < base → w'.heap[k]? = w.heap[k]?
  typed : ∀ k cs t, Blk w k t cs → t ≠ 90 → Blk w' k t cs
theorem KeepK.refl (base : Nat) (w : World) : KeepK base w w := ⟨rfl, rfl, rfl, Nat.le_refl _, fun _ _ _ => rfl, fun _ _ _ h _ => h⟩
theorem KeepK.trans {base : Nat} {a b c : World} (h : KeepK base a b) (k : KeepK base b c) : KeepK base a c :=
  ⟨k.os.trans h.os, k.tape.trans h.tape, k.output.trans h.output, Nat.le_trans h.size k.size, fun i hi hb => (k.low i (Nat.lt_of_lt_of_le hi h.size) hb).trans (h.low i hi hb), fun i cs t hb ht => k.typed i cs t (h.typed i cs t hb ht) ht⟩
theorem KeepK.of_since {base : Nat} {a b : World} (h : Since a b) : KeepK base a b := ⟨h.os, h.tape, h.output, h.size, fun i hi _ => h.block i hi, fun i cs t hb _ => hb.since h⟩
theorem KeepK.of_drew {base : Nat} {w w' : World} (h : KeepK base w.drew w') : KeepK base w w' := ⟨h.os, h.tape, h.output, h.size, h.low, h.typed⟩
theorem KeepK.of_grown {base : Nat} {a b : World} {v : Value} {xs : List Tok} (h : a.grownBy b v.ownBlock) (ho : OwnK base a v xs) : KeepK base a b :=
  ⟨h.os, h.tape, h.output, h.size, fun i hi hb => h.block i hi (fun e => by have := ho.2.lt i e.symm; omega), fun i cs t hb ht => (h.block i hb.lt (fun e => other_type ho.2 hb (fun e => ht e.symm) e.symm)).trans hb⟩
theorem KeepK.since {w w' : World} (h : KeepK w.heap.size w w') : Since w w' := ⟨h.os, h.tape, h.output, h.size, fun i hi => h.low i hi hi⟩
theorem Since.keepK {w0 w w' : World} (h : Since w0 w) (k : KeepK w0.heap.size w w') : Since w0 w' := ((KeepK.of_since (base := w0.heap.size) h).trans k).since
theorem TreeAt.keep {w w' : World} {T : Tr} {lo hi base : Nat} {v : Value} (h : TreeAt w T lo hi v) (k : KeepK base w w') : TreeAt w' T lo hi v := h.of fun j cs _ _ hb => k.typed j cs _ hb (by decide)
theorem Blk.keep {w w' : World} {base g : Nat} {t : TypeId} {cs : Array Value} (h : Blk w g t cs) (k : KeepK base w w') (ht : t ≠ 90) : Blk w' g t cs := k.typed g cs t h ht
end Go.Proofs.YtblmiocjhbpklaaDoor
