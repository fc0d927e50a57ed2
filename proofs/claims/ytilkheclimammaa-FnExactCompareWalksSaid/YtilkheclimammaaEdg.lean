/- Edges as plain data: four ints each; how a list of them lies in cells. -/
import Derived.Test.YtilkheclimammaaInts
namespace Go.Proofs.Ytilkheclimammaa
set_option maxRecDepth 100000
open Go.ChangeShapes Go.WideShapes Go.ChangeAt Go.RowKit

structure Edg where
  id : Int
  fr : Int
  to : Int
  lb : Int
theorem Edg.ext4 {a b : Edg} (h1 : a.id = b.id) (h2 : a.fr = b.fr) (h3 : a.to = b.to) (h4 : a.lb = b.lb) : a = b := by
  cases a; cases b; simp_all
theorem Edg.eq_iff (a b : Edg) : a = b ↔ (a.id = b.id ∧ a.fr = b.fr ∧ a.to = b.to ∧ a.lb = b.lb) :=
  ⟨fun h => by subst h; exact ⟨rfl, rfl, rfl, rfl⟩, fun h => Edg.ext4 h.1 h.2.1 h.2.2.1 h.2.2.2⟩
instance : DecidableEq Edg := fun a b => decidable_of_iff _ (Edg.eq_iff a b).symm
def Edg.cs (e : Edg) : List Value := [.int .i64 e.id, .int .i64 e.fr, .int .i64 e.to, .int .i64 e.lb]
/-- The value of an edge. -/
abbrev ev (e : Edg) : Value := .agg #[.int .i64 e.id, .int .i64 e.fr, .int .i64 e.to, .int .i64 e.lb]
def Edg.In (e : Edg) : Prop := InI e.id ∧ InI e.fr ∧ InI e.to ∧ InI e.lb
def zeroE : Edg := ⟨0, 0, 0, 0⟩
theorem zeroE_in : zeroE.In := by unfold Edg.In InI zeroE; simp
def ecells (xs : List Edg) : List Value := xs.flatMap Edg.cs
theorem ecells_nil : ecells [] = [] := rfl
theorem ecells_cons (x : Edg) (xs : List Edg) : ecells (x :: xs) = x.cs ++ ecells xs := rfl
theorem ecells_append (xs ys : List Edg) : ecells (xs ++ ys) = ecells xs ++ ecells ys := by simp [ecells]
theorem ecells_length (xs : List Edg) : (ecells xs).length = xs.length * 4 := by
  induction xs with
  | nil => rfl
  | cons x xs ih => rw [ecells_cons, List.length_append, ih, List.length_cons]; simp [Edg.cs]; omega
theorem ecells_take (xs : List Edg) (k : Nat) : (ecells xs).take (k * 4) = ecells (xs.take k) := by
  induction xs generalizing k with
  | nil => simp [ecells]
  | cons x xs ih =>
    cases k with
    | zero => simp [ecells]
    | succ k =>
      rw [List.take_succ_cons, ecells_cons, ecells_cons, ← ih k, List.take_append, List.take_of_length_le (by simp [Edg.cs]; omega)]
      rw [show (k + 1) * 4 - x.cs.length = k * 4 from by simp [Edg.cs]; omega]
theorem ecells_drop (xs : List Edg) (k : Nat) : (ecells xs).drop (k * 4) = ecells (xs.drop k) := by
  induction xs generalizing k with
  | nil => simp [ecells]
  | cons x xs ih =>
    cases k with
    | zero => simp [ecells]
    | succ k =>
      rw [List.drop_succ_cons, ecells_cons, ← ih k, List.drop_append, List.drop_of_length_le (by simp [Edg.cs]; omega)]
      rw [show (k + 1) * 4 - x.cs.length = k * 4 from by simp [Edg.cs]; omega, List.nil_append]
theorem ecells_at (xs : List Edg) (i j : Nat) (h : i < xs.length) (hj : j < 4) : (ecells xs)[i * 4 + j]? = (xs[i]).cs[j]? := by
  rw [← List.getElem?_drop, ecells_drop, List.drop_eq_getElem_cons h, ecells_cons, List.getElem?_append_left (by simp [Edg.cs]; omega)]
theorem ecells_set (xs : List Edg) (i : Nat) (h : i < xs.length) (e : Edg) :
    ((((ecells xs).set (i * 4) (.int .i64 e.id)).set (i * 4 + 1) (.int .i64 e.fr)).set (i * 4 + 2) (.int .i64 e.to)).set (i * 4 + 3) (.int .i64 e.lb) = ecells (xs.set i e) := by
  have hx : xs = xs.take i ++ xs[i] :: xs.drop (i + 1) := by rw [← List.drop_eq_getElem_cons h, List.take_append_drop]
  have hl : (ecells (xs.take i)).length = i * 4 := by rw [ecells_length, List.length_take, Nat.min_eq_left (Nat.le_of_lt h)]
  have e1 : ecells xs = ecells (xs.take i) ++ ((xs[i]).cs ++ ecells (xs.drop (i + 1))) := by
    rw [← ecells_cons, ← ecells_append, ← hx]
  have e2 : ecells (xs.set i e) = ecells (xs.take i) ++ (e.cs ++ ecells (xs.drop (i + 1))) := by
    rw [← ecells_cons, ← ecells_append, List.set_eq_take_append_cons_drop, if_pos h]
  rw [e1, e2]
  rw [List.set_append_right _ _ (by omega), hl, Nat.sub_self]
  rw [List.set_append_right _ _ (by omega), hl, show i * 4 + 1 - i * 4 = 1 from by omega]
  rw [List.set_append_right _ _ (by omega), hl, show i * 4 + 2 - i * 4 = 2 from by omega]
  rw [List.set_append_right _ _ (by omega), hl, show i * 4 + 3 - i * 4 = 3 from by omega]
  rfl
theorem ecells_one (e : Edg) : ecells [e] = e.cs := by simp [ecells]
theorem ecells_snoc (xs : List Edg) (e : Edg) : ecells (xs ++ [e]) = ecells xs ++ e.cs := by rw [ecells_append, ecells_one]
theorem ecells_oneCell (xs : List Edg) : ∀ u ∈ ecells xs, u.oneCell' = true := by
  intro u hu
  simp [ecells, Edg.cs] at hu
  obtain ⟨e, _, h⟩ := hu
  rcases h with h | h | h | h <;> subst h <;> rfl
theorem ecells_zero (n : Nat) : ecells (List.replicate n zeroE) = List.replicate (n * 4) (.int .i64 0) := by
  induction n with
  | zero => rfl
  | succ n ih => rw [List.replicate_succ, ecells_cons, ih, show (n + 1) * 4 = 4 + n * 4 from by omega, ← List.replicate_append_replicate]; rfl

/-- v is a slice of edges that reads as xs. -/
def EdgesAt (w : World) (v : Value) (xs : List Edg) : Prop :=
  (∀ x ∈ xs, x.In) ∧ ((xs = [] ∧ ∃ ao cap, v = .slice ao 0 cap) ∨ ∃ b off cap, v = .slice (some ⟨b, off, none⟩) xs.length cap ∧ b < w.heap.size ∧
    ∀ i (h : i < xs.length), w.cell? ⟨b, off + i * 4, none⟩ = some (.int .i64 xs[i].id) ∧ w.cell? ⟨b, off + i * 4 + 1, none⟩ = some (.int .i64 xs[i].fr) ∧
      w.cell? ⟨b, off + i * 4 + 2, none⟩ = some (.int .i64 xs[i].to) ∧ w.cell? ⟨b, off + i * 4 + 3, none⟩ = some (.int .i64 xs[i].lb))
theorem EdgesAt.since {w w' : World} {v : Value} {xs : List Edg} (h : EdgesAt w v xs) (k : Since w w') : EdgesAt w' v xs := by
  obtain ⟨h1, h2 | ⟨b, off, cap, h2, h3, h4⟩⟩ := h
  · exact ⟨h1, .inl h2⟩
  · refine ⟨h1, .inr ⟨b, off, cap, h2, Nat.lt_of_lt_of_le h3 k.size, fun i hi => ?_⟩⟩
    have hc : ∀ o, w'.cell? ⟨b, o, none⟩ = w.cell? ⟨b, o, none⟩ := fun o => Below.cell k (p := ⟨b, o, none⟩) h3
    rw [hc, hc, hc, hc]; exact h4 i hi
theorem EdgesAt.grown {w w' : World} {v : Value} {xs : List Edg} {row : Option Nat} (h : EdgesAt w v xs) (k : w.grownBy w' row) (hr : v.ownBlock = none ∨ v.ownBlock ≠ row) : EdgesAt w' v xs := by
  obtain ⟨h1, h2 | ⟨b, off, cap, h2, h3, h4⟩⟩ := h
  · exact ⟨h1, .inl h2⟩
  · refine ⟨h1, .inr ⟨b, off, cap, h2, Nat.lt_of_lt_of_le h3 k.size, fun i hi => ?_⟩⟩
    have hb : w'.heap[b]? = w.heap[b]? := k.block b h3 (fun e => by subst h2; rcases hr with hr | hr <;> simp [Value.ownBlock] at hr; exact hr e)
    have hc : ∀ o, w'.cell? ⟨b, o, none⟩ = w.cell? ⟨b, o, none⟩ := fun o => World.cell?_of_block (w := w) (w' := w') (a := ⟨b, o, none⟩) hb
    rw [hc, hc, hc, hc]; exact h4 i hi
theorem EdgesAt.len {w : World} {v : Value} {xs : List Edg} (h : EdgesAt w v xs) : ∃ ao cap, v = .slice ao xs.length cap := by
  obtain ⟨_, ⟨rfl, ao, cap, rfl⟩ | ⟨b, off, cap, rfl, _⟩⟩ := h
  · exact ⟨_, _, rfl⟩
  · exact ⟨_, _, rfl⟩
theorem EdgesAt.nil (w : World) (ao : Option Addr) (cap : Nat) : EdgesAt w (.slice ao 0 cap) [] := ⟨fun x hx => by simp at hx, .inl ⟨rfl, _, _, rfl⟩⟩
/-- v is a slice of the call's own (of a block from base on) that reads as xs. -/
def OwnE (base : Nat) (w : World) (v : Value) (xs : List Edg) : Prop :=
  (∀ x ∈ xs, x.In) ∧ w.ownsRow base 108 4 v xs.length (ecells xs)
theorem ownE_cells {w : World} {base g n cap : Nat} {xs : List Edg} (h : w.ownsRow base 108 4 (.slice (some ⟨g, 0, none⟩) n cap) n (ecells xs)) (hn : n = xs.length) (i : Nat) (hi : i < xs.length) :
    w.cell? ⟨g, i * 4, none⟩ = some (.int .i64 xs[i].id) ∧ w.cell? ⟨g, i * 4 + 1, none⟩ = some (.int .i64 xs[i].fr) ∧
      w.cell? ⟨g, i * 4 + 2, none⟩ = some (.int .i64 xs[i].to) ∧ w.cell? ⟨g, i * 4 + 3, none⟩ = some (.int .i64 xs[i].lb) := by
  subst hn
  have h0 := ecells_at xs i 0 hi (by omega)
  have h1 := ecells_at xs i 1 hi (by omega)
  have h2 := ecells_at xs i 2 hi (by omega)
  have h3 := ecells_at xs i 3 hi (by omega)
  rw [Nat.add_zero] at h0
  exact ⟨(h.cellAt _ (by omega)).trans h0, (h.cellAt _ (by omega)).trans h1, (h.cellAt _ (by omega)).trans h2, (h.cellAt _ (by omega)).trans h3⟩
theorem OwnE.at {base : Nat} {w : World} {v : Value} {xs : List Edg} (h : OwnE base w v xs) : EdgesAt w v xs := by
  obtain ⟨h1, h2⟩ := h
  have h2' := h2
  refine ⟨h1, ?_⟩
  rcases h2.2 with ⟨hv, hn⟩ | ⟨g, cap, cur, rfl, hb, hg, _⟩
  · exact .inl ⟨List.eq_nil_of_length_eq_zero hn, none, 0, hv⟩
  · refine .inr ⟨g, 0, cap, rfl, heap_lt hg, fun i hi => ?_⟩
    rw [Nat.zero_add]
    exact ownE_cells h2' rfl i hi
theorem OwnE.mono {base base' : Nat} {w : World} {v : Value} {xs : List Edg} (h : OwnE base w v xs) (hb : base' ≤ base) : OwnE base' w v xs := by
  obtain ⟨h1, h2, h3⟩ := h
  refine ⟨h1, h2, ?_⟩
  rcases h3 with h3 | ⟨g, cap, cur, a, b, c⟩
  · exact .inl h3
  · exact .inr ⟨g, cap, cur, a, Nat.le_trans hb b, c⟩
theorem OwnE.since {base : Nat} {w w' : World} {v : Value} {xs : List Edg} (h : OwnE base w v xs) (k : Since w w') : OwnE base w' v xs := by
  obtain ⟨h1, h2, h3⟩ := h
  refine ⟨h1, h2, ?_⟩
  rcases h3 with h3 | ⟨g, cap, cur, a, b, c, d⟩
  · exact .inl h3
  · exact .inr ⟨g, cap, cur, a, b, (k.block g (heap_lt c)).trans c, d⟩
theorem OwnE.grown {base : Nat} {w w' : World} {v : Value} {xs : List Edg} {row : Option Nat} (h : OwnE base w v xs) (k : w.grownBy w' row) (hr : v.ownBlock = none ∨ v.ownBlock ≠ row) : OwnE base w' v xs :=
  ⟨h.1, h.2.kept k hr⟩
theorem OwnE.lt {base : Nat} {w : World} {v : Value} {xs : List Edg} (h : OwnE base w v xs) : ∀ k, v.ownBlock = some k → base ≤ k ∧ k < w.heap.size := h.2.lt
theorem info_edge : (Try.prog.info? 108).map (fun i => (i.zero, i.size, i.bytes)) = some (some (ev zeroE), 4, 32) := by kernel_rfl
theorem info_intE : (Try.prog.info? 3).map (fun i => (i.zero, i.size, i.bytes)) = some (some (.int .i64 0), 1, 8) := by kernel_rfl
theorem made_edges (n : Nat) : (madeCells (ev zeroE).cells (n * 4)).toList = ecells (List.replicate n zeroE) := by
  rw [ecells_zero]
  apply List.ext_getElem
  · simp [madeCells]
  · intro j h1 h2
    have hj : j % 4 = 0 ∨ j % 4 = 1 ∨ j % 4 = 2 ∨ j % 4 = 3 := by omega
    have e : (ev zeroE).cells = #[.int .i64 0, .int .i64 0, .int .i64 0, .int .i64 0] := rfl
    simp only [madeCells, e, Array.toList_map, List.getElem_map, List.getElem_replicate]
    rcases hj with h | h | h | h <;> simp [h]
end Go.Proofs.Ytilkheclimammaa
