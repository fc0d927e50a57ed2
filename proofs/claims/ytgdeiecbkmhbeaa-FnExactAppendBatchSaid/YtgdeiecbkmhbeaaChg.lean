/- Changes as plain data: a truth value and an edge; how lists of them lie in cells; batches. -/
import Derived.Test.YtgdeiecbkmhbeaaK1
namespace Go.Proofs.Ytgdeiecbkmhbeaa
set_option maxRecDepth 100000
open Go.ChangeShapes Go.WideShapes Go.ChangeAt Go.RowKit
set_option linter.unusedVariables false

structure Chg where
  ins : Bool
  ed : Edg
theorem Chg.eq_iff (a b : Chg) : a = b ↔ (a.ins = b.ins ∧ a.ed = b.ed) :=
  ⟨fun h => by subst h; exact ⟨rfl, rfl⟩, fun h => by cases a; cases b; simp_all⟩
instance : DecidableEq Chg := fun a b => decidable_of_iff _ (Chg.eq_iff a b).symm
abbrev cv (c : Chg) : Value := .agg #[.bool c.ins, .int .i64 c.ed.id, .int .i64 c.ed.fr, .int .i64 c.ed.to, .int .i64 c.ed.lb]
def Chg.cs (c : Chg) : List Value := [.bool c.ins, .int .i64 c.ed.id, .int .i64 c.ed.fr, .int .i64 c.ed.to, .int .i64 c.ed.lb]
def zeroC : Chg := ⟨false, ⟨0, 0, 0, 0⟩⟩
def ccells (xs : List Chg) : List Value := xs.flatMap Chg.cs
theorem ccs_len (t : Chg) : t.cs.length = 5 := rfl
theorem ccells_length (xs : List Chg) : (ccells xs).length = xs.length * 5 := fcells_length ccs_len xs
theorem ccells_append (xs ys : List Chg) : ccells (xs ++ ys) = ccells xs ++ ccells ys := by simp [ccells]
theorem ccells_one (c : Chg) : ccells [c] = c.cs := by simp [ccells]
theorem ccells_oneCell (xs : List Chg) : ∀ u ∈ ccells xs, u.oneCell' = true := by
  intro u hu
  simp [ccells, Chg.cs] at hu
  obtain ⟨e, _, h⟩ := hu
  rcases h with h | h | h | h | h <;> subst h <;> rfl
theorem ccells_set (xs : List Chg) (i : Nat) (h : i < xs.length) (e : Chg) :
    (((((ccells xs).set (i * 5) (.bool e.ins)).set (i * 5 + 1) (.int .i64 e.ed.id)).set (i * 5 + 2) (.int .i64 e.ed.fr)).set (i * 5 + 3) (.int .i64 e.ed.to)).set (i * 5 + 4) (.int .i64 e.ed.lb) = ccells (xs.set i e) := by
  rw [mid_set5 _ _ (by rw [ccells_length]; omega), show i * 5 + 5 = (i + 1) * 5 from by omega]
  exact (fcells_set ccs_len xs i h e).symm

/-- v is a slice of changes that reads as xs. -/
def ChgsAt (w : World) (v : Value) (xs : List Chg) : Prop :=
  (∀ x ∈ xs, x.ed.In) ∧ ∃ ao cap, v = .slice ao xs.length cap ∧ Hid (∀ i (h : i < xs.length), ∃ b off, ao = some ⟨b, off, none⟩ ∧ b < w.heap.size ∧
    w.cell? ⟨b, off + i * 5, none⟩ = some (.bool xs[i].ins) ∧ w.cell? ⟨b, off + i * 5 + 1, none⟩ = some (.int .i64 xs[i].ed.id) ∧ w.cell? ⟨b, off + i * 5 + 2, none⟩ = some (.int .i64 xs[i].ed.fr) ∧
    w.cell? ⟨b, off + i * 5 + 3, none⟩ = some (.int .i64 xs[i].ed.to) ∧ w.cell? ⟨b, off + i * 5 + 4, none⟩ = some (.int .i64 xs[i].ed.lb))
theorem ChgsAt.since {w w' : World} {v : Value} {xs : List Chg} (h : ChgsAt w v xs) (k : Since w w') : ChgsAt w' v xs := by
  obtain ⟨hin, ao, cap, rfl, hc⟩ := h
  refine ⟨hin, ao, cap, rfl, fun i hi => ?_⟩
  obtain ⟨b, off, e, hb, c⟩ := hc.out i hi
  refine ⟨b, off, e, Nat.lt_of_lt_of_le hb k.size, ?_⟩
  have hx : ∀ o, w'.cell? ⟨b, o, none⟩ = w.cell? ⟨b, o, none⟩ := fun o => Below.cell k (p := ⟨b, o, none⟩) hb
  rw [hx, hx, hx, hx, hx]; exact c
theorem ChgsAt.grown {w w' : World} {v : Value} {xs : List Chg} {row : Option Nat} (h : ChgsAt w v xs) (k : w.grownBy w' row) (hr : v.ownBlock = none ∨ v.ownBlock ≠ row) : ChgsAt w' v xs := by
  obtain ⟨hin, ao, cap, rfl, hc⟩ := h
  refine ⟨hin, ao, cap, rfl, fun i hi => ?_⟩
  obtain ⟨b, off, e, hb, c⟩ := hc.out i hi
  have hk : w'.heap[b]? = w.heap[b]? := k.block b hb (fun e2 => by subst e; rcases hr with hr | hr <;> simp [Value.ownBlock] at hr; exact hr e2)
  have hx : ∀ o, w'.cell? ⟨b, o, none⟩ = w.cell? ⟨b, o, none⟩ := fun o => World.cell?_of_block (w := w) (w' := w') (a := ⟨b, o, none⟩) hk
  refine ⟨b, off, e, Nat.lt_of_lt_of_le hb k.size, ?_⟩
  rw [hx, hx, hx, hx, hx]; exact c
theorem ChgsAt.nil (w : World) (ao : Option Addr) (cap : Nat) : ChgsAt w (.slice ao 0 cap) [] := ⟨fun x hx => by simp at hx, ao, cap, rfl, fun i hi => by simp at hi⟩
theorem ChgsAt.inAt {w : World} {v : Value} {xs : List Chg} (h : ChgsAt w v xs) (i : Nat) (hi : i < xs.length) : xs[i].ed.In := h.1 _ (List.getElem_mem hi)
/-- .. of the call's own (of a block from base on). -/
def OwnC (base : Nat) (w : World) (v : Value) (xs : List Chg) : Prop := (∀ x ∈ xs, x.ed.In) ∧ w.ownsRow base 98 5 v xs.length (ccells xs)
theorem ownC_cells {w : World} {base g n cap : Nat} {xs : List Chg} (h : w.ownsRow base 98 5 (.slice (some ⟨g, 0, none⟩) n cap) n (ccells xs)) (hn : n = xs.length) (i : Nat) (hi : i < xs.length) :
    w.cell? ⟨g, i * 5, none⟩ = some (.bool xs[i].ins) ∧ w.cell? ⟨g, i * 5 + 1, none⟩ = some (.int .i64 xs[i].ed.id) ∧ w.cell? ⟨g, i * 5 + 2, none⟩ = some (.int .i64 xs[i].ed.fr) ∧
      w.cell? ⟨g, i * 5 + 3, none⟩ = some (.int .i64 xs[i].ed.to) ∧ w.cell? ⟨g, i * 5 + 4, none⟩ = some (.int .i64 xs[i].ed.lb) := by
  subst hn
  have h0 := fcells_at ccs_len xs i 0 hi (by omega)
  have h1 := fcells_at ccs_len xs i 1 hi (by omega)
  have h2 := fcells_at ccs_len xs i 2 hi (by omega)
  have h3 := fcells_at ccs_len xs i 3 hi (by omega)
  have h4 := fcells_at ccs_len xs i 4 hi (by omega)
  rw [Nat.add_zero] at h0
  exact ⟨(h.cellAt _ (by omega)).trans h0, (h.cellAt _ (by omega)).trans h1, (h.cellAt _ (by omega)).trans h2, (h.cellAt _ (by omega)).trans h3, (h.cellAt _ (by omega)).trans h4⟩
theorem OwnC.at {base : Nat} {w : World} {v : Value} {xs : List Chg} (h : OwnC base w v xs) : ChgsAt w v xs := by
  have h2 := h.2
  rcases h.2.2 with ⟨hv, hn⟩ | ⟨g, cap, cur, rfl, hb, hg, _⟩
  · exact ⟨h.1, none, 0, by rw [hv, hn], fun i hi => by omega⟩
  · refine ⟨h.1, _, cap, rfl, fun i hi => ⟨g, 0, rfl, heap_lt hg, ?_⟩⟩
    rw [Nat.zero_add]
    exact ownC_cells h2 rfl i hi
theorem OwnC.mono {base base' : Nat} {w : World} {v : Value} {xs : List Chg} (h : OwnC base w v xs) (hb : base' ≤ base) : OwnC base' w v xs := ⟨h.1, row_mono h.2 hb⟩
theorem OwnC.since {base : Nat} {w w' : World} {v : Value} {xs : List Chg} (h : OwnC base w v xs) (k : Since w w') : OwnC base w' v xs := ⟨h.1, row_since h.2 k⟩
theorem OwnC.within {lo hi a b base : Nat} {w w' : World} {v : Value} {xs : List Chg} (h : OwnC base w v xs) (hv : InR a b v) (k : Within lo hi w w') (hd : b ≤ lo ∨ hi ≤ a) : OwnC base w' v xs := ⟨h.1, ownsRow_within h.2 hv k hd⟩
theorem OwnC.inR {base : Nat} {w : World} {v : Value} {xs : List Chg} (h : OwnC base w v xs) : InR base w.heap.size v := fun k hk => h.2.lt k hk
theorem OwnC.len {base : Nat} {w : World} {v : Value} {xs : List Chg} (h : OwnC base w v xs) : ∃ ao cap, v = .slice ao xs.length cap := by
  obtain ⟨_, ao, cap, e, _⟩ := h.at; exact ⟨ao, cap, e⟩
theorem ChgsAt.len {w : World} {v : Value} {xs : List Chg} (h : ChgsAt w v xs) : ∃ ao cap, v = .slice ao xs.length cap := by
  obtain ⟨_, ao, cap, e, _⟩ := h; exact ⟨ao, cap, e⟩
theorem OwnC.far {base : Nat} {w : World} {v : Value} {xs : List Chg} (h : OwnC base w v xs) {p : Addr} (hp : p.block < base) (u : Value) : OwnC base (w.setCell p u) v xs := ⟨h.1, ownsRow_setCell_below h.2 hp u⟩
theorem OwnC.row {base n : Nat} {w : World} {v : Value} {xs : List Chg} (h : OwnC base w v xs) (hn : n = xs.length) : w.ownsRow base 98 5 v n (ccells xs) := by subst hn; exact h.2
theorem OwnC.ofRow {base n : Nat} {w : World} {v : Value} {xs : List Chg} (hi : ∀ x ∈ xs, x.ed.In) (h : w.ownsRow base 98 5 v n (ccells xs)) (hn : n = xs.length) : OwnC base w v xs := by subst hn; exact ⟨hi, h⟩
theorem row_setC {w : World} {base g n cap : Nat} {xs : List Chg} (h : w.ownsRow base 98 5 (.slice (some ⟨g, 0, none⟩) n cap) n (ccells xs)) (k : Nat) (hk : k < xs.length) (e : Chg) :
    (((((w.setCell ⟨g, k * 5, none⟩ (.bool e.ins)).setCell ⟨g, k * 5 + 1, none⟩ (.int .i64 e.ed.id)).setCell ⟨g, k * 5 + 2, none⟩ (.int .i64 e.ed.fr)).setCell ⟨g, k * 5 + 3, none⟩ (.int .i64 e.ed.to)).setCell ⟨g, k * 5 + 4, none⟩ (.int .i64 e.ed.lb)).ownsRow base 98 5 (.slice (some ⟨g, 0, none⟩) n cap) n (ccells (xs.set k e)) := by
  rw [← ccells_set xs k hk e]
  exact (((((h.stored _ _).1.stored _ _).1.stored _ _).1.stored _ _).1.stored _ _).1
theorem info_chg : (Try.prog.info? 98).map (fun i => (i.zero, i.size, i.bytes)) = some (some (cv zeroC), 5, 40) := by kernel_rfl
theorem made_chgs (n : Nat) : (madeCells (cv zeroC).cells (n * 5)).toList = ccells (List.replicate n zeroC) := by
  apply List.ext_getElem
  · rw [ccells_length]; simp [madeCells]
  · intro j h1 h2
    rw [ccells_length, List.length_replicate] at h2
    have ha := fcells_at ccs_len (List.replicate n zeroC) (j / 5) (j % 5) (by rw [List.length_replicate]; omega) (by omega)
    rw [show j / 5 * 5 + j % 5 = j from by omega] at ha
    have hj : j % 5 = 0 ∨ j % 5 = 1 ∨ j % 5 = 2 ∨ j % 5 = 3 ∨ j % 5 = 4 := by omega
    have e : (cv zeroC).cells = #[.bool false, .int .i64 0, .int .i64 0, .int .i64 0, .int .i64 0] := rfl
    have hb : (ccells (List.replicate n zeroC))[j]? = (Chg.cs zeroC)[j % 5]? := by rw [show ccells (List.replicate n zeroC) = (List.replicate n zeroC).flatMap Chg.cs from rfl, ha, List.getElem_replicate]
    rw [List.getElem?_eq_getElem (by rw [ccells_length, List.length_replicate]; omega)] at hb
    simp only [madeCells, e, Array.toList_map, List.getElem_map]
    rcases hj with h | h | h | h | h
    all_goals
      rw [h] at hb
      simp [h]
      exact (Option.some.inj hb).symm

theorem Blk.fiveC {w : World} {g : Nat} {t : TypeId} {a b c d e : Value} (h : Blk w g t #[a, b, c, d, e]) : (w.cell? ⟨g, 0, none⟩ = some a ∧ w.cell? ⟨g, 1, none⟩ = some b ∧ w.cell? ⟨g, 2, none⟩ = some c ∧ w.cell? ⟨g, 3, none⟩ = some d ∧ w.cell? ⟨g, 4, none⟩ = some e) ∧
    (w.frozen? ⟨g, 0, none⟩ = false ∧ w.frozen? ⟨g, 1, none⟩ = false ∧ w.frozen? ⟨g, 2, none⟩ = false ∧ w.frozen? ⟨g, 3, none⟩ = false ∧ w.frozen? ⟨g, 4, none⟩ = false) :=
  ⟨⟨h.cell 0, h.cell 1, h.cell 2, h.cell 3, h.cell 4⟩, h.frozen 0, h.frozen 1, h.frozen 2, h.frozen 3, h.frozen 4⟩
/-- v is a batch that reads as xs. -/
def BchAt (w : World) (v : Value) (xs : List Chg) : Prop := ∃ b, v = .agg #[b] ∧ ChgsAt w b xs
theorem BchAt.since {w w' : World} {v : Value} {xs : List Chg} (h : BchAt w v xs) (k : Since w w') : BchAt w' v xs := by
  obtain ⟨b, rfl, h1⟩ := h; exact ⟨b, rfl, h1.since k⟩
/-- v is a batch whose changes lie in a block from lo on and below hi, and reads as xs. -/
def OwnB (lo hi : Nat) (w : World) (v : Value) (xs : List Chg) : Prop := ∃ b, v = .agg #[b] ∧ OwnC lo w b xs ∧ InR lo hi b
theorem OwnB.at {lo hi : Nat} {w : World} {v : Value} {x : List Chg} (h : OwnB lo hi w v x) : BchAt w v x := by
  obtain ⟨b, rfl, h1, _⟩ := h; exact ⟨b, rfl, h1.at⟩
theorem OwnB.since {lo hi : Nat} {w w' : World} {v : Value} {x : List Chg} (h : OwnB lo hi w v x) (k : Since w w') : OwnB lo hi w' v x := by
  obtain ⟨b, rfl, h1, r1⟩ := h; exact ⟨b, rfl, h1.since k, r1⟩
theorem OwnB.within {lo hi a b : Nat} {w w' : World} {v : Value} {x : List Chg} (h : OwnB a b w v x) (k : Within lo hi w w') (hd : b ≤ lo ∨ hi ≤ a) : OwnB a b w' v x := by
  obtain ⟨y, rfl, h1, r1⟩ := h; exact ⟨y, rfl, h1.within r1 k hd, r1⟩
theorem OwnB.wider {a b a' b' : Nat} {w : World} {v : Value} {x : List Chg} (h : OwnB a b w v x) (ha : a' ≤ a) (hb : b ≤ b') : OwnB a' b' w v x := by
  obtain ⟨y, rfl, h1, r1⟩ := h; exact ⟨y, rfl, h1.mono ha, r1.mono ha hb⟩
theorem OwnB.mk {lo : Nat} {w : World} {b : Value} {xs : List Chg} (h1 : OwnC lo w b xs) : OwnB lo w.heap.size w (.agg #[b]) xs := ⟨b, rfl, h1, h1.inR⟩
/-- The answer of a function that gives a batch. -/
def BOut (w : World) (xs : List Chg) (e : Ending) (w' : World) : Prop := ∃ v, e = .returned v ∧ OwnB w.heap.size w'.heap.size w' v xs ∧ Since w w'
/-- The answer of a function that gives a list of changes. -/
def COut (w : World) (xs : List Chg) (e : Ending) (w' : World) : Prop := ∃ v, e = .returned v ∧ OwnC w.heap.size w' v xs ∧ Since w w'
/-- The answer of a function that gives a batch and a truth value. -/
def BBOut (w : World) (xs : List Chg) (b : Bool) (e : Ending) (w' : World) : Prop := ∃ v, e = .returned (.tuple #[v, .bool b]) ∧ OwnB w.heap.size w'.heap.size w' v xs ∧ Since w w'
end Go.Proofs.Ytgdeiecbkmhbeaa
