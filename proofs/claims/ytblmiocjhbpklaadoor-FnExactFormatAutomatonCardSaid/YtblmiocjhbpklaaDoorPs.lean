/- Positions in memory: as an argument, as a result; the laws' sizes, copies and comparisons of them. -/
import Derived.Test.YtblmiocjhbpklaaDoorPsM
import Derived.Test.YtblmiocjhbpklaaDoorK1
import Derived.Test.YtblmiocjhbpklaaDoorOpenI
import Derived.Lib.SmallJoins
import Derived.Deep.Slices
namespace Go.Proofs.YtblmiocjhbpklaaDoor
set_option maxRecDepth 100000
open Go.ChangeShapes Go.WideShapes Go.ChangeAt Go.RowKit Go.Joins Go.Deep
set_option linter.unusedVariables false
set_option linter.unusedSimpArgs false

theorem Blk.fiveP {w : World} {g : Nat} {t : TypeId} {a b c d e : Value} (h : Blk w g t #[a, b, c, d, e]) :
    (w.cell? ⟨g, 0, none⟩ = some a ∧ w.cell? ⟨g, 1, none⟩ = some b ∧ w.cell? ⟨g, 2, none⟩ = some c ∧ w.cell? ⟨g, 3, none⟩ = some d ∧ w.cell? ⟨g, 4, none⟩ = some e) ∧
    (w.frozen? ⟨g, 0, none⟩ = false ∧ w.frozen? ⟨g, 1, none⟩ = false ∧ w.frozen? ⟨g, 2, none⟩ = false ∧ w.frozen? ⟨g, 3, none⟩ = false ∧ w.frozen? ⟨g, 4, none⟩ = false) :=
  ⟨⟨h.cell 0, h.cell 1, h.cell 2, h.cell 3, h.cell 4⟩, h.frozen 0, h.frozen 1, h.frozen 2, h.frozen 3, h.frozen 4⟩
/-- v reads as p. -/
def PsAt (w : World) (v : Value) (p : Psn) : Prop := ∃ a b, v = .agg #[a, .int .i64 p.fi, .int .i64 p.la, b, .bool p.nu] ∧ IntsAt w a p.ls ∧ IntsAt w b p.fo ∧ InI p.fi ∧ InI p.la
theorem PsAt.since {w w' : World} {v : Value} {p : Psn} (h : PsAt w v p) (k : Since w w') : PsAt w' v p := by
  obtain ⟨a, b, e, h1, h2, h3⟩ := h; exact ⟨a, b, e, h1.since k, h2.since k, h3⟩
/-- .. of a call's own memory, the two rows apart. -/
def OwnPs (lo : Nat) (w : World) (v : Value) (p : Psn) : Prop :=
  ∃ a b, v = .agg #[a, .int .i64 p.fi, .int .i64 p.la, b, .bool p.nu] ∧ Own lo w a p.ls ∧ Own lo w b p.fo ∧ (a.ownBlock = none ∨ a.ownBlock ≠ b.ownBlock) ∧ InI p.fi ∧ InI p.la
theorem OwnPs.at {lo : Nat} {w : World} {v : Value} {p : Psn} (h : OwnPs lo w v p) : PsAt w v p := by
  obtain ⟨a, b, e, h1, h2, _, h3⟩ := h; exact ⟨a, b, e, h1.at, h2.at, h3⟩
theorem OwnPs.since {lo : Nat} {w w' : World} {v : Value} {p : Psn} (h : OwnPs lo w v p) (k : Since w w') : OwnPs lo w' v p := by
  obtain ⟨a, b, e, h1, h2, h3⟩ := h; exact ⟨a, b, e, h1.since k, h2.since k, h3⟩
theorem OwnPs.mono {lo lo' : Nat} {w : World} {v : Value} {p : Psn} (h : OwnPs lo w v p) (hb : lo' ≤ lo) : OwnPs lo' w v p := by
  obtain ⟨a, b, e, h1, h2, h3⟩ := h; exact ⟨a, b, e, h1.mono hb, h2.mono hb, h3⟩
theorem OwnPs.far {lo : Nat} {w : World} {v : Value} {p : Psn} (h : OwnPs lo w v p) {q : Addr} (hq : q.block < lo) (u : Value) : OwnPs lo (w.setCell q u) v p := by
  obtain ⟨a, b, e, h1, h2, h3⟩ := h; exact ⟨a, b, e, h1.far hq u, h2.far hq u, h3⟩
def PsOut (w : World) (p : Psn) (e : Ending) (w' : World) : Prop := ∃ v, e = .returned v ∧ OwnPs w.heap.size w' v p ∧ Since w w'
/-- Whether positions are within the laws' size. -/
def szP (p : Psn) (left : Int) : Int := if left - (p.ls.length : Int) < 0 then -1 else szLeft p.fo.length (left - (p.ls.length : Int))
theorem Psn.eq_iff (p q : Psn) : p = q ↔ p.ls = q.ls ∧ p.fi = q.fi ∧ p.la = q.la ∧ p.fo = q.fo ∧ p.nu = q.nu := by
  cases p; cases q; simp
theorem psOut_mk {w w' : World} {a b : Value} {p : Psn} (h1 : Own w.heap.size w' a p.ls) (h2 : Own w.heap.size w' b p.fo) (h3 : a.ownBlock = none ∨ a.ownBlock ≠ b.ownBlock) (i1 : InI p.fi) (i2 : InI p.la) (hs : Since w w') :
    PsOut w p (.returned (.agg #[a, .int .i64 p.fi, .int .i64 p.la, b, .bool p.nu])) w' := ⟨_, rfl, ⟨_, _, rfl, h1, h2, h3, i1, i2⟩, hs⟩
/-- A row of a call's own, made before the other. -/
theorem own_before {lo : Nat} {w w' : World} {a b : Value} {xs ys : List Int} (h : Own lo w a xs) (k : Own w.heap.size w' b ys) : a.ownBlock = none ∨ a.ownBlock ≠ b.ownBlock := by
  cases e : a.ownBlock with
  | none => exact .inl rfl
  | some g =>
    right
    intro e2
    have h1 := h.2.lt g e
    have h2 := k.2.lt g e2.symm
    omega
end Go.Proofs.YtblmiocjhbpklaaDoor
