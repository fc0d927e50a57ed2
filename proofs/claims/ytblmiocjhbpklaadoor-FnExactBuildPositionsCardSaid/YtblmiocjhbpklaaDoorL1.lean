/- Lrv, Rvx, Nul, DrS0: small words and contracts that the other texts use. -/
import Derived.Test.YtblmiocjhbpklaaDoorSpl
import Derived.Test.YtblmiocjhbpklaaDoorL0
/- ReverseExpr, the model's and the program's. -/
namespace Go.Proofs.YtblmiocjhbpklaaDoor
set_option maxRecDepth 100000
open Go.ChangeShapes Go.WideShapes Go.ChangeAt Go.RowKit
set_option linter.unusedVariables false
set_option linter.unusedSimpArgs false

theorem toks_blk {w : World} {L : Nat} {t : Tok} (h : Blk w L 90 #[.int .i64 t.kd, .int .i64 t.lr, .int .i64 t.lo, .int .i64 t.hi]) (ht : t.In) : ToksAt w (.slice (some ⟨L, 0, none⟩) 1 1) [t] := by
  refine ⟨fun x hx => by simp at hx; subst hx; exact ht, .inr ⟨L, 0, 1, rfl, h.lt, fun i hi => ?_⟩⟩
  obtain rfl : i = 0 := by simp at hi; omega
  obtain ⟨a, b, c, d, _⟩ := h.four
  exact ⟨a, b, c, d⟩
theorem post_pos {T : Tr} (h : T.ok) : 0 < T.post.length := by
  rw [post_len]
  cases T with
  | nil => exact h.elim
  | node t l r => simp [Tr.len]
end Go.Proofs.YtblmiocjhbpklaaDoor

/- ReverseExpr, the model's and the program's. -/
namespace Go.Proofs.YtblmiocjhbpklaaDoor
set_option maxRecDepth 100000
open Go.ChangeShapes Go.WideShapes Go.ChangeAt Go.RowKit
set_option linter.unusedVariables false
set_option linter.unusedSimpArgs false

theorem xbOut_mk {w w' : World} {b : Value} {xs : List Tok} {c : Bool} (h : OwnK w.heap.size w' b xs) (hs : Since w w') : XBOut w xs c (.returned (.tuple #[.agg #[b], .bool c])) w' := ⟨_, rfl, OwnX.mk h, hs⟩
theorem xbOut_nil {w w' : World} (hs : Since w w') : XBOut w [] false (.returned (.tuple #[.agg #[.slice none 0 0], .bool false])) w' :=
  xbOut_mk ⟨fun x hx => by simp at hx, World.ownsRow_nil _ _ _ _⟩ hs
theorem xbOut_box {w w2 : World} {b : Value} {xs : List Tok} {c : Bool} {X i : Nat} {t : TypeId} {cs : Array Value} (h : OwnK w.heap.size w2 b xs) (hs : Since w w2) (hb : Blk w2 X t cs) (ht : t ≠ 90) (hX : w.heap.size ≤ X) (u : Value) : XBOut w xs c (.returned (.tuple #[.agg #[b], .bool c])) (w2.setCell ⟨X, i, none⟩ u) :=
  xbOut_mk (h.farT hb ht i u) (hs.setCell hX u)
end Go.Proofs.YtblmiocjhbpklaaDoor

/- Nullable: the model's recursion over a slice, the program's over a tree. -/
namespace Go.Proofs.YtblmiocjhbpklaaDoor
set_option maxRecDepth 100000
open Go.ChangeShapes Go.WideShapes Go.ChangeAt Go.RowKit
set_option linter.unusedVariables false
set_option linter.unusedSimpArgs false

/-- What a function answers that gives a truth value. -/
def BlOut (w : World) (b : Bool) (e : Ending) (w' : World) : Prop := e = .returned (.bool b) ∧ Since w w'
theorem opN_of (k a b c : Int) : opN ⟨k, a, b, c⟩ = if k = 4 ∨ k = 5 then 2 else if k = 6 ∨ k = 7 then 1 else 0 := rfl
theorem last_post (t : Tok) (l r : Tr) : ∃ h, (Tr.node t l r).post[l.post.length + r.post.length]'h = t := by
  have hxq : l.post.length + r.post.length < (Tr.node t l r).post.length := by simp [Tr.post]
  refine ⟨hxq, ?_⟩
  have h1 : (Tr.node t l r).post[l.post.length + r.post.length]? = some t := by
    rw [show (Tr.node t l r).post = (l.post ++ r.post) ++ [t] from rfl, show l.post.length + r.post.length = (l.post ++ r.post).length from by rw [List.length_append], List.getElem?_append_right (Nat.le_refl _), Nat.sub_self]
    rfl
  rw [List.getElem?_eq_getElem hxq] at h1
  exact Option.some.inj h1
end Go.Proofs.YtblmiocjhbpklaaDoor

/- Derivatives of trees, the model's: leaves and stars. -/
namespace Go.Proofs.YtblmiocjhbpklaaDoor
set_option maxRecDepth 100000
open Go.ChangeShapes Go.WideShapes Go.ChangeAt Go.RowKit
set_option linter.unusedVariables false
set_option linter.unusedSimpArgs false

theorem derT_400 (c : Int) {T : Tr} (h : T.ok) (hl : T.len ≤ 400) : (derT c T).length ≤ 160000 := Nat.le_trans (derT_len c h) (Nat.le_trans (Nat.mul_le_mul hl hl) (by decide))
end Go.Proofs.YtblmiocjhbpklaaDoor
