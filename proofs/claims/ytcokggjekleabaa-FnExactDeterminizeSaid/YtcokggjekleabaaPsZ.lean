/- Positions as results of a law: in a range of blocks; a box of them. -/
import Derived.Test.YtcokggjekleabaaPsE
namespace Go.Proofs.Ytcokggjekleabaa
set_option maxRecDepth 100000
open Go.ChangeShapes Go.WideShapes Go.ChangeAt Go.RowKit
set_option linter.unusedVariables false
set_option linter.unusedSimpArgs false

/-- v is positions of the call's own, the two rows in blocks from lo on and below hi. -/
def OwnPz (lo hi : Nat) (w : World) (v : Value) (p : Psn) : Prop :=
  ∃ a b, v = .agg #[a, .int .i64 p.fi, .int .i64 p.la, b, .bool p.nu] ∧ Own lo w a p.ls ∧ InR lo hi a ∧ Own lo w b p.fo ∧ InR lo hi b ∧ (a.ownBlock = none ∨ a.ownBlock ≠ b.ownBlock) ∧ InI p.fi ∧ InI p.la
section
variable {lo hi : Nat} {w w' : World} {v : Value} {p : Psn}
theorem OwnPs.z (h : OwnPs lo w v p) : OwnPz lo w.heap.size w v p := by
  obtain ⟨a, b, e, h1, h2, h3⟩ := h; exact ⟨a, b, e, h1, h1.inR, h2, h2.inR, h3⟩
theorem OwnPz.s (h : OwnPz lo hi w v p) : OwnPs lo w v p := by
  obtain ⟨a, b, e, h1, _, h2, _, h3⟩ := h; exact ⟨a, b, e, h1, h2, h3⟩
theorem OwnPz.at (h : OwnPz lo hi w v p) : PsAt w v p := h.s.at
theorem OwnPz.since (h : OwnPz lo hi w v p) (k : Since w w') : OwnPz lo hi w' v p := by
  obtain ⟨a, b, e, h1, r1, h2, r2, h3⟩ := h; exact ⟨a, b, e, h1.since k, r1, h2.since k, r2, h3⟩
theorem OwnPz.within {a b : Nat} (h : OwnPz a b w v p) (k : Within lo hi w w') (hd : b ≤ lo ∨ hi ≤ a) : OwnPz a b w' v p := by
  obtain ⟨x, y, e, h1, r1, h2, r2, h3⟩ := h; exact ⟨x, y, e, h1.within r1 k hd, r1, h2.within r2 k hd, r2, h3⟩
theorem OwnPz.far1 {B : Nat} (h : OwnPz lo hi w v p) (hB : B < lo ∨ hi ≤ B) (i : Nat) (u : Value) : OwnPz lo hi (w.setCell ⟨B, i, none⟩ u) v p := by
  have k : Within B (B + 1) w (w.setCell ⟨B, i, none⟩ u) := ⟨rfl, rfl, rfl, by simp [World.setCell], fun k _ hn => Below.heap_setCell w ⟨B, i, none⟩ u k (by show k ≠ B; omega)⟩
  exact h.within k (by omega)
theorem OwnPz.far5 {B : Nat} (h : OwnPz lo hi w v p) (hB : B < lo ∨ hi ≤ B) {i j k l m : Nat} {u u2 u3 u4 u5 : Value} :
    OwnPz lo hi (((((w.setCell ⟨B, i, none⟩ u).setCell ⟨B, j, none⟩ u2).setCell ⟨B, k, none⟩ u3).setCell ⟨B, l, none⟩ u4).setCell ⟨B, m, none⟩ u5) v p :=
  ((((h.far1 hB i u).far1 hB j u2).far1 hB k u3).far1 hB l u4).far1 hB m u5
end
def PzOut (w : World) (p : Psn) (e : Ending) (w' : World) : Prop := ∃ v, e = .returned v ∧ OwnPz w.heap.size w'.heap.size w' v p ∧ Since w w'
def PzBOut (w : World) (p : Psn) (c : Bool) (e : Ending) (w' : World) : Prop := ∃ v, e = .returned (.tuple #[v, .bool c]) ∧ OwnPz w.heap.size w'.heap.size w' v p ∧ Since w w'
theorem PsOut.z {w w' : World} {p : Psn} {e : Ending} (h : PsOut w p e w') : PzOut w p e w' := by
  obtain ⟨v, e, h1, h2⟩ := h; exact ⟨v, e, h1.z, h2⟩
/-- A box of a result. -/
def BoxP (w1 wx : World) (q : Value) (R : Psn) : Prop :=
  ∃ lo hi B ao ac bo bc, q = .pointer (some ⟨B, 0, none⟩) ∧ w1.heap.size ≤ lo ∧ w1.heap.size ≤ B ∧ hi ≤ wx.heap.size ∧ (B < lo ∨ hi ≤ B) ∧
    OwnPz lo hi wx (.agg #[.slice ao R.ls.length ac, .int .i64 R.fi, .int .i64 R.la, .slice bo R.fo.length bc, .bool R.nu]) R ∧ Blk wx B 41 #[.slice ao R.ls.length ac, .int .i64 R.fi, .int .i64 R.la, .slice bo R.fo.length bc, .bool R.nu] ∧ Since w1 wx
theorem boxP_mk {w1 wx : World} {lo hi : Nat} {ao bo : Option Addr} {ac bc : Nat} {R : Psn} (B : Nat) (hB : w1.heap.size ≤ B) (h0 : w1.heap.size ≤ lo) (h1 : hi ≤ wx.heap.size ∧ (B < lo ∨ hi ≤ B))
    (hO : OwnPz lo hi wx (.agg #[.slice ao R.ls.length ac, .int .i64 R.fi, .int .i64 R.la, .slice bo R.fo.length bc, .bool R.nu]) R) (hK : Blk wx B 41 #[.slice ao R.ls.length ac, .int .i64 R.fi, .int .i64 R.la, .slice bo R.fo.length bc, .bool R.nu]) (hS : Since w1 wx) :
    BoxP w1 wx (.pointer (some ⟨B, 0, none⟩)) R := ⟨lo, hi, B, ao, ac, bo, bc, rfl, h0, hB, h1.1, h1.2, hO, hK, hS⟩
def MarkZOut (lo hi : Nat) (w : World) (v : Value) (k : Int) (p : Psn) (e : Ending) (w' : World) : Prop :=
  e = .returned (.int .i64 (k + szOfP p)) ∧ OwnPz lo hi w' v (cntP k p) ∧ Within lo hi w w'
theorem markPosZ_any (lo hi : Nat) (v : Value) (p : Psn) (k : Int) (w : World) (h : OwnPz lo hi w v p) (hhi : hi ≤ w.heap.size) (hk0 : 0 ≤ k) (hk9 : k ≤ 1152921504) (h1 : p.ls.length ≤ 1152921504) (h2 : p.fo.length ≤ 1152921504) :
    Calls Try.prog 28 #[v, .int .i64 k] w (MarkZOut lo hi w v k p) := by
  obtain ⟨a, b, rfl, ha, ra, hb, rb, hr⟩ := h
  refine (markPositions_any lo hi _ p k w ⟨a, b, rfl, ha, hb, hr⟩ ?_ hhi hk0 hk9 h1 h2).mono ?_
  · intro a' b' x y z e
    injection e with e; injection e with e
    simp only [List.cons.injEq] at e
    obtain ⟨e1, _, _, e4, _⟩ := e
    subst e1; subst e4
    exact ⟨ra, rb⟩
  · rintro e w' ⟨he, ⟨a', b', e2, k1, k2, k3⟩, hw⟩
    refine ⟨he, ?_, hw⟩
    injection e2 with e2; injection e2 with e2
    simp only [List.cons.injEq] at e2
    obtain ⟨e3, e5, e6, e4, e7⟩ := e2
    subst e3; subst e4
    exact ⟨a, b, rfl, k1, ra, k2, rb, k3⟩
theorem szP_smallB {p : Psn} {left : Int} (h1 : left ≤ 1048576) (h : ¬ szP p left < 0) : (0 ≤ szP p left ∧ szP p left ≤ 1048576) ∧ p.ls.length ≤ 1048577 ∧ p.fo.length ≤ 1048577 := by
  unfold szP szLeft at h ⊢
  split at h
  · omega
  · rename_i k
    rw [if_neg k]
    split at h
    · omega
    · rename_i k2
      rw [if_neg k2]
      omega
theorem szPos_is (v : Value) (p : Psn) (left x : Int) (w : World) (h : PsAt w v p) (hm : p.ls.length ≤ maxLen ∧ p.fo.length ≤ maxLen) (h0 : 0 ≤ left) (h1 : left ≤ 1048576) (hx : szP p left = x) :
    Calls Try.prog 22 #[v, .int .i64 left] w fun e w' => e = .returned (.int .i64 x) ∧ Since w w' := by
  rw [← hx]; exact szPositions_any v p left w h hm.1 hm.2 h0 h1
theorem toPosZ_any (v : Value) (p : Psn) (w : World) (h : PsAt w v p) (h1 : p.ls.length ≤ 1048577) (h2 : p.fo.length ≤ 1048577) : Calls Try.prog 24 #[v] w (PzOut w p) := (toPositions_any v p w h h1 h2).mono fun _ _ h => h.z
end Go.Proofs.Ytcokggjekleabaa
