/- Reg, RowOf, EdgL, Within, Blk, GrfL, Lit, GB, Del, App, Stp: small words and contracts that the other texts use. -/
import Derived.Test.YtmaagihfjldgeaaK0
import Derived.Deep.RegionHeld3
import Derived.StillTailTactics
import Derived.Deep.DeepCutAuto
import Derived.Maps.AppendAt
import Derived.Deep.RegionLaw
/- Steps of a region that draws its order, taken one by one: what yields whatever comes first, what is not wanted, the one call. -/
namespace Go.Proofs.Ytmaagihfjldgeaa
set_option maxRecDepth 100000
open Go.ChangeShapes Go.WideShapes Go.ChangeAt Go.RowKit

section
variable {P : Program} {ops : Array Oper} {Q : Exit → Act → World → Prop} {md : Region.Mode} {S : World → Prop}
theorem take_yes (i : Nat) (d : Option Tmp) {oi : Oper} {v : Value} {fuel : Nat} {listed : Array Bool} {a : Act} {w : World} (hi : ops[i]? = some oi) (hd : oi.dst = d)
    (hs : Region.noSelect ops = true) (hf : Region.free md ops listed i = true) (hr : (Region.ready md ops listed).contains i = true)
    (hQ : ∀ c a w, Q (.panic c) (a.put d v) w → Q (.panic c) a w) (hw : Region.wanted oi (yielded ops a.tmps) = true) (hS : S w) (hy : ∀ w, S w → (execOp a.eval oi).run P w = .ok (.value v) w)
    (h : wpAnyH P md ops Q S fuel (listed.setIfInBounds i true) (a.put d v) w) : wpAnyH P md ops Q S (fuel + 1) listed a w := by
  subst hd
  exact wpAnyH_take hi hs hf hr hQ (.inl ⟨hw, hy⟩) hS h
theorem take_no (i : Nat) (d : Option Tmp) {oi : Oper} {fuel : Nat} {listed : Array Bool} {a : Act} {w : World} (hi : ops[i]? = some oi) (hd : oi.dst = d)
    (hs : Region.noSelect ops = true) (hf : Region.free md ops listed i = true) (hr : (Region.ready md ops listed).contains i = true)
    (hQ : ∀ c a w, Q (.panic c) (a.put d undef) w → Q (.panic c) a w) (hw : Region.wanted oi (yielded ops a.tmps) = false) (hS : S w)
    (h : wpAnyH P md ops Q S fuel (listed.setIfInBounds i true) (a.put d undef) w) : wpAnyH P md ops Q S (fuel + 1) listed a w := by
  subst hd
  exact wpAnyH_take hi hs hf hr hQ (.inr ⟨hw, rfl⟩) hS h
/-- One operation alone may come up. -/
theorem take_run (i : Nat) {oi : Oper} {fuel : Nat} {listed : Array Bool} {a : Act} {w : World} (hi : ops[i]? = some oi) (hr : Region.ready md ops listed = [i])
    (hw : Region.wanted oi (yielded ops a.tmps) = true)
    (h : ∀ K' : Act → World → Prop, Shut (∀ a w, S w → (S w → wpAnyH P md ops Q S fuel (listed.setIfInBounds i true) a w) → K' a w) → Oper.wp P oi a w K' Q) : wpAnyH P md ops Q S (fuel + 1) listed a w :=
  wpAnyH_ready hr (by simp) (AllReadyH.cons hi (fun K hK => by rw [if_pos hw]; exact h K hK) AllReadyH.nil)
/-- Two may come up, in either order. -/
theorem take_two (i j : Nat) {oi oj : Oper} {fuel : Nat} {listed : Array Bool} {a : Act} {w : World} (hi : ops[i]? = some oi) (hj : ops[j]? = some oj) (hr : Region.ready md ops listed = [i, j])
    (hwi : Region.wanted oi (yielded ops a.tmps) = true) (hwj : Region.wanted oj (yielded ops a.tmps) = true)
    (h1 : ∀ K' : Act → World → Prop, Shut (∀ a w, S w → (S w → wpAnyH P md ops Q S fuel (listed.setIfInBounds i true) a w) → K' a w) → Oper.wp P oi a w K' Q)
    (h2 : ∀ K' : Act → World → Prop, Shut (∀ a w, S w → (S w → wpAnyH P md ops Q S fuel (listed.setIfInBounds j true) a w) → K' a w) → Oper.wp P oj a w K' Q) : wpAnyH P md ops Q S (fuel + 1) listed a w :=
  wpAnyH_ready hr (by simp) (AllReadyH.cons hi (fun K hK => by rw [if_pos hwi]; exact h1 K hK) (AllReadyH.cons hj (fun K hK => by rw [if_pos hwj]; exact h2 K hK) AllReadyH.nil))
/-- Three may come up, in whatever order. -/
theorem take_three (i j k : Nat) {oi oj ok : Oper} {fuel : Nat} {listed : Array Bool} {a : Act} {w : World} (hi : ops[i]? = some oi) (hj : ops[j]? = some oj) (hk : ops[k]? = some ok) (hr : Region.ready md ops listed = [i, j, k])
    (hwi : Region.wanted oi (yielded ops a.tmps) = true) (hwj : Region.wanted oj (yielded ops a.tmps) = true) (hwk : Region.wanted ok (yielded ops a.tmps) = true)
    (h1 : ∀ K' : Act → World → Prop, Shut (∀ a w, S w → (S w → wpAnyH P md ops Q S fuel (listed.setIfInBounds i true) a w) → K' a w) → Oper.wp P oi a w K' Q)
    (h2 : ∀ K' : Act → World → Prop, Shut (∀ a w, S w → (S w → wpAnyH P md ops Q S fuel (listed.setIfInBounds j true) a w) → K' a w) → Oper.wp P oj a w K' Q)
    (h3 : ∀ K' : Act → World → Prop, Shut (∀ a w, S w → (S w → wpAnyH P md ops Q S fuel (listed.setIfInBounds k true) a w) → K' a w) → Oper.wp P ok a w K' Q) : wpAnyH P md ops Q S (fuel + 1) listed a w :=
  wpAnyH_ready hr (by simp) (AllReadyH.cons hi (fun K hK => by rw [if_pos hwi]; exact h1 K hK) (AllReadyH.cons hj (fun K hK => by rw [if_pos hwj]; exact h2 K hK) (AllReadyH.cons hk (fun K hK => by rw [if_pos hwk]; exact h3 K hK) AllReadyH.nil)))
end
end Go.Proofs.Ytmaagihfjldgeaa

/- A slice opened at every index at once, the empty one too. -/
namespace Go.Proofs.Ytmaagihfjldgeaa
set_option maxRecDepth 100000
open Go.ChangeShapes Go.WideShapes Go.ChangeAt Go.RowKit

theorem IntsAt.row {w : World} {v : Value} {xs : List Int} (h : IntsAt w v xs) :
    ∃ ao cap, v = .slice ao xs.length cap ∧ Hid (∀ i (h : i < xs.length), ∃ b off, ao = some ⟨b, off, none⟩ ∧ b < w.heap.size ∧ w.cell? ⟨b, off + i, none⟩ = some (.int .i64 xs[i])) := by
  obtain ⟨_, ⟨rfl, ao, cap, rfl⟩ | ⟨b, off, cap, rfl, hb, hc⟩⟩ := h
  · exact ⟨ao, cap, rfl, fun i hi => by simp at hi⟩
  · exact ⟨_, cap, rfl, fun i hi => ⟨b, off, rfl, hb, hc i hi⟩⟩
theorem EdgesAt.row {w : World} {v : Value} {xs : List Edg} (h : EdgesAt w v xs) :
    ∃ ao cap, v = .slice ao xs.length cap ∧ Hid (∀ i (h : i < xs.length), ∃ b off, ao = some ⟨b, off, none⟩ ∧ b < w.heap.size ∧
      w.cell? ⟨b, off + i * 4, none⟩ = some (.int .i64 xs[i].id) ∧ w.cell? ⟨b, off + i * 4 + 1, none⟩ = some (.int .i64 xs[i].fr) ∧
      w.cell? ⟨b, off + i * 4 + 2, none⟩ = some (.int .i64 xs[i].to) ∧ w.cell? ⟨b, off + i * 4 + 3, none⟩ = some (.int .i64 xs[i].lb)) := by
  obtain ⟨_, ⟨rfl, ao, cap, rfl⟩ | ⟨b, off, cap, rfl, hb, hc⟩⟩ := h
  · exact ⟨ao, cap, rfl, fun i hi => by simp at hi⟩
  · exact ⟨_, cap, rfl, fun i hi => ⟨b, off, rfl, hb, hc i hi⟩⟩
theorem since_cells {w w' : World} {b : Nat} (k : Since w w') (hb : b < w.heap.size) : ∀ o, w'.cell? ⟨b, o, none⟩ = w.cell? ⟨b, o, none⟩ := fun o => Below.cell k (p := ⟨b, o, none⟩) hb

theorem take_eq_stepE {xs ys : List Edg} (k : Nat) (h1 : k < xs.length) (h2 : k < ys.length) (h : xs.take k = ys.take k) (he : xs[k] = ys[k]) : xs.take (k + 1) = ys.take (k + 1) := by
  rw [List.take_succ_eq_append_getElem h1, List.take_succ_eq_append_getElem h2, h, he]
theorem ne_of_atE {xs ys : List Edg} (k : Nat) (h1 : k < xs.length) (h2 : k < ys.length) (he : xs[k] ≠ ys[k]) : xs ≠ ys := by
  intro e; subst e; exact he rfl

end Go.Proofs.Ytmaagihfjldgeaa

/- The laws' own copies, marks and checks of slices of edges. -/
namespace Go.Proofs.Ytmaagihfjldgeaa
set_option maxRecDepth 100000
open Go.ChangeShapes Go.WideShapes Go.ChangeAt Go.RowKit

theorem Since.grownBy {w w' : World} (h : Since w w') (row : Option Nat) : w.grownBy w' row := ⟨h.os, h.tape, h.output, h.size, fun i hi _ => h.block i hi⟩
theorem rowKept {w w' : World} {base size n : Nat} {e : TypeId} {v : Value} {xs : List Value} (h : w.ownsRow base e size v n xs) (k : Since w w') : w'.ownsRow base e size v n xs :=
  h.kept (k.grownBy none) (by cases hv : v.ownBlock with | none => exact .inl rfl | some _ => exact .inr (by simp))
theorem filled_getE (xs : List Edg) (k i : Nat) (hk : k ≤ xs.length) (hi : i < xs.length) : i < (filled xs zeroE k).length := by rw [filled_length xs zeroE k hk]; exact hi

end Go.Proofs.Ytmaagihfjldgeaa

/- Steps that turn blocks of a range alone; values that lie in a range of blocks. -/
namespace Go.Proofs.Ytmaagihfjldgeaa
set_option maxRecDepth 100000
open Go.ChangeShapes Go.WideShapes Go.ChangeAt Go.RowKit

/-- The slice v lies in a block from lo on and below hi (or in none). -/
def InR (lo hi : Nat) (v : Value) : Prop := ∀ k, v.ownBlock = some k → lo ≤ k ∧ k < hi
/-- Blocks below lo and from hi on are as they were. -/
structure Within (lo hi : Nat) (w w' : World) : Prop where
  os : w'.os = w.os
  tape : w'.tape = w.tape
  output : w'.output = w.output
  size : w.heap.size ≤ w'.heap.size
  block : ∀ k, k < w.heap.size → (k < lo ∨ hi ≤ k) → w'.heap[k]? = w.heap[k]?
theorem Within.refl (lo hi : Nat) (w : World) : Within lo hi w w := ⟨rfl, rfl, rfl, Nat.le_refl _, fun _ _ _ => rfl⟩
theorem Within.trans {lo hi : Nat} {a b c : World} (h : Within lo hi a b) (k : Within lo hi b c) : Within lo hi a c :=
  ⟨k.os.trans h.os, k.tape.trans h.tape, k.output.trans h.output, Nat.le_trans h.size k.size, fun i hi hn => (k.block i (Nat.lt_of_lt_of_le hi h.size) hn).trans (h.block i hi hn)⟩
theorem Within.of_since {lo hi : Nat} {a b : World} (h : Since a b) : Within lo hi a b := ⟨h.os, h.tape, h.output, h.size, fun i hi _ => h.block i hi⟩
theorem Within.of_grown {lo hi : Nat} {a b : World} {row : Option Nat} (h : a.grownBy b row) (hr : ∀ k, row = some k → lo ≤ k ∧ k < hi) : Within lo hi a b :=
  ⟨h.os, h.tape, h.output, h.size, fun i hi hn => h.block i hi (fun e => by have := hr i e.symm; omega)⟩
theorem Since.within {lo hi : Nat} {w0 w w' : World} (h : Since w0 w) (hl : w0.heap.size ≤ lo) (k : Within lo hi w w') : Since w0 w' :=
  ⟨k.os.trans h.os, k.tape.trans h.tape, k.output.trans h.output, Nat.le_trans h.size k.size, fun i hi => (k.block i (Nat.lt_of_lt_of_le hi h.size) (.inl (by omega))).trans (h.block i hi)⟩
theorem ownsRow_within {lo hi a b base size n : Nat} {e : TypeId} {w w' : World} {v : Value} {xs : List Value} (h : w.ownsRow base e size v n xs) (hv : InR a b v) (k : Within lo hi w w') (hd : b ≤ lo ∨ hi ≤ a) : w'.ownsRow base e size v n xs := by
  refine ⟨h.1, ?_⟩
  rcases h.2 with h3 | ⟨g, cap, cur, rfl, hb, hg, hr⟩
  · exact .inl h3
  · have := hv g rfl
    exact .inr ⟨g, cap, cur, rfl, hb, (k.block g (heap_lt hg) (by omega)).trans hg, hr⟩
theorem Own.within {lo hi a b base : Nat} {w w' : World} {v : Value} {xs : List Int} (h : Own base w v xs) (hv : InR a b v) (k : Within lo hi w w') (hd : b ≤ lo ∨ hi ≤ a) : Own base w' v xs :=
  ⟨h.1, ownsRow_within h.2 hv k hd⟩
theorem Own.inR {base : Nat} {w : World} {v : Value} {xs : List Int} (h : Own base w v xs) : InR base w.heap.size v := fun k hk => h.2.lt k hk
theorem InR.mono {a b a' b' : Nat} {v : Value} (h : InR a b v) (ha : a' ≤ a) (hb : b ≤ b') : InR a' b' v := fun k hk => by have := h k hk; omega

end Go.Proofs.Ytmaagihfjldgeaa

/- A block that is known whole. -/
namespace Go.Proofs.Ytmaagihfjldgeaa
set_option maxRecDepth 100000
open Go.ChangeShapes Go.WideShapes Go.ChangeAt Go.RowKit
set_option linter.unusedVariables false

/-- Block g is just these cells, none of them frozen. -/
def Blk (w : World) (g : Nat) (t : TypeId) (cs : Array Value) : Prop := w.heap[g]? = some (.cells cs t (0, 0))
section
variable {w w' : World} {g : Nat} {t : TypeId} {cs : Array Value}
theorem Blk.lt (h : Blk w g t cs) : g < w.heap.size := heap_lt h
theorem Blk.cell (h : Blk w g t cs) (i : Nat) : w.cell? ⟨g, i, none⟩ = cs[i]? := cell_of_row w g i cs t (0, 0) h
theorem Blk.frozen (h : Blk w g t cs) (i : Nat) : w.frozen? ⟨g, i, none⟩ = false := frozen_of_row w g i cs t h
theorem Blk.new (h : g = w.heap.size) (t : TypeId) (cs : Array Value) : Blk (w.alloc (.cells cs t)) g t cs := by subst h; exact heap_alloc_new w _
theorem Blk.alloc (h : Blk w g t cs) (o : Obj) : Blk (w.alloc o) g t cs := (Below.heap_alloc w o g h.lt).trans h
theorem Blk.drew (h : Blk w g t cs) : Blk w.drew g t cs := h
theorem Blk.drewN (h : Blk w g t cs) (n : Nat) : Blk (w.drewN n) g t cs := h
theorem Blk.set (h : Blk w g t cs) (i : Nat) (u : Value) : Blk (w.setCell ⟨g, i, none⟩ u) g t (cs.setIfInBounds i u) := heap_setCell_same w g i cs t u h
theorem Blk.far (h : Blk w g t cs) {p : Addr} (hp : g ≠ p.block) (u : Value) : Blk (w.setCell p u) g t cs := (Below.heap_setCell w p u g hp).trans h
theorem Blk.since (h : Blk w g t cs) (k : Since w w') : Blk w' g t cs := (k.block g h.lt).trans h
theorem Blk.within {lo hi : Nat} (h : Blk w g t cs) (k : Within lo hi w w') (hd : g < lo ∨ hi ≤ g) : Blk w' g t cs := (k.block g h.lt hd).trans h
theorem Blk.one {a : Value} (h : Blk w g t #[a]) : w.cell? ⟨g, 0, none⟩ = some a ∧ w.frozen? ⟨g, 0, none⟩ = false := ⟨h.cell 0, h.frozen 0⟩
theorem Blk.two {a b : Value} (h : Blk w g t #[a, b]) : w.cell? ⟨g, 0, none⟩ = some a ∧ w.cell? ⟨g, 1, none⟩ = some b ∧ w.frozen? ⟨g, 0, none⟩ = false ∧ w.frozen? ⟨g, 1, none⟩ = false := ⟨h.cell 0, h.cell 1, h.frozen 0, h.frozen 1⟩
theorem Blk.four {a b c d : Value} (h : Blk w g t #[a, b, c, d]) : w.cell? ⟨g, 0, none⟩ = some a ∧ w.cell? ⟨g, 1, none⟩ = some b ∧ w.cell? ⟨g, 2, none⟩ = some c ∧ w.cell? ⟨g, 3, none⟩ = some d ∧
    w.frozen? ⟨g, 0, none⟩ = false ∧ w.frozen? ⟨g, 1, none⟩ = false ∧ w.frozen? ⟨g, 2, none⟩ = false ∧ w.frozen? ⟨g, 3, none⟩ = false :=
  ⟨h.cell 0, h.cell 1, h.cell 2, h.cell 3, h.frozen 0, h.frozen 1, h.frozen 2, h.frozen 3⟩
end
theorem Own.len {base : Nat} {w : World} {v : Value} {xs : List Int} (h : Own base w v xs) : ∃ ao cap, v = .slice ao xs.length cap := by
  obtain ⟨ao, cap, e, _⟩ := h.at.row; exact ⟨ao, cap, e⟩
theorem Own.far {base : Nat} {w : World} {v : Value} {xs : List Int} (h : Own base w v xs) {p : Addr} (hp : p.block < base) (u : Value) : Own base (w.setCell p u) v xs := ⟨h.1, ownsRow_setCell_below h.2 hp u⟩
end Go.Proofs.Ytmaagihfjldgeaa

/- The laws' own sizes, comparisons, marks and checks of graphs. -/
namespace Go.Proofs.Ytmaagihfjldgeaa
set_option maxRecDepth 100000
open Go.ChangeShapes Go.WideShapes Go.ChangeAt Go.RowKit
set_option linter.unusedVariables false

def szLeft (n : Nat) (left : Int) : Int := if left - (n : Int) < 0 then -1 else left - (n : Int)
set_option maxRecDepth 100000 in
theorem szIntS_any (v : Value) (xs : List Int) (left : Int) (w : World) (h : IntsAt w v xs) (hl : xs.length ≤ maxLen) (h0 : 0 ≤ left) (h1 : left ≤ 1048576) :
    Calls Try.prog 112 #[v, .int .i64 left] w fun e w' => e = .returned (.int .i64 (szLeft xs.length left)) ∧ w = w' := by
  obtain ⟨ao, cap, rfl, _⟩ := h.row
  clear h
  unfold maxLen at hl
  obtain ⟨n, hn⟩ : ∃ n, n = xs.length := ⟨_, rfl⟩
  rw [← hn] at hl ⊢
  clear hn
  by_cases hb : left - (n : Int) < 0
  · have HE : Hid (szLeft n left = -1) := by unfold Hid szLeft; rw [if_pos hb]
    go_enter Try.func112, Try.ntmps112
    go_wp2
    go_ret
    exact ⟨ret_int HE.out.symm, rfl⟩
  · have HE : Hid (szLeft n left = left - (n : Int)) := by unfold Hid szLeft; rw [if_neg hb]
    go_enter Try.func112, Try.ntmps112
    go_wp2
    go_ret
    exact ⟨ret_int HE.out.symm, rfl⟩
/-- Whether a graph is within the laws' size. -/
def szG (g : Grf) (left : Int) : Int := if left - (g.vs.length : Int) < 0 then -1 else szLeft g.es.length (left - (g.vs.length : Int))
end Go.Proofs.Ytmaagihfjldgeaa

/- Empty literals: rows of the call's own. -/
namespace Go.Proofs.Ytmaagihfjldgeaa
set_option maxRecDepth 100000
open Go.ChangeShapes Go.WideShapes Go.ChangeAt Go.RowKit
theorem own_lit (w w1 : World) (h : Since w w1) (b : Nat) (hb : b = w1.heap.size) : Own w.heap.size (w1.alloc (.cells #[] 3)) (.slice (some ⟨b, 0, none⟩) 0 0) [] := by
  subst hb; exact ⟨fun x hx => by simp at hx, World.ownsRow_lit w1 #[] 0 h.size (Nat.zero_le _) rfl⟩
theorem Own.grownX {base : Nat} {w w' : World} {v : Value} {xs : List Int} {row : Option Nat} (h : Own base w v xs) (k : w.grownBy w' row) (hr : v.ownBlock = none ∨ v.ownBlock ≠ row) : Own base w' v xs := ⟨h.1, h.2.kept k hr⟩
theorem Own.lt' {base : Nat} {w : World} {v : Value} {xs : List Int} (h : Own base w v xs) : ∀ k, v.ownBlock = some k → base ≤ k ∧ k < w.heap.size := h.2.lt
end Go.Proofs.Ytmaagihfjldgeaa

/- What a function answers that gives back a graph and a yes or no. -/
namespace Go.Proofs.Ytmaagihfjldgeaa
set_option maxRecDepth 100000
open Go.ChangeShapes Go.WideShapes Go.ChangeAt Go.RowKit
theorem inB_bounds {x lo hi : Int} (h : inB x lo hi = true) : lo ≤ x ∧ x ≤ hi := by unfold inB at h; simpa using h
theorem own_block {w : World} {base size n : Nat} {e : TypeId} {v : Value} {xs : List Value} (h : w.ownsRow base e size v n xs) (hn : 0 < n) : ∃ g cap, v = .slice (some ⟨g, 0, none⟩) n cap ∧ base ≤ g := by
  rcases h.2 with ⟨_, h0⟩ | ⟨g, cap, cur, a, b, _⟩
  · omega
  · exact ⟨g, cap, a, b⟩
end Go.Proofs.Ytmaagihfjldgeaa

/- Slices of slices of edges. -/
namespace Go.Proofs.Ytmaagihfjldgeaa
set_option maxRecDepth 100000
open Go.ChangeShapes Go.WideShapes Go.ChangeAt Go.RowKit
set_option linter.unusedVariables false

/-- The graph's slice of edges is not longer than its capacity. -/
def CapE (v : Value) : Prop := ∃ a ao m cap, v = .agg #[a, .slice ao m cap] ∧ m ≤ cap
theorem CapE.out {a : Value} {ao : Option Addr} {m cap : Nat} (h : CapE (.agg #[a, .slice ao m cap])) : m ≤ cap := by
  obtain ⟨a', ao', m', cap', e, h⟩ := h
  injection e with e; injection e with e; injection e with _ e; injection e with e; injection e with _ e1 e2
  subst e1; subst e2; exact h
/-- A cell written: other blocks stand. -/
theorem Within.cell (w : World) (p : Addr) (u : Value) : Within p.block (p.block + 1) w (w.setCell p u) := ⟨rfl, rfl, rfl, by simp [World.setCell], fun k _ hn => Below.heap_setCell w p u k (by omega)⟩
theorem edges_take {w : World} {ao : Option Addr} {m cap : Nat} {xs : List Edg} (h : EdgesAt w (.slice ao m cap) xs) {k : Nat} (hk : k ≤ m) (ad : Option Addr) (c : Nat) (had : ad = ao) : EdgesAt w (.slice ad k c) (xs.take k) := by
  subst had
  obtain ⟨h1, h2⟩ := h
  refine ⟨fun x hx => h1 x (List.mem_of_mem_take hx), ?_⟩
  rcases h2 with ⟨rfl, ao', cap', e⟩ | ⟨b, off, cap', e, hb, hc⟩
  · injection e with _ e _
    obtain rfl : k = 0 := by omega
    exact .inl ⟨by simp, ad, c, rfl⟩
  · injection e with e1 e2 _
    have hl : (xs.take k).length = k := by simp; omega
    refine .inr ⟨b, off, c, by rw [hl, e1], hb, fun i hi => ?_⟩
    rw [List.getElem_take]
    exact hc i (by omega)
theorem edges_drop {w : World} {b off m cap : Nat} {xs : List Edg} (h : EdgesAt w (.slice (some ⟨b, off, none⟩) m cap) xs) {k : Nat} (hk : k ≤ m) (ad : Option Addr) (n c : Nat) (hn : n = m - k) (had : k < m → ad = some ⟨b, off + k * 4, none⟩) : EdgesAt w (.slice ad n c) (xs.drop k) := by
  subst hn
  obtain ⟨h1, h2⟩ := h
  refine ⟨fun x hx => h1 x (List.mem_of_mem_drop hx), ?_⟩
  rcases h2 with ⟨rfl, ao', cap', e⟩ | ⟨b', off', cap', e, hb, hc⟩
  · injection e with _ e _
    exact .inl ⟨by simp, ad, c, by rw [show m - k = 0 from by omega]⟩
  · injection e with e1 e2 _
    injection e1 with e1; injection e1 with e1 e3
    subst e1; subst e3
    by_cases hlt : k < m
    · refine .inr ⟨b, off + k * 4, c, by rw [had hlt, List.length_drop, ← e2], hb, fun i hi => ?_⟩
      rw [List.length_drop] at hi
      have := hc (k + i) (by omega)
      rw [List.getElem_drop]
      rw [show off + k * 4 + i * 4 = off + (k + i) * 4 from by omega]
      exact this
    · exact .inl ⟨List.drop_of_length_le (by omega), ad, c, by rw [show m - k = 0 from by omega]⟩
theorem edges_takeO {w : World} {ao : Option Addr} {m cap : Nat} {xs : List Edg} (h : EdgesAt w (.slice ao m cap) xs) {k : Nat} (hk : k ≤ m) (ad : Option Addr) (c : Nat) (had : ∀ b off, ao = some ⟨b, off, none⟩ → ad = some ⟨b, off, none⟩) : EdgesAt w (.slice ad k c) (xs.take k) := by
  have h0 := h
  rcases h.2 with ⟨rfl, ao', cap', e⟩ | ⟨b, off, cap', e, hb, hc⟩
  · injection e with _ e _
    obtain rfl : k = 0 := by omega
    exact ⟨fun x hx => by simp at hx, .inl ⟨by simp, ad, c, rfl⟩⟩
  · injection e with e1 e2 _
    exact edges_take h0 hk ad c ((had b off e1).trans e1.symm)
theorem edges_dropO {w : World} {ao : Option Addr} {m cap : Nat} {xs : List Edg} (h : EdgesAt w (.slice ao m cap) xs) {k : Nat} (hk : k ≤ m) (ad : Option Addr) (n c : Nat) (hn : n = m - k) (had : k < m → ∀ b off, ao = some ⟨b, off, none⟩ → ad = some ⟨b, off + k * 4, none⟩) : EdgesAt w (.slice ad n c) (xs.drop k) := by
  rcases h.2 with ⟨rfl, ao', cap', e⟩ | ⟨b, off, cap', e, hb, hc⟩
  · injection e with _ e _
    exact ⟨fun x hx => by simp at hx, .inl ⟨by simp, ad, c, by rw [show n = 0 from by omega]⟩⟩
  · injection e with e1 e2 _
    subst e1
    exact edges_drop h hk ad n c hn (fun hlt => had hlt b off rfl)
end Go.Proofs.Ytmaagihfjldgeaa

/- append onto a row of the call's own from whatever slice: nil, empty or not. -/
namespace Go.Proofs.Ytmaagihfjldgeaa
set_option maxRecDepth 100000
open Go.ChangeShapes Go.WideShapes Go.ChangeAt Go.RowKit
set_option linter.unusedVariables false

/-- What a slice of these cells lays out: at each place j the cell, behind some address. -/
def SrcAt (w : World) (ao : Option Addr) (news : List Value) : Prop := 0 < news.length → ∃ ad, ao = some ad ∧ ∀ j u, news[j]? = some u → w.cell? (ad.add j) = some u
def AppOut (w : World) (base : Nat) (e : TypeId) (size : Nat) (v : Value) (n : Nat) (xs : List Value) (v' : Value) (w' : World) : Prop :=
  w'.ownsRow base e size v' n xs ∧ w.grownBy w' v.ownBlock ∧ (v'.ownBlock = v.ownBlock ∨ v'.ownBlock = some w.heap.size)
theorem run_append_src (w : World) (base : Nat) (t ty e : TypeId) (z : Value) (size bytes : Nat) (ht : Try.prog.underlying t = some (.slice e))
    (hinfo : (Try.prog.info? e).map (fun i => (i.zero, i.size, i.bytes)) = some (some z, size, bytes)) (hz : z.cells.size = size) (hsz : 0 < size)
    (v : Value) (n : Nat) (xs : List Value) (hown : w.ownsRow base e size v n xs) (ao : Option Addr) (m c : Nat) (news : List Value) (hl : news.length = m * size) (hsrc : SrcAt w ao news) (h1 : ∀ u ∈ news, u.oneCell' = true)
    (h63 : n + m ≤ maxLen) (hbytes : (n + m) * bytes ≤ 140737488355328) (hbase : base ≤ w.heap.size) :
    ∃ v' w', (Builtin.append_ #[t, t] ty #[v, .slice ao m c]).run Try.prog w = .ok v' w' ∧ AppOut w base e size v (n + m) (xs ++ news) v' w' := by
  obtain ⟨i0, hi, hz0, hz1, hz2⟩ := info_parts hinfo
  cases ao with
  | none =>
    have hm : m = 0 := by
      rcases Nat.eq_zero_or_pos m with h | h
      · exact h
      · obtain ⟨ad, e1, _⟩ := hsrc (by rw [hl]; exact Nat.mul_pos h hsz)
        cases e1
    subst hm
    have hn : news = [] := List.eq_nil_of_length_eq_zero (by omega)
    subst hn
    refine ⟨v, w, ?_, ⟨by simpa using hown, ⟨rfl, rfl, rfl, Nat.le_refl _, fun _ _ _ => rfl⟩, .inl rfl⟩⟩
    rcases hown.2 with ⟨rfl, rfl⟩ | ⟨g, cap, cur, rfl, _, _, hnc, _⟩
    · simp [Builtin.append_, run_underlying ht, sizeOf, typeInfo, hi, Builtin.lenOf, Builtin.firstCells]
    · simp [Builtin.append_, run_underlying ht, sizeOf, typeInfo, hi, Builtin.lenOf, Builtin.firstCells, hnc, storeCells]
  | some ad =>
    have hc : ∀ j u, news[j]? = some u → w.cell? (ad.add j) = some u := by
      intro j u hu
      obtain ⟨ad', e1, h⟩ := hsrc (by have := (List.getElem?_eq_some_iff.1 hu).1; omega)
      injection e1 with e1; subst e1
      exact h j u hu
    obtain ⟨v', w', hrun, h2, h3, _, h5⟩ := run_append_own_at (P := Try.prog) w base t ty e i0 z size bytes ht hi hz0 hz1 hz2 hz hsz v n xs hown ad m c news hl hc h1 h63 hbytes hbase
    exact ⟨v', w', hrun, h2, h3, h5⟩
theorem ints_src {w : World} {ao : Option Addr} {n cap : Nat} {xs : List Int} (h : IntsAt w (.slice ao n cap) xs) : SrcAt w ao (xs.map icell) ∧ n = xs.length := by
  obtain ⟨ao', cap', e, HC⟩ := h.row
  injection e with e1 e2 e3
  subst e1 e2 e3
  refine ⟨fun h0 => ?_, rfl⟩
  obtain ⟨b, off, e, _, _⟩ := HC.out 0 (by simpa using h0)
  refine ⟨⟨b, off, none⟩, e, fun j u hu => ?_⟩
  rw [List.getElem?_map] at hu
  obtain ⟨x, hx, rfl⟩ := Option.map_eq_some_iff.1 hu
  obtain ⟨hj, rfl⟩ := List.getElem?_eq_some_iff.1 hx
  obtain ⟨b', off', e', _, hc⟩ := HC.out j hj
  rw [e] at e'; injection e' with e'; injection e' with e1 e2; subst e1; subst e2
  rw [add_plain]; exact hc
theorem edges_src {w : World} {ao : Option Addr} {n cap : Nat} {xs : List Edg} (h : EdgesAt w (.slice ao n cap) xs) : SrcAt w ao (ecells xs) ∧ n = xs.length := by
  obtain ⟨ao', cap', e, HC⟩ := h.row
  injection e with e1 e2 e3
  subst e1 e2 e3
  refine ⟨fun h0 => ?_, rfl⟩
  rw [ecells_length] at h0
  obtain ⟨b, off, e, _, _⟩ := HC.out 0 (by omega)
  refine ⟨⟨b, off, none⟩, e, fun j u hu => ?_⟩
  have hjl : j < xs.length * 4 := by have := (List.getElem?_eq_some_iff.1 hu).1; rw [ecells_length] at this; exact this
  have hq : j / 4 < xs.length := by omega
  obtain ⟨b', off', e', _, c0, c1, c2, c3⟩ := HC.out (j / 4) hq
  rw [e] at e'; injection e' with e'; injection e' with e1 e2; subst e1; subst e2
  have ha := ecells_at xs (j / 4) (j % 4) hq (Nat.mod_lt _ (by omega))
  rw [show j / 4 * 4 + j % 4 = j from by omega, hu] at ha
  rw [add_plain]
  have hr : j % 4 = 0 ∨ j % 4 = 1 ∨ j % 4 = 2 ∨ j % 4 = 3 := by omega
  rcases hr with hr | hr | hr | hr
  · rw [hr] at ha; injection ha with ha; subst ha
    rw [show off + j = off + j / 4 * 4 from by omega]; exact c0
  · rw [hr] at ha; injection ha with ha; subst ha
    rw [show off + j = off + j / 4 * 4 + 1 from by omega]; exact c1
  · rw [hr] at ha; injection ha with ha; subst ha
    rw [show off + j = off + j / 4 * 4 + 2 from by omega]; exact c2
  · rw [hr] at ha; injection ha with ha; subst ha
    rw [show off + j = off + j / 4 * 4 + 3 from by omega]; exact c3

/-- append of a slice of ints onto ints of the call's own. -/
theorem run_append_ints (w : World) (base : Nat) (ty : TypeId) (v : Value) (xs : List Int) (hown : Own base w v xs) (ao : Option Addr) (m c : Nat) (ys : List Int) (hy : IntsAt w (.slice ao m c) ys)
    (hlen : xs.length + ys.length ≤ 4194304) (hbase : base ≤ w.heap.size) :
    ∃ v' w', (Builtin.append_ #[24, 24] ty #[v, .slice ao m c]).run Try.prog w = .ok v' w' ∧ Own base w' v' (xs ++ ys) ∧ w.grownBy w' v.ownBlock ∧ (v'.ownBlock = v.ownBlock ∨ v'.ownBlock = some w.heap.size) := by
  obtain ⟨hs, rfl⟩ := ints_src hy
  obtain ⟨v', w', hr, h1, h2, h3⟩ := run_append_src w base 24 ty 3 (.int .i64 0) 1 8 Try.underlying24 info_intE rfl (by decide) v xs.length (xs.map icell) hown.2 ao ys.length c (ys.map icell) (by simp) hs
    (by intro u hu; obtain ⟨x, _, rfl⟩ := List.mem_map.1 hu; rfl) (by unfold maxLen; omega) (by omega) hbase
  refine ⟨v', w', hr, ⟨fun x hx => ?_, ?_⟩, h2, h3⟩
  · rcases List.mem_append.1 hx with h | h
    · exact hown.1 x h
    · exact hy.1 x h
  · rw [List.length_append, List.map_append]; exact h1
/-- The law for the walk, and for a region. -/
theorem wp_of_run_append {w : World} {o : Oper} {a : Act} {K : Act → World → Prop} {Q : Exit → Act → World → Prop} (s x : Operand) (t : TypeId)
    (ho : o.op = .call { callee := .builtin .append, args := #[s, x], argTypes := #[t, t] }) (v y v' : Value) (w' : World) (hs : a.eval s = v) (hx : a.eval x = y)
    (hr : (Builtin.append_ #[t, t] o.type #[v, y]).run Try.prog w = .ok v' w') (h : K (a.put o.dst v') w') : o.wp Try.prog a w K Q := by
  unfold Oper.wp execOp
  simp only [ho, resolve, invoke, builtin, Sem.run_bind, Sem.run_pure, Result.andThen_ok, List.map_toArray, List.map_cons, List.map_nil, hs, hx, hr]
  exact h
theorem wp_append_ints {w : World} {o : Oper} {a : Act} {K : Act → World → Prop} {Q : Exit → Act → World → Prop} (s x : Operand)
    (ho : o.op = .call { callee := .builtin .append, args := #[s, x], argTypes := #[24, 24] }) (base : Nat) (v : Value) (xs : List Int) (hs : a.eval s = v) (hown : Own base w v xs) (ao : Option Addr) (m c : Nat) (hx : a.eval x = .slice ao m c)
    (ys : List Int) (hy : IntsAt w (.slice ao m c) ys) (hlen : xs.length + ys.length ≤ 4194304) (hbase : base ≤ w.heap.size)
    (h : ∀ v' w', Own base w' v' (xs ++ ys) → w.grownBy w' v.ownBlock → (v'.ownBlock = v.ownBlock ∨ v'.ownBlock = some w.heap.size) → K (a.put o.dst v') w') : o.wp Try.prog a w K Q := by
  obtain ⟨v', w', hr, h1, h2, h3⟩ := run_append_ints w base o.type v xs hown ao m c ys hy hlen hbase
  exact wp_of_run_append s x _ ho v _ v' w' hs hx hr (h v' w' h1 h2 h3)
theorem wpList_append_ints {w : World} {ops : Array Oper} {rest : List Oper} {o : Oper} {a : Act} {Q : Exit → Act → World → Prop} (hgd : o.guard = none) (s x : Operand)
    (ho : o.op = .call { callee := .builtin .append, args := #[s, x], argTypes := #[24, 24] }) (base : Nat) (v : Value) (xs : List Int) (hs : a.eval s = v) (hown : Own base w v xs) (ao : Option Addr) (m c : Nat) (hx : a.eval x = .slice ao m c)
    (ys : List Int) (hy : IntsAt w (.slice ao m c) ys) (hlen : xs.length + ys.length ≤ 4194304) (hbase : base ≤ w.heap.size)
    (h : ∀ v' w', Own base w' v' (xs ++ ys) → w.grownBy w' v.ownBlock → (v'.ownBlock = v.ownBlock ∨ v'.ownBlock = some w.heap.size) → wpList Try.prog ops Q rest (a.put o.dst v') w') : wpList Try.prog ops Q (o :: rest) a w :=
  wpList_plain hgd fun _ hK => wp_append_ints s x ho base v xs hs hown ao m c hx ys hy hlen hbase fun v' w' h2 h3 h4 => hK _ _ (h v' w' h2 h3 h4)
end Go.Proofs.Ytmaagihfjldgeaa

/- Steps, and what an edge tells about each of its two steps, as plain data; how lists of them lie in cells. -/
namespace Go.Proofs.Ytmaagihfjldgeaa
set_option maxRecDepth 100000
open Go.ChangeShapes Go.WideShapes Go.ChangeAt Go.RowKit
set_option linter.unusedVariables false

structure Stp where
  id : Int
  inv : Bool
theorem Stp.eq_iff (a b : Stp) : a = b ↔ (a.id = b.id ∧ a.inv = b.inv) :=
  ⟨fun h => by subst h; exact ⟨rfl, rfl⟩, fun h => by cases a; cases b; simp_all⟩
instance : DecidableEq Stp := fun a b => decidable_of_iff _ (Stp.eq_iff a b).symm
/-- A step together with what its edge tells about it. -/
structure Trv where
  id : Int
  inv : Bool
  fr : Int
  dst : Int
  le : Int
def Trv.st (t : Trv) : Stp := ⟨t.id, t.inv⟩
abbrev sv (s : Stp) : Value := .agg #[.int .i64 s.id, .bool s.inv]
abbrev tv (t : Trv) : Value := .agg #[.int .i64 t.id, .bool t.inv, .int .i64 t.fr, .int .i64 t.dst, .int .i64 t.le]
def Stp.cs (s : Stp) : List Value := [.int .i64 s.id, .bool s.inv]
def Trv.cs (t : Trv) : List Value := [.int .i64 t.id, .bool t.inv, .int .i64 t.fr, .int .i64 t.dst, .int .i64 t.le]
def zeroS : Stp := ⟨0, false⟩
def zeroT : Trv := ⟨0, false, 0, 0, 0⟩
def scells (xs : List Stp) : List Value := xs.flatMap Stp.cs
def tcells (xs : List Trv) : List Value := xs.flatMap Trv.cs
section
variable {α : Type} {cs : α → List Value} {s : Nat} (hs : ∀ a, (cs a).length = s)
include hs
theorem fcells_length (xs : List α) : (xs.flatMap cs).length = xs.length * s := by
  induction xs with
  | nil => simp
  | cons x xs ih => rw [List.flatMap_cons, List.length_append, ih, hs, List.length_cons, Nat.succ_mul]; omega
theorem fcells_take (xs : List α) (k : Nat) : (xs.flatMap cs).take (k * s) = (xs.take k).flatMap cs := by
  induction xs generalizing k with
  | nil => simp
  | cons x xs ih =>
    cases k with
    | zero => simp
    | succ k =>
      have h := hs x
      rw [List.take_succ_cons, List.flatMap_cons, List.flatMap_cons, ← ih k, List.take_append, h, Nat.succ_mul, List.take_of_length_le (by omega), Nat.add_sub_cancel]
theorem fcells_drop (xs : List α) (k : Nat) : (xs.flatMap cs).drop (k * s) = (xs.drop k).flatMap cs := by
  induction xs generalizing k with
  | nil => simp
  | cons x xs ih =>
    cases k with
    | zero => simp
    | succ k =>
      have h := hs x
      rw [List.drop_succ_cons, List.flatMap_cons, ← ih k, List.drop_append, h, Nat.succ_mul, List.drop_of_length_le (by omega), Nat.add_sub_cancel, List.nil_append]
theorem fcells_at (xs : List α) (i j : Nat) (h : i < xs.length) (hj : j < s) : (xs.flatMap cs)[i * s + j]? = (cs xs[i])[j]? := by
  rw [← List.getElem?_drop, fcells_drop hs, List.drop_eq_getElem_cons h, List.flatMap_cons, List.getElem?_append_left (by rw [hs]; exact hj)]
theorem fcells_set (xs : List α) (i : Nat) (h : i < xs.length) (e : α) : (xs.set i e).flatMap cs = (xs.flatMap cs).take (i * s) ++ cs e ++ (xs.flatMap cs).drop ((i + 1) * s) := by
  rw [fcells_take hs, fcells_drop hs, List.set_eq_take_append_cons_drop, if_pos h, List.flatMap_append, List.flatMap_cons, List.append_assoc]
end
theorem fcells_len2 {α β : Type} {cs : α → List β} (hs : ∀ a, (cs a).length = 2) (xs : List α) : (xs.flatMap cs).length = xs.length * 2 := by
  induction xs with
  | nil => simp
  | cons x xs ih => rw [List.flatMap_cons, List.length_append, ih, hs, List.length_cons]; omega
theorem scs_len (s : Stp) : s.cs.length = 2 := rfl
theorem tcs_len (t : Trv) : t.cs.length = 5 := rfl
theorem scells_length (xs : List Stp) : (scells xs).length = xs.length * 2 := fcells_length scs_len xs
theorem tcells_length (xs : List Trv) : (tcells xs).length = xs.length * 5 := fcells_length tcs_len xs
theorem scells_append (xs ys : List Stp) : scells (xs ++ ys) = scells xs ++ scells ys := by simp [scells]
theorem tcells_append (xs ys : List Trv) : tcells (xs ++ ys) = tcells xs ++ tcells ys := by simp [tcells]
theorem scells_oneCell (xs : List Stp) : ∀ u ∈ scells xs, u.oneCell' = true := by
  intro u hu
  simp [scells, Stp.cs] at hu
  obtain ⟨e, _, h⟩ := hu
  rcases h with h | h <;> subst h <;> rfl
theorem tcells_oneCell (xs : List Trv) : ∀ u ∈ tcells xs, u.oneCell' = true := by
  intro u hu
  simp [tcells, Trv.cs] at hu
  obtain ⟨e, _, h⟩ := hu
  rcases h with h | h | h | h | h <;> subst h <;> rfl
theorem mid_set2 (l : List Value) (o : Nat) (h : o + 2 ≤ l.length) (a b : Value) : (l.set o a).set (o + 1) b = l.take o ++ [a, b] ++ l.drop (o + 2) := by
  apply List.ext_getElem?
  intro j
  simp only [List.getElem?_set, List.length_set, List.append_assoc, List.getElem?_append, List.length_take, Nat.min_eq_left (by omega : o ≤ l.length), List.getElem?_take, List.length_cons, List.length_nil, List.getElem?_drop]
  rcases Nat.lt_trichotomy j o with hj | hj | hj
  · rw [if_neg (by omega), if_neg (by omega), if_pos hj, if_pos hj]
  · subst hj; rw [if_neg (by omega), if_pos rfl, if_pos (by omega), if_neg (by omega), if_pos (by omega), Nat.sub_self]; rfl
  · by_cases h1 : j = o + 1
    · subst h1; rw [if_pos rfl, if_pos (by omega), if_neg (by omega), if_pos (by omega), show o + 1 - o = 1 from by omega]; rfl
    · rw [if_neg (by omega), if_neg (by omega), if_neg (by omega), if_neg (by omega)]
      congr 1; omega
theorem mid_set5 (l : List Value) (o : Nat) (h : o + 5 ≤ l.length) (a b c d e : Value) : ((((l.set o a).set (o + 1) b).set (o + 2) c).set (o + 3) d).set (o + 4) e = l.take o ++ [a, b, c, d, e] ++ l.drop (o + 5) := by
  rw [mid_set2 l o (by omega), show o + 2 = (o + 2) from rfl]
  apply List.ext_getElem?
  intro j
  simp only [List.getElem?_set, List.length_set, List.append_assoc, List.getElem?_append, List.length_append, List.length_take, List.length_drop, Nat.min_eq_left (by omega : o ≤ l.length), List.getElem?_take, List.length_cons, List.length_nil, List.getElem?_drop]
  rcases Nat.lt_or_ge j o with hj | hj
  · rw [if_neg (by omega), if_neg (by omega), if_neg (by omega), if_pos hj, if_pos hj, if_pos hj]
  · obtain ⟨t, rfl⟩ := Nat.exists_eq_add_of_le hj
    match t with
    | 0 => rw [if_neg (by omega), if_neg (by omega), if_neg (by omega), if_neg (by omega), if_pos (by omega), if_neg (by omega), if_pos (by omega), show o + 0 - o = 0 from by omega]; rfl
    | 1 => rw [if_neg (by omega), if_neg (by omega), if_neg (by omega), if_neg (by omega), if_pos (by omega), if_neg (by omega), if_pos (by omega), show o + 1 - o = 1 from by omega]; rfl
    | 2 => rw [if_neg (by omega), if_neg (by omega), if_pos rfl, if_pos (by omega), if_neg (by omega), if_pos (by omega), show o + 2 - o = 2 from by omega]; rfl
    | 3 => rw [if_neg (by omega), if_pos rfl, if_pos (by omega), if_neg (by omega), if_pos (by omega), show o + 3 - o = 3 from by omega]; rfl
    | 4 => rw [if_pos rfl, if_pos (by omega), if_neg (by omega), if_pos (by omega), show o + 4 - o = 4 from by omega]; rfl
    | t + 5 =>
      rw [if_neg (by omega), if_neg (by omega), if_neg (by omega), if_neg (by omega), if_neg (by omega), if_neg (by omega), if_neg (by omega)]
      congr 1; omega
theorem scells_set (xs : List Stp) (i : Nat) (h : i < xs.length) (e : Stp) : ((scells xs).set (i * 2) (.int .i64 e.id)).set (i * 2 + 1) (.bool e.inv) = scells (xs.set i e) := by
  rw [mid_set2 _ _ (by rw [scells_length]; omega), show i * 2 + 2 = (i + 1) * 2 from by omega]
  exact (fcells_set scs_len xs i h e).symm
theorem tcells_set (xs : List Trv) (i : Nat) (h : i < xs.length) (e : Trv) :
    (((((tcells xs).set (i * 5) (.int .i64 e.id)).set (i * 5 + 1) (.bool e.inv)).set (i * 5 + 2) (.int .i64 e.fr)).set (i * 5 + 3) (.int .i64 e.dst)).set (i * 5 + 4) (.int .i64 e.le) = tcells (xs.set i e) := by
  rw [mid_set5 _ _ (by rw [tcells_length]; omega), show i * 5 + 5 = (i + 1) * 5 from by omega]
  exact (fcells_set tcs_len xs i h e).symm

/-- v is a slice of steps that reads as xs. -/
def StpsAt (w : World) (v : Value) (xs : List Stp) : Prop :=
  ∃ ao cap, v = .slice ao xs.length cap ∧ Hid (∀ i (h : i < xs.length), ∃ b off, ao = some ⟨b, off, none⟩ ∧ b < w.heap.size ∧
    w.cell? ⟨b, off + i * 2, none⟩ = some (.int .i64 xs[i].id) ∧ w.cell? ⟨b, off + i * 2 + 1, none⟩ = some (.bool xs[i].inv))
/-- v is a slice of traversals that reads as xs. -/
def TrvsAt (w : World) (v : Value) (xs : List Trv) : Prop :=
  ∃ ao cap, v = .slice ao xs.length cap ∧ Hid (∀ i (h : i < xs.length), ∃ b off, ao = some ⟨b, off, none⟩ ∧ b < w.heap.size ∧
    w.cell? ⟨b, off + i * 5, none⟩ = some (.int .i64 xs[i].id) ∧ w.cell? ⟨b, off + i * 5 + 1, none⟩ = some (.bool xs[i].inv) ∧ w.cell? ⟨b, off + i * 5 + 2, none⟩ = some (.int .i64 xs[i].fr) ∧
    w.cell? ⟨b, off + i * 5 + 3, none⟩ = some (.int .i64 xs[i].dst) ∧ w.cell? ⟨b, off + i * 5 + 4, none⟩ = some (.int .i64 xs[i].le))
theorem StpsAt.since {w w' : World} {v : Value} {xs : List Stp} (h : StpsAt w v xs) (k : Since w w') : StpsAt w' v xs := by
  obtain ⟨ao, cap, rfl, hc⟩ := h
  refine ⟨ao, cap, rfl, fun i hi => ?_⟩
  obtain ⟨b, off, e, hb, c⟩ := hc.out i hi
  refine ⟨b, off, e, Nat.lt_of_lt_of_le hb k.size, ?_⟩
  have hx : ∀ o, w'.cell? ⟨b, o, none⟩ = w.cell? ⟨b, o, none⟩ := fun o => Below.cell k (p := ⟨b, o, none⟩) hb
  rw [hx, hx]; exact c
theorem TrvsAt.since {w w' : World} {v : Value} {xs : List Trv} (h : TrvsAt w v xs) (k : Since w w') : TrvsAt w' v xs := by
  obtain ⟨ao, cap, rfl, hc⟩ := h
  refine ⟨ao, cap, rfl, fun i hi => ?_⟩
  obtain ⟨b, off, e, hb, c⟩ := hc.out i hi
  refine ⟨b, off, e, Nat.lt_of_lt_of_le hb k.size, ?_⟩
  have hx : ∀ o, w'.cell? ⟨b, o, none⟩ = w.cell? ⟨b, o, none⟩ := fun o => Below.cell k (p := ⟨b, o, none⟩) hb
  rw [hx, hx, hx, hx, hx]; exact c
theorem row_mono {base base' size n : Nat} {e : TypeId} {w : World} {v : Value} {xs : List Value} (h : w.ownsRow base e size v n xs) (hb : base' ≤ base) : w.ownsRow base' e size v n xs := by
  obtain ⟨h2, h3⟩ := h
  refine ⟨h2, ?_⟩
  rcases h3 with h3 | ⟨g, cap, cur, a, b, c⟩
  · exact .inl h3
  · exact .inr ⟨g, cap, cur, a, Nat.le_trans hb b, c⟩
theorem row_since {base size n : Nat} {e : TypeId} {w w' : World} {v : Value} {xs : List Value} (h : w.ownsRow base e size v n xs) (k : Since w w') : w'.ownsRow base e size v n xs := by
  obtain ⟨h2, h3⟩ := h
  refine ⟨h2, ?_⟩
  rcases h3 with h3 | ⟨g, cap, cur, a, b, c, d⟩
  · exact .inl h3
  · exact .inr ⟨g, cap, cur, a, b, (k.block g (heap_lt c)).trans c, d⟩
theorem made_steps (n : Nat) : (madeCells (sv zeroS).cells (n * 2)).toList = scells (List.replicate n zeroS) := by
  apply List.ext_getElem
  · rw [scells_length]; simp [madeCells]
  · intro j h1 h2
    rw [scells_length, List.length_replicate] at h2
    have ha := fcells_at scs_len (List.replicate n zeroS) (j / 2) (j % 2) (by rw [List.length_replicate]; omega) (by omega)
    rw [show j / 2 * 2 + j % 2 = j from by omega] at ha
    have hj : j % 2 = 0 ∨ j % 2 = 1 := by omega
    have e : (sv zeroS).cells = #[.int .i64 0, .bool false] := rfl
    have hb : (scells (List.replicate n zeroS))[j]? = (Stp.cs zeroS)[j % 2]? := by rw [show scells (List.replicate n zeroS) = (List.replicate n zeroS).flatMap Stp.cs from rfl, ha, List.getElem_replicate]
    rw [List.getElem?_eq_getElem (by rw [scells_length, List.length_replicate]; omega)] at hb
    simp only [madeCells, e, Array.toList_map, List.getElem_map]
    rcases hj with h | h
    · rw [h] at hb
      simp [h]
      exact (Option.some.inj hb).symm
    · rw [h] at hb
      simp [h]
      exact (Option.some.inj hb).symm
end Go.Proofs.Ytmaagihfjldgeaa
