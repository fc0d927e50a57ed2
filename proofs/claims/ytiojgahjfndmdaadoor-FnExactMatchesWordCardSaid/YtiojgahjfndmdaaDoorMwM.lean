/- Matching by sets of places, in memory: what the memory of found sets holds, the word, what is shown of the matcher's methods. -/
import Derived.Test.YtiojgahjfndmdaaDoorMemo
import Derived.Test.YtiojgahjfndmdaaDoorEnM
import Derived.Test.YtiojgahjfndmdaaDoorTap
import Derived.Test.YtiojgahjfndmdaaDoorK0
namespace Go.Proofs.YtiojgahjfndmdaaDoor
set_option maxRecDepth 100000
open Go.ChangeShapes Go.WideShapes Go.ChangeAt Go.RowKit
set_option linter.unusedVariables false
set_option linter.unusedSimpArgs false

abbrev setQ (w : World) (b : Nat) (o : Obj) : World := { w with heap := w.heap.setIfInBounds b o }
theorem wpList_lookup_msk {w : World} {ops : Array Oper} {rest : List Oper} {o : Oper} {a : Act} {Q : Exit → Act → World → Prop} (hg : o.guard = none) (m x : Operand) (hop : o.op = Op.lookup 107 m x true)
    (b : Nat) (f : Msk → Option Int) (c : Msk) (z : Int) (kn : Bool) (hm : a.eval m = .map (some b)) (hx : a.eval x = mskv c) (hc : NodeAt w c.g) (h : MemoF w b f) (hz : (f c).getD 0 = z) (hkn : (f c).isSome = kn)
    (hK : wpList Tryd.prog ops Q rest (a.put o.dst (.tuple #[.int .i64 z, .bool kn])) w) : wpList Tryd.prog ops Q (o :: rest) a w := by
  refine wpList_plain hg fun K hk => ?_
  have hrun := run_lookup_msk w b f c hc h
  unfold Oper.wp
  simp only [execOp, hop, hm, hx, Sem.run_bind, hrun, Result.andThen_ok, Sem.run_pure]
  rw [hz, hkn]
  exact hk _ _ hK
theorem wpList_mapUpdate_msk {w : World} {ops : Array Oper} {rest : List Oper} {o : Oper} {a : Act} {Q : Exit → Act → World → Prop} (hg : o.guard = none) (m x v : Operand) (hop : o.op = Op.mapUpdate 107 m x v)
    (b : Nat) (f : Msk → Option Int) (c : Msk) (z : Int) (hm : a.eval m = .map (some b)) (hx : a.eval x = mskv c) (hv : a.eval v = .int .i64 z) (hc : NodeAt w c.g) (h : MemoF w b f)
    (hK : ∀ ob, MemoF (setQ w b ob) b (updQ f c z) → wpList Tryd.prog ops Q rest (a.put o.dst undef) (setQ w b ob)) : wpList Tryd.prog ops Q (o :: rest) a w := by
  refine wpList_plain hg fun K hk => ?_
  obtain ⟨ob, hrun, h2⟩ := run_mapUpdate_msk w b f c z hc h
  unfold Oper.wp
  simp only [execOp, hop, hm, hx, hv, Sem.run_bind, hrun, Result.andThen_ok, Sem.run_pure]
  exact hk _ _ (hK ob h2)
/-- A pointer is the tree of one expression alone. -/
theorem TreeAt.unique {w : World} {T : Tr} : ∀ {T' : Tr} {a b a' b' : Nat} {v : Value}, TreeAt w T a b v → TreeAt w T' a' b' v → T = T' := by
  induction T with
  | nil =>
    intro T' a b a' b' v h k
    cases T' with
    | nil => rfl
    | node t l r =>
      obtain ⟨_, g, _, _, _, _, _, _, e, _⟩ := k
      rw [show v = .pointer none from h] at e
      cases e
  | node t l r hl hr =>
    intro T' a b a' b' v h k
    obtain ⟨_, g, lv, rv, _, _, _, _, e, _, hb, _, _, _, _, h1, h2⟩ := h
    cases T' with
    | nil =>
      rw [show v = .pointer none from k] at e
      cases e
    | node t' l' r' =>
      obtain ⟨_, g', lv', rv', _, _, _, _, e', _, hb', _, _, _, _, k1, k2⟩ := k
      rw [e] at e'
      injection e' with e'
      injection e' with e'
      injection e' with e'
      subst e'
      have hcc := Option.some.inj (hb.symm.trans hb')
      injection hcc with hcc
      simp only [Array.mk.injEq, List.cons.injEq, Value.int.injEq, true_and, and_true] at hcc
      obtain ⟨c1, c2, c3, c4, c5, c6⟩ := hcc
      subst c5 c6
      rw [Tok.ext4 c1 c2 c3 c4, hl h1 k1, hr h2 k2]
theorem blk_mapset {w : World} {b k : Nat} {t : TypeId} {cs : Array Value} {es : Array MapEntry} {cl : Nat} (hb : w.heap[b]? = some (.map es cl)) (o : Obj) (h : Blk w k t cs) : Blk (setQ w b o) k t cs := by
  have hne : b ≠ k := by
    intro e; subst e
    have h2 : w.heap[b]? = some (.cells cs t (0, 0)) := h
    rw [hb] at h2; cases h2
  show (w.heap.setIfInBounds b o)[k]? = _
  rw [Array.getElem?_setIfInBounds_ne hne]
  exact h
theorem within_set (w : World) (b : Nat) (o : Obj) : Within b (b + 1) w (setQ w b o) :=
  ⟨rfl, rfl, rfl, by show w.heap.size ≤ (w.heap.setIfInBounds b o).size; simp, fun k _ hn => Array.getElem?_setIfInBounds_ne (by omega)⟩
/-- What the map in block b holds is right: the sets of nodes of trees that lie from lo on and below hi. -/
def MemoOk (W : List Int) (w : World) (b lo hi : Nat) : Prop := ∃ f, MemoF w b f ∧ ∀ k z, f k = some z → ∃ (T : Tr) (i : Nat), T.ok ∧ TreeAt w T lo hi (.pointer (some ⟨k.g, 0, none⟩)) ∧ k.i = (i : Int) ∧ i ≤ W.length ∧ z = ((endT W T i : Nat) : Int)
theorem MemoOk.since {W : List Int} {w w' : World} {b lo hi : Nat} (h : MemoOk W w b lo hi) (k : Since w w') : MemoOk W w' b lo hi := by
  obtain ⟨f, h1, h2⟩ := h
  exact ⟨f, h1.since k, fun q z hq => by obtain ⟨T, i, a, c, d⟩ := h2 q z hq; exact ⟨T, i, a, c.since k, d⟩⟩
theorem MemoOk.lt {W : List Int} {w : World} {b lo hi : Nat} (h : MemoOk W w b lo hi) : b < w.heap.size := by obtain ⟨f, h1, _⟩ := h; exact h1.lt
theorem MemoF.isMap {w : World} {b : Nat} {f : Msk → Option Int} (h : MemoF w b f) : ∃ es cl, w.heap[b]? = some (.map es cl) := by obtain ⟨es, cl, M, hb, _⟩ := h; exact ⟨es, cl, hb⟩
theorem MemoOk.made {W : List Int} (w : World) (lo hi : Nat) : MemoOk W (w.alloc (.map #[] 0)) w.heap.size lo hi := ⟨_, MemoF.made w, fun k z h => by cases h⟩
theorem node_of {w : World} {T : Tr} {a b : Nat} {g : Nat} (h : TreeAt w T a b (.pointer (some ⟨g, 0, none⟩))) : NodeAt w g := by
  cases T with
  | nil => cases (show Value.pointer (some ⟨g, 0, none⟩) = .pointer none from h)
  | node t l r =>
    obtain ⟨_, g', lv, rv, _, _, _, _, e, _, hb, _⟩ := h
    injection e with e; injection e with e; injection e with e
    subst e
    exact ⟨_, hb⟩
/-- A set that was found is written down. -/
theorem MemoOk.put {W : List Int} {w : World} {b lo hi : Nat} {f : Msk → Option Int} (h1 : MemoF w b f) (h2 : ∀ k z, f k = some z → ∃ (T : Tr) (i : Nat), T.ok ∧ TreeAt w T lo hi (.pointer (some ⟨k.g, 0, none⟩)) ∧ k.i = (i : Int) ∧ i ≤ W.length ∧ z = ((endT W T i : Nat) : Int))
    {T : Tr} {g i : Nat} (hT : T.ok) (ht : TreeAt w T lo hi (.pointer (some ⟨g, 0, none⟩))) (hi2 : i ≤ W.length) (o : Obj) (h3 : MemoF (setQ w b o) b (updQ f ⟨g, i⟩ ((endT W T i : Nat) : Int))) : MemoOk W (setQ w b o) b lo hi := by
  obtain ⟨es, cl, hb⟩ := h1.isMap
  have hk : ∀ {U : Tr} {a c : Nat} {v : Value}, TreeAt w U a c v → TreeAt (setQ w b o) U a c v := fun hu => hu.of fun k cs _ _ hq => blk_mapset hb o hq
  refine ⟨_, h3, fun k z hz => ?_⟩
  unfold updQ at hz
  split at hz
  · rename_i e
    subst e
    exact ⟨T, i, hT, hk ht, rfl, hi2, (Option.some.inj hz).symm⟩
  · obtain ⟨U, j, a, c, d⟩ := h2 k z hz
    exact ⟨U, j, a, hk c, d⟩
/-- The word, which lies below block b. -/
def WrdAt (w : World) (b : Nat) (v : Value) (W : List Int) : Prop := ∃ ao cap, v = .slice ao W.length cap ∧ Hid (∀ i (h : i < W.length), ∃ k off, ao = some ⟨k, off, none⟩ ∧ k < b ∧ k < w.heap.size ∧ w.cell? ⟨k, off + i, none⟩ = some (.int .i64 W[i]))
theorem WrdAt.of {w : World} {b : Nat} {v : Value} {W : List Int} (h : IntsAt w v W) (hb : w.heap.size ≤ b) : WrdAt w b v W := by
  obtain ⟨ao, cap, e, hc⟩ := h.row
  refine ⟨ao, cap, e, fun i hi => ?_⟩
  obtain ⟨k, off, e, hk, hc⟩ := hc.out i hi
  exact ⟨k, off, e, by omega, hk, hc⟩
theorem cell_of_block {w w' : World} {k o : Nat} (h : w'.heap[k]? = w.heap[k]?) : w'.cell? ⟨k, o, none⟩ = w.cell? ⟨k, o, none⟩ := by simp [World.cell?, h]
theorem WrdAt.within {w w' : World} {b c : Nat} {v : Value} {W : List Int} (h : WrdAt w b v W) (k : Within b c w w') : WrdAt w' b v W := by
  obtain ⟨ao, cap, e, hc⟩ := h
  refine ⟨ao, cap, e, fun i hi => ?_⟩
  obtain ⟨j, off, e, h1, h2, hc⟩ := hc.out i hi
  exact ⟨j, off, e, h1, Nat.lt_of_lt_of_le h2 k.size, (cell_of_block (k.block j h2 (.inl h1))).trans hc⟩
theorem WrdAt.since {w w' : World} {b : Nat} {v : Value} {W : List Int} (h : WrdAt w b v W) (k : Since w w') : WrdAt w' b v W := h.within (c := b) (Within.of_since k)
/-- What a method of the matcher answers: a set; the memory of found sets alone is turned. -/
def EndOut (W : List Int) (b lo hi : Nat) (w : World) (z : Nat) (e : Ending) (w' : World) : Prop := e = .returned (.int .i64 ((z : Nat) : Int)) ∧ MemoOk W w' b lo hi ∧ Within b (b + 1) w w'
/-- What is shown, by trees, of endsFrom, findEnds, endsFromAll and repeatedEnds. -/
def FromC (W : List Int) (T : Tr) : Prop := ∀ (b lo hi a0 b0 : Nat) (wv v : Value) (i : Nat) (w : World), T.ok → lo ≤ a0 → b0 ≤ hi → hi ≤ b → TreeAt w T a0 b0 v → MemoOk W w b lo hi → WrdAt w b wv W → i ≤ W.length →
  Calls Tryd.prog 102 #[.agg #[wv, .map (some b)], v, .int .i64 (i : Int)] w (EndOut W b lo hi w (endT W T i))
def FindC (W : List Int) (T : Tr) : Prop := ∀ (b lo hi a0 b0 : Nat) (wv v : Value) (i : Nat) (w : World), T.ok → lo ≤ a0 → b0 ≤ hi → hi ≤ b → TreeAt w T a0 b0 v → MemoOk W w b lo hi → WrdAt w b wv W → i ≤ W.length →
  Calls Tryd.prog 118 #[.agg #[wv, .map (some b)], v, .int .i64 (i : Int)] w (EndOut W b lo hi w (endT W T i))
def AllC (W : List Int) (T : Tr) : Prop := ∀ (b lo hi a0 b0 : Nat) (wv v : Value) (S : Nat) (w : World), T.ok → lo ≤ a0 → b0 ≤ hi → hi ≤ b → TreeAt w T a0 b0 v → MemoOk W w b lo hi → WrdAt w b wv W → S < 512 →
  Calls Tryd.prog 123 #[.agg #[wv, .map (some b)], v, .int .i64 (S : Int)] w (EndOut W b lo hi w (allE (endT W T) S (W.length + 1)))
def RepC (W : List Int) (T : Tr) : Prop := ∀ (b lo hi a0 b0 : Nat) (wv v : Value) (i low high : Nat) (w : World), T.ok → lo ≤ a0 → b0 ≤ hi → hi ≤ b → TreeAt w T a0 b0 v → MemoOk W w b lo hi → WrdAt w b wv W → i ≤ W.length → low ≤ 8 → high ≤ 8 →
  Calls Tryd.prog 124 #[.agg #[wv, .map (some b)], v, .int .i64 (i : Int), .int .i64 (low : Int), .int .i64 (high : Int)] w (EndOut W b lo hi w (setE (endT W T) W.length low i (high + 1)))
theorem or_nat (a b : Nat) (ha : a < 512) (hb : b < 512) : bits .or .i64 (a : Int) (b : Int) = ((a ||| b : Nat) : Int) := i64_or_nat a b (by omega) (by omega)
theorem shl_one (d : Nat) (hd : d < 10) : wrap64 (2 ^ d : Int) = 2 ^ d := by
  have hp : (2 : Nat) ^ d < 2 ^ 10 := Nat.pow_lt_pow_right (by omega) hd
  have e : ((2 : Int) ^ d) = ((2 ^ d : Nat) : Int) := by rw [Int.natCast_pow]; rfl
  rw [e]
  generalize (2 : Nat) ^ d = p at hp
  exact IntWalk.wrap64_in _ (by omega)
theorem pow_cast (d : Nat) : (2 ^ d : Int) = ((2 ^ d : Nat) : Int) := by rw [Int.natCast_pow]; rfl
/-- Is a place in the set? -/
theorem and_zero (S k : Nat) (hS : S < 9223372036854775808) (hk : k < 10) : (bits .and .i64 (S : Int) (2 ^ k) == 0) = !S.testBit k := by
  have hp : (2 : Nat) ^ k < 2 ^ 10 := Nat.pow_lt_pow_right (by omega) hk
  have e := i64_and_nat S (2 ^ k) hS (by omega)
  rw [pow_cast, e, Bool.eq_iff_iff]
  simp only [beq_iff_eq, Bool.not_eq_true']
  constructor
  · intro h
    have h0 : S &&& 2 ^ k = 0 := by omega
    have := congrArg (·.testBit k) h0
    simpa [Nat.testBit_and, Nat.testBit_two_pow] using this
  · intro h
    have h0 : S &&& 2 ^ k = 0 := by
      apply Nat.eq_of_testBit_eq
      intro j
      rw [Nat.testBit_and, Nat.testBit_two_pow]
      by_cases e : k = j
      · subst e; simp [h]
      · simp [e]
    rw [h0]; rfl
end Go.Proofs.YtiojgahjfndmdaaDoor
