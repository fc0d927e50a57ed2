/- MwM, MwF, MwA, MwN, MwP: small words and contracts that the other texts use. -/
import Derived.Test.YtiojgahjfndmdaaDoorL0
import Derived.Test.YtiojgahjfndmdaaDoorTap
import Derived.Test.YtiojgahjfndmdaaDoorK0
import Derived.Deep.DeepCutAuto
import Derived.Test.YtiojgahjfndmdaaDoorL1
import Derived.Test.YtiojgahjfndmdaaDoorK1
import Derived.Test.YtiojgahjfndmdaaDoorIx
/- Matching by sets of places, in memory: what the memory of found sets holds, the word, what is shown of the matcher's methods. -/
namespace Go.Proofs.YtiojgahjfndmdaaDoor
set_option maxRecDepth 100000
open Go.ChangeShapes Go.WideShapes Go.ChangeAt Go.RowKit
set_option linter.unusedVariables false
set_option linter.unusedSimpArgs false

abbrev setQ (w : World) (b : Nat) (o : Obj) : World := { w with heap := w.heap.setIfInBounds b o }
theorem wpList_lookup_msk {w : World} {ops : Array Oper} {rest : List Oper} {o : Oper} {a : Act} {Q : Exit → Act → World → Prop} (hg : o.guard = none) (m x : Operand) (hop : o.op = Op.lookup 107 m x true)
    (b : Nat) (f : Msk → Option Int) (c : Msk) (z : Int) (kn : Bool) (hm : a.eval m = .map (some b)) (hx : a.eval x = mskv c) (hc : NodeAt w c.g) (h : MemoF w b f) (hz : (f c).getD 0 = z) (hkn : (f c).isSome = kn)
    (hK : wpList Tryd.prog ops Q rest (a.put o.dst (.tuple #[.int .i64 z, .bool kn])) w) : wpList Tryd.prog ops Q (o :: rest) a w := by
  refine wpList_plain hg fun K hk => ?_
  have hrun := run_lookup_msk w b f c hc h
  unfold Oper.wp
  simp only [execOp, hop, hm, hx, Sem.run_bind, hrun, Result.andThen_ok, Sem.run_pure]
  rw [hz, hkn]
  exact hk _ _ hK
theorem wpList_mapUpdate_msk {w : World} {ops : Array Oper} {rest : List Oper} {o : Oper} {a : Act} {Q : Exit → Act → World → Prop} (hg : o.guard = none) (m x v : Operand) (hop : o.op = Op.mapUpdate 107 m x v)
    (b : Nat) (f : Msk → Option Int) (c : Msk) (z : Int) (hm : a.eval m = .map (some b)) (hx : a.eval x = mskv c) (hv : a.eval v = .int .i64 z) (hc : NodeAt w c.g) (h : MemoF w b f)
    (hK : ∀ ob, MemoF (setQ w b ob) b (updQ f c z) → wpList Tryd.prog ops Q rest (a.put o.dst undef) (setQ w b ob)) : wpList Tryd.prog ops Q (o :: rest) a w := by
  refine wpList_plain hg fun K hk => ?_
  obtain ⟨ob, hrun, h2⟩ := run_mapUpdate_msk w b f c z hc h
  unfold Oper.wp
  simp only [execOp, hop, hm, hx, hv, Sem.run_bind, hrun, Result.andThen_ok, Sem.run_pure]
  exact hk _ _ (hK ob h2)
/-- A pointer is the tree of one expression alone. -/
theorem TreeAt.unique {w : World} {T : Tr} : ∀ {T' : Tr} {a b a' b' : Nat} {v : Value}, TreeAt w T a b v → TreeAt w T' a' b' v → T = T' := by
  induction T with
  | nil =>
    intro T' a b a' b' v h k
    cases T' with
    | nil => rfl
    | node t l r =>
      obtain ⟨_, g, _, _, _, _, _, _, e, _⟩ := k
      rw [show v = .pointer none from h] at e
      cases e
  | node t l r hl hr =>
    intro T' a b a' b' v h k
    obtain ⟨_, g, lv, rv, _, _, _, _, e, _, hb, _, _, _, _, h1, h2⟩ := h
    cases T' with
    | nil =>
      rw [show v = .pointer none from k] at e
      cases e
    | node t' l' r' =>
      obtain ⟨_, g', lv', rv', _, _, _, _, e', _, hb', _, _, _, _, k1, k2⟩ := k
      rw [e] at e'
      injection e' with e'
      injection e' with e'
      injection e' with e'
      subst e'
      have hcc := Option.some.inj (hb.symm.trans hb')
      injection hcc with hcc
      simp only [Array.mk.injEq, List.cons.injEq, Value.int.injEq, true_and, and_true] at hcc
      obtain ⟨c1, c2, c3, c4, c5, c6⟩ := hcc
      subst c5 c6
      rw [Tok.ext4 c1 c2 c3 c4, hl h1 k1, hr h2 k2]
theorem blk_mapset {w : World} {b k : Nat} {t : TypeId} {cs : Array Value} {es : Array MapEntry} {cl : Nat} (hb : w.heap[b]? = some (.map es cl)) (o : Obj) (h : Blk w k t cs) : Blk (setQ w b o) k t cs := by
  have hne : b ≠ k := by
    intro e; subst e
    have h2 : w.heap[b]? = some (.cells cs t (0, 0)) := h
    rw [hb] at h2; cases h2
  show (w.heap.setIfInBounds b o)[k]? = _
  rw [Array.getElem?_setIfInBounds_ne hne]
  exact h
theorem within_set (w : World) (b : Nat) (o : Obj) : Within b (b + 1) w (setQ w b o) :=
  ⟨rfl, rfl, rfl, by show w.heap.size ≤ (w.heap.setIfInBounds b o).size; simp, fun k _ hn => Array.getElem?_setIfInBounds_ne (by omega)⟩
/-- What the map in block b holds is right: the sets of nodes of trees that lie from lo on and below hi. -/
def MemoOk (W : List Int) (w : World) (b lo hi : Nat) : Prop := ∃ f, MemoF w b f ∧ ∀ k z, f k = some z → ∃ (T : Tr) (i : Nat), T.ok ∧ TreeAt w T lo hi (.pointer (some ⟨k.g, 0, none⟩)) ∧ k.i = (i : Int) ∧ i ≤ W.length ∧ z = ((endT W T i : Nat) : Int)
theorem MemoOk.since {W : List Int} {w w' : World} {b lo hi : Nat} (h : MemoOk W w b lo hi) (k : Since w w') : MemoOk W w' b lo hi := by
  obtain ⟨f, h1, h2⟩ := h
  exact ⟨f, h1.since k, fun q z hq => by obtain ⟨T, i, a, c, d⟩ := h2 q z hq; exact ⟨T, i, a, c.since k, d⟩⟩
theorem MemoOk.lt {W : List Int} {w : World} {b lo hi : Nat} (h : MemoOk W w b lo hi) : b < w.heap.size := by obtain ⟨f, h1, _⟩ := h; exact h1.lt
theorem MemoF.isMap {w : World} {b : Nat} {f : Msk → Option Int} (h : MemoF w b f) : ∃ es cl, w.heap[b]? = some (.map es cl) := by obtain ⟨es, cl, M, hb, _⟩ := h; exact ⟨es, cl, hb⟩
theorem MemoOk.made {W : List Int} (w : World) (lo hi : Nat) : MemoOk W (w.alloc (.map #[] 0)) w.heap.size lo hi := ⟨_, MemoF.made w, fun k z h => by cases h⟩
theorem node_of {w : World} {T : Tr} {a b : Nat} {g : Nat} (h : TreeAt w T a b (.pointer (some ⟨g, 0, none⟩))) : NodeAt w g := by
  cases T with
  | nil => cases (show Value.pointer (some ⟨g, 0, none⟩) = .pointer none from h)
  | node t l r =>
    obtain ⟨_, g', lv, rv, _, _, _, _, e, _, hb, _⟩ := h
    injection e with e; injection e with e; injection e with e
    subst e
    exact ⟨_, hb⟩
/-- A set that was found is written down. -/
theorem MemoOk.put {W : List Int} {w : World} {b lo hi : Nat} {f : Msk → Option Int} (h1 : MemoF w b f) (h2 : ∀ k z, f k = some z → ∃ (T : Tr) (i : Nat), T.ok ∧ TreeAt w T lo hi (.pointer (some ⟨k.g, 0, none⟩)) ∧ k.i = (i : Int) ∧ i ≤ W.length ∧ z = ((endT W T i : Nat) : Int))
    {T : Tr} {g i : Nat} (hT : T.ok) (ht : TreeAt w T lo hi (.pointer (some ⟨g, 0, none⟩))) (hi2 : i ≤ W.length) (o : Obj) (h3 : MemoF (setQ w b o) b (updQ f ⟨g, i⟩ ((endT W T i : Nat) : Int))) : MemoOk W (setQ w b o) b lo hi := by
  obtain ⟨es, cl, hb⟩ := h1.isMap
  have hk : ∀ {U : Tr} {a c : Nat} {v : Value}, TreeAt w U a c v → TreeAt (setQ w b o) U a c v := fun hu => hu.of fun k cs _ _ hq => blk_mapset hb o hq
  refine ⟨_, h3, fun k z hz => ?_⟩
  unfold updQ at hz
  split at hz
  · rename_i e
    subst e
    exact ⟨T, i, hT, hk ht, rfl, hi2, (Option.some.inj hz).symm⟩
  · obtain ⟨U, j, a, c, d⟩ := h2 k z hz
    exact ⟨U, j, a, hk c, d⟩
/-- The word, which lies below block b. -/
def WrdAt (w : World) (b : Nat) (v : Value) (W : List Int) : Prop := ∃ ao cap, v = .slice ao W.length cap ∧ Hid (∀ i (h : i < W.length), ∃ k off, ao = some ⟨k, off, none⟩ ∧ k < b ∧ k < w.heap.size ∧ w.cell? ⟨k, off + i, none⟩ = some (.int .i64 W[i]))
theorem WrdAt.of {w : World} {b : Nat} {v : Value} {W : List Int} (h : IntsAt w v W) (hb : w.heap.size ≤ b) : WrdAt w b v W := by
  obtain ⟨ao, cap, e, hc⟩ := h.row
  refine ⟨ao, cap, e, fun i hi => ?_⟩
  obtain ⟨k, off, e, hk, hc⟩ := hc.out i hi
  exact ⟨k, off, e, by omega, hk, hc⟩
theorem cell_of_block {w w' : World} {k o : Nat} (h : w'.heap[k]? = w.heap[k]?) : w'.cell? ⟨k, o, none⟩ = w.cell? ⟨k, o, none⟩ := by simp [World.cell?, h]
theorem WrdAt.within {w w' : World} {b c : Nat} {v : Value} {W : List Int} (h : WrdAt w b v W) (k : Within b c w w') : WrdAt w' b v W := by
  obtain ⟨ao, cap, e, hc⟩ := h
  refine ⟨ao, cap, e, fun i hi => ?_⟩
  obtain ⟨j, off, e, h1, h2, hc⟩ := hc.out i hi
  exact ⟨j, off, e, h1, Nat.lt_of_lt_of_le h2 k.size, (cell_of_block (k.block j h2 (.inl h1))).trans hc⟩
theorem WrdAt.since {w w' : World} {b : Nat} {v : Value} {W : List Int} (h : WrdAt w b v W) (k : Since w w') : WrdAt w' b v W := h.within (c := b) (Within.of_since k)
/-- What a method of the matcher answers: a set; the memory of found sets alone is turned. -/
def EndOut (W : List Int) (b lo hi : Nat) (w : World) (z : Nat) (e : Ending) (w' : World) : Prop := e = .returned (.int .i64 ((z : Nat) : Int)) ∧ MemoOk W w' b lo hi ∧ Within b (b + 1) w w'
/-- What is shown, by trees, of endsFrom, findEnds, endsFromAll and repeatedEnds. -/
def FromC (W : List Int) (T : Tr) : Prop := ∀ (b lo hi a0 b0 : Nat) (wv v : Value) (i : Nat) (w : World), T.ok → lo ≤ a0 → b0 ≤ hi → hi ≤ b → TreeAt w T a0 b0 v → MemoOk W w b lo hi → WrdAt w b wv W → i ≤ W.length →
  Calls Tryd.prog 102 #[.agg #[wv, .map (some b)], v, .int .i64 (i : Int)] w (EndOut W b lo hi w (endT W T i))
def FindC (W : List Int) (T : Tr) : Prop := ∀ (b lo hi a0 b0 : Nat) (wv v : Value) (i : Nat) (w : World), T.ok → lo ≤ a0 → b0 ≤ hi → hi ≤ b → TreeAt w T a0 b0 v → MemoOk W w b lo hi → WrdAt w b wv W → i ≤ W.length →
  Calls Tryd.prog 118 #[.agg #[wv, .map (some b)], v, .int .i64 (i : Int)] w (EndOut W b lo hi w (endT W T i))
def AllC (W : List Int) (T : Tr) : Prop := ∀ (b lo hi a0 b0 : Nat) (wv v : Value) (S : Nat) (w : World), T.ok → lo ≤ a0 → b0 ≤ hi → hi ≤ b → TreeAt w T a0 b0 v → MemoOk W w b lo hi → WrdAt w b wv W → S < 512 →
  Calls Tryd.prog 123 #[.agg #[wv, .map (some b)], v, .int .i64 (S : Int)] w (EndOut W b lo hi w (allE (endT W T) S (W.length + 1)))
def RepC (W : List Int) (T : Tr) : Prop := ∀ (b lo hi a0 b0 : Nat) (wv v : Value) (i low high : Nat) (w : World), T.ok → lo ≤ a0 → b0 ≤ hi → hi ≤ b → TreeAt w T a0 b0 v → MemoOk W w b lo hi → WrdAt w b wv W → i ≤ W.length → low ≤ 8 → high ≤ 8 →
  Calls Tryd.prog 124 #[.agg #[wv, .map (some b)], v, .int .i64 (i : Int), .int .i64 (low : Int), .int .i64 (high : Int)] w (EndOut W b lo hi w (setE (endT W T) W.length low i (high + 1)))
theorem or_nat (a b : Nat) (ha : a < 512) (hb : b < 512) : bits .or .i64 (a : Int) (b : Int) = ((a ||| b : Nat) : Int) := i64_or_nat a b (by omega) (by omega)
theorem shl_one (d : Nat) (hd : d < 10) : wrap64 (2 ^ d : Int) = 2 ^ d := by
  have hp : (2 : Nat) ^ d < 2 ^ 10 := Nat.pow_lt_pow_right (by omega) hd
  have e : ((2 : Int) ^ d) = ((2 ^ d : Nat) : Int) := by rw [Int.natCast_pow]; rfl
  rw [e]
  generalize (2 : Nat) ^ d = p at hp
  exact IntWalk.wrap64_in _ (by omega)
theorem pow_cast (d : Nat) : (2 ^ d : Int) = ((2 ^ d : Nat) : Int) := by rw [Int.natCast_pow]; rfl
/-- Is a place in the set? -/
theorem and_zero (S k : Nat) (hS : S < 9223372036854775808) (hk : k < 10) : (bits .and .i64 (S : Int) (2 ^ k) == 0) = !S.testBit k := by
  have hp : (2 : Nat) ^ k < 2 ^ 10 := Nat.pow_lt_pow_right (by omega) hk
  have e := i64_and_nat S (2 ^ k) hS (by omega)
  rw [pow_cast, e, Bool.eq_iff_iff]
  simp only [beq_iff_eq, Bool.not_eq_true']
  constructor
  · intro h
    have h0 : S &&& 2 ^ k = 0 := by omega
    have := congrArg (·.testBit k) h0
    simpa [Nat.testBit_and, Nat.testBit_two_pow] using this
  · intro h
    have h0 : S &&& 2 ^ k = 0 := by
      apply Nat.eq_of_testBit_eq
      intro j
      rw [Nat.testBit_and, Nat.testBit_two_pow]
      by_cases e : k = j
      · subst e; simp [h]
      · simp [e]
    rw [h0]; rfl
end Go.Proofs.YtiojgahjfndmdaaDoor

/- endsFrom, out of findEnds. -/
namespace Go.Proofs.YtiojgahjfndmdaaDoor
set_option maxRecDepth 100000
open Go.ChangeShapes Go.WideShapes Go.ChangeAt Go.RowKit
set_option linter.unusedVariables false
set_option linter.unusedSimpArgs false

set_option maxHeartbeats 2000000 in
set_option maxRecDepth 100000 in
theorem from_of (W : List Int) (T : Tr) (hW : W.length ≤ 8) (H : FindC W T) : FromC W T := by
  intro b lo hi a0 b0 wv v i w hok ha hb hhb ht hm hw hiW
  have HTW := Lib.hid (ht.wider ha hb)
  have HT := Lib.hid ht
  have HWD := Lib.hid hw
  have HM := Lib.hid hm
  have HOK := Lib.hid hok
  obtain ⟨g, rfl⟩ : ∃ g, v = .pointer (some ⟨g, 0, none⟩) := by
    cases T with
    | nil => exact hok.elim
    | node t l r => obtain ⟨_, g, _, _, _, _, _, _, e, _⟩ := ht; exact ⟨g, e⟩
  obtain ⟨wo, wc, rfl, _⟩ := hw
  obtain ⟨n, hn⟩ : ∃ n, n = W.length := ⟨_, rfl⟩
  rw [← hn] at HWD ⊢
  clear hn
  have hbw := hm.lt
  obtain ⟨f, hf, hfs⟩ := hm
  clear hok ht
  have al : Since w ((w.alloc (.cells #[.slice wo n wc, .map (some b)] 109)).alloc (.cells #[.pointer (some ⟨g, 0, none⟩), .int .i64 (i : Int)] 126)) := ((Since.refl w).alloc _).alloc _
  have HF := Lib.hid (hf.since al)
  have HNO := Lib.hid ((node_of HT.out).since al)
  have BM : Hid (Blk ((w.alloc (.cells #[.slice wo n wc, .map (some b)] 109)).alloc (.cells #[.pointer (some ⟨g, 0, none⟩), .int .i64 (i : Int)] 126)) w.heap.size 109 #[.slice wo n wc, .map (some b)]) := (Blk.new rfl _ _).alloc _
  have BP : Hid (Blk ((w.alloc (.cells #[.slice wo n wc, .map (some b)] 109)).alloc (.cells #[.pointer (some ⟨g, 0, none⟩), .int .i64 (i : Int)] 126)) (w.heap.size + 1) 126 #[.pointer (some ⟨g, 0, none⟩), .int .i64 (i : Int)]) := Blk.new (by simp) _ _
  have HAL := Lib.hid al
  cases hk : f ⟨g, i⟩ with
  | some z =>
    have HZ : Hid (z = ((endT W T i : Nat) : Int)) := by
      obtain ⟨U, j, _, hu, hj, _, hz⟩ := hfs _ _ hk
      have e1 := HTW.out.unique hu
      have e2 : i = j := by have : (i : Int) = (j : Int) := hj; omega
      subst e1 e2
      exact hz
    have HK1 : Hid ((f ⟨g, i⟩).getD 0 = z) := by unfold Hid; rw [hk]; rfl
    have HK2 : Hid ((f ⟨g, i⟩).isSome = true) := by unfold Hid; rw [hk]; rfl
    clear hk hfs hf al
    go_enter Tryd.func102, Tryd.ntmps102
    go_wp2_with (at_lookup; go_must (refine wpList_lookup_msk rfl (.tmp 15) (.tmp 16) rfl b f ⟨g, i⟩ z true rfl rfl HNO.out HF.out HK1.out HK2.out ?_))
    go_ret
    exact ⟨ret_int HZ.out, HM.out.since HAL.out, Within.of_since HAL.out⟩
  | none =>
    have HK1 : Hid ((f ⟨g, i⟩).getD 0 = 0) := by unfold Hid; rw [hk]; rfl
    have HK2 : Hid ((f ⟨g, i⟩).isSome = false) := by unfold Hid; rw [hk]; rfl
    clear hk hfs hf al
    obtain ⟨y, hy⟩ : ∃ y, y = (w.alloc (.cells #[.slice wo n wc, .map (some b)] 109)).alloc (.cells #[.pointer (some ⟨g, 0, none⟩), .int .i64 (i : Int)] 126) := ⟨_, rfl⟩
    have HY := Lib.hid hy
    go_enter Tryd.func102, Tryd.ntmps102
    clear hy
    go_wp2_with (at_lookup; go_must (refine wpList_lookup_msk rfl (.tmp 15) (.tmp 16) rfl b f ⟨g, i⟩ 0 false rfl rfl HNO.out HF.out HK1.out HK2.out ?_))
    rw [← HY.out]
    rw [← HY.out] at HAL BM BP HF HNO
    refine (H b lo hi a0 b0 _ _ i y HOK.out ha hb hhb (HT.out.since HAL.out) (HM.out.since HAL.out) (HWD.out.since HAL.out) hiW).mono ?_
    rintro e w3 ⟨rfl, hm3, hw3⟩
    obtain ⟨f3, hf3, hfs3⟩ := hm3
    have HF3 := Lib.hid hf3
    have HS3 := Lib.hid hfs3
    have HW3 := Lib.hid hw3
    have HT3 := Lib.hid ((HTW.out.since HAL.out).within hw3 (.inl hhb))
    have HN3 := Lib.hid (node_of HT3.out)
    have hzy : w.heap.size + 1 < y.heap.size := BP.out.lt
    obtain ⟨p0, p1, _, _⟩ := (BM.out.within hw3 (by omega)).two
    obtain ⟨q0, q1, _, _⟩ := (BP.out.within hw3 (by omega)).two
    clear hf3 hfs3 hw3
    obtain ⟨z, hz⟩ : ∃ z, z = endT W T i := ⟨_, rfl⟩
    rw [← hz]
    have HZ := Lib.hid hz
    clear hz
    go_wp2_with (refine wpList_mapUpdate_msk (o := ⟨none, _, _, _, _, _⟩) rfl (.tmp 27) (.tmp 28) (.tmp 29) rfl b f3 ⟨g, i⟩ (z : Int) rfl rfl rfl HN3.out HF3.out ?_; intro ob hMF; have HMF := Lib.hid hMF; clear hMF p0 p1 q0 q1)
    go_ret
    refine ⟨ret_int (by rw [HZ.out]), ?_, ((Within.of_since HAL.out).trans HW3.out).trans (within_set _ _ _)⟩
    exact MemoOk.put HF3.out HS3.out HOK.out HT3.out hiW ob (by rw [← HZ.out]; exact HMF.out)
end Go.Proofs.YtiojgahjfndmdaaDoor

/- endsFromAll and repeatedEnds, out of endsFrom. -/
namespace Go.Proofs.YtiojgahjfndmdaaDoor
set_option maxRecDepth 100000
open Go.ChangeShapes Go.WideShapes Go.ChangeAt Go.RowKit
set_option linter.unusedVariables false
set_option linter.unusedSimpArgs false

theorem end_lt {W : List Int} {T : Tr} (hW : W.length ≤ 8) (h : T.ok) {i : Nat} (hi : i ≤ W.length) : endT W T i < 512 :=
  Nat.lt_of_lt_of_le (endT_lt W h hi) (Nat.pow_le_pow_right (n := 2) (by omega) (by omega : W.length + 1 ≤ 9))
theorem all_lt {W : List Int} {T : Tr} (hW : W.length ≤ 8) (h : T.ok) (S k : Nat) (hk : k ≤ W.length + 1) : allE (endT W T) S k < 512 :=
  allE_lt (N := 9) (fun s hs => end_lt hW h (by omega))
theorem rch_lt {W : List Int} {T : Tr} (hW : W.length ≤ 8) (h : T.ok) {i : Nat} (hi : i ≤ W.length) (k : Nat) : rchE (endT W T) W.length i k < 512 :=
  Nat.lt_of_lt_of_le (rchE_lt hi (fun s hs => endT_lt W h hs) k) (Nat.pow_le_pow_right (n := 2) (by omega) (by omega : W.length + 1 ≤ 9))
theorem set_lt {W : List Int} {T : Tr} (hW : W.length ≤ 8) (h : T.ok) {i : Nat} (hi : i ≤ W.length) (low k : Nat) : setE (endT W T) W.length low i k < 512 :=
  Nat.lt_of_lt_of_le (setE_lt hi (fun s hs => endT_lt W h hs) k) (Nat.pow_le_pow_right (n := 2) (by omega) (by omega : W.length + 1 ≤ 9))
set_option maxHeartbeats 2000000 in
set_option maxRecDepth 100000 in
theorem all_of (W : List Int) (T : Tr) (hW : W.length ≤ 8) (H : FromC W T) : AllC W T := by
  intro b lo hi a0 b0 wv v S w hok ha hb hhb ht hm hw hS
  have HT := Lib.hid ht
  have HWD := Lib.hid hw
  have HM := Lib.hid hm
  have HOK := Lib.hid hok
  have hbw := hm.lt
  obtain ⟨pv, rfl⟩ := ht.isPtr
  obtain ⟨wo, wc, rfl, _⟩ := hw
  obtain ⟨n, hn⟩ : ∃ n, n = W.length := ⟨_, rfl⟩
  rw [← hn] at HWD hW ⊢
  have HN := Lib.hid hn
  clear hn hok ht hm
  obtain ⟨y, hy⟩ : ∃ y, y = w.alloc (.cells #[.slice wo n wc, .map (some b)] 109) := ⟨_, rfl⟩
  have al : Since w y := by rw [hy]; exact (Since.refl w).alloc _
  have BM : Hid (Blk y w.heap.size 109 #[.slice wo n wc, .map (some b)]) := by rw [hy]; exact Blk.new rfl _ _
  have HY := Lib.hid hy
  obtain ⟨p0, p1, _, _⟩ := BM.out.two
  rw [hy] at p0 p1
  clear hy
  go_enter Tryd.func123, Tryd.ntmps123
  go_wp2_with fail
  rw [← HY.out]
  clear p0 p1
  go_loopw [7, 13] (fun s i wr => ∃ k : Nat, k ≤ n + 1 ∧ i = .int .i64 k ∧ s = .int .i64 ((allE (endT W T) S k : Nat) : Int) ∧ Hid (MemoOk W wr b lo hi) ∧ Hid (Within b (b + 1) y wr)) (fun _ i _ => n + 1 - (intOf i).toNat)
  case atStart => exact ⟨0, Nat.zero_le _, rfl, rfl, HM.out.since al, Within.refl _ _ _⟩
  case round =>
    obtain ⟨k, hk, rfl, rfl, HMr, HWr⟩ := hrel
    have hAlt := all_lt (by rw [← HN.out]; exact hW) HOK.out S k (by rw [← HN.out]; exact hk)
    by_cases hlt : k < n + 1
    · have hki : (k : Int) < (n : Int) + 1 := by omega
      have hk0 : (0 : Int) ≤ (k : Int) := by omega
      have hk10 : k < 10 := by omega
      have hwp := shl_one k hk10
      have hkW : k ≤ W.length := by rw [← HN.out]; omega
      have HSC := Lib.hid (allE_succ (endT W T) S k)
      have hz := and_zero S k (by omega) hk10
      cases hbit : S.testBit k with
      | true =>
        rw [hbit] at hz
        have hz1 : (bits .and .i64 (S : Int) (2 ^ k) == 0) = false := hz
        have hz2 : (bits .and .i64 (S : Int) (2 ^ k) != 0) = true := by simp only [bne, hz1]; rfl
        have HA1 : Hid (allE (endT W T) S (k + 1) = allE (endT W T) S k ||| endT W T k) := by unfold Hid; rw [HSC.out, if_pos hbit]
        have hEl := end_lt (by rw [← HN.out]; exact hW) HOK.out hkW
        obtain ⟨A, hA⟩ : ∃ A, A = allE (endT W T) S k := ⟨_, rfl⟩
        rw [← hA] at hAlt HA1 ⊢
        obtain ⟨p0, p1, _, _⟩ := (BM.out.within HWr.out (by omega)).two
        clear hz hbit hA
        go_wp2_with fail
        clear p0 p1 hz1 hz2
        refine (H b lo hi a0 b0 _ _ k _ HOK.out ha hb hhb ((HT.out.since al).within HWr.out (by omega)) HMr.out ((HWD.out.since al).within HWr.out) hkW).mono ?_
        rintro e w3 ⟨rfl, hm3, hw3⟩
        have HM3 := Lib.hid hm3
        have HW3 := Lib.hid (HWr.out.trans hw3)
        obtain ⟨E, hE⟩ : ∃ E, E = endT W T k := ⟨_, rfl⟩
        rw [← hE] at hEl HA1 ⊢
        have hor := or_nat A E hAlt hEl
        clear hm3 hw3 hE
        go_wp2
        go_roundw
        case rel => exact ⟨k + 1, by omega, by go_num, by rw [HA1.out], HM3.out, HW3.out⟩
        case measure => simp [intOf]; omega
      | false =>
        rw [hbit] at hz
        have hz1 : (bits .and .i64 (S : Int) (2 ^ k) == 0) = true := hz
        have hz2 : (bits .and .i64 (S : Int) (2 ^ k) != 0) = false := by simp only [bne, hz1]; rfl
        have HA1 : Hid (allE (endT W T) S (k + 1) = allE (endT W T) S k) := by unfold Hid; rw [HSC.out, if_neg (by rw [hbit]; decide)]
        obtain ⟨A, hA⟩ : ∃ A, A = allE (endT W T) S k := ⟨_, rfl⟩
        rw [← hA] at hAlt HA1 ⊢
        clear hz hbit hA
        go_wp2
        go_roundw
        case rel => exact ⟨k + 1, by omega, by go_num, by rw [HA1.out], HMr.out, HWr.out⟩
        case measure => simp [intOf]; omega
    · obtain rfl : k = n + 1 := by omega
      obtain ⟨A, hA⟩ : ∃ A, A = allE (endT W T) S (n + 1) := ⟨_, rfl⟩
      rw [← hA]
      have HA := Lib.hid hA
      clear hA
      go_wp2
      go_ret
      exact ⟨ret_int (by rw [HA.out]), HMr.out, (Within.of_since al).trans HWr.out⟩
set_option maxHeartbeats 2000000 in
set_option maxRecDepth 100000 in
theorem rep_of (W : List Int) (T : Tr) (hW : W.length ≤ 8) (H : AllC W T) : RepC W T := by
  intro b lo hi a0 b0 wv v i low high w hok ha hb hhb ht hm hw hiW hlow hhigh
  have HT := Lib.hid ht
  have HWD := Lib.hid hw
  have HM := Lib.hid hm
  have HOK := Lib.hid hok
  have hbw := hm.lt
  obtain ⟨pv, rfl⟩ := ht.isPtr
  obtain ⟨wo, wc, rfl, _⟩ := hw
  obtain ⟨n, hn⟩ : ∃ n, n = W.length := ⟨_, rfl⟩
  rw [← hn] at HWD hW hiW ⊢
  have HN := Lib.hid hn
  clear hn hok ht hm
  obtain ⟨y, hy⟩ : ∃ y, y = w.alloc (.cells #[.slice wo n wc, .map (some b)] 109) := ⟨_, rfl⟩
  have al : Since w y := by rw [hy]; exact (Since.refl w).alloc _
  have BM : Hid (Blk y w.heap.size 109 #[.slice wo n wc, .map (some b)]) := by rw [hy]; exact Blk.new rfl _ _
  have HY := Lib.hid hy
  have hi10 : i < 10 := by omega
  have hwp := shl_one i hi10
  have hi0 : (0 : Int) ≤ (i : Int) := by omega
  clear hy
  go_enter Tryd.func124, Tryd.ntmps124
  go_upto_region 1 with fail
  go_region
  go_wp2_with fail
  try simp only [hwp]
  have HWP := Lib.hid hwp
  clear hwp
  go_loopw [11, 12, 18] (fun s q j wr => ∃ k : Nat, k ≤ high + 1 ∧ j = .int .i64 k ∧ s = .int .i64 ((setE (endT W T) n low i k : Nat) : Int) ∧ q = .int .i64 ((rchE (endT W T) n i k : Nat) : Int) ∧ Hid (MemoOk W wr b lo hi) ∧ Hid (Within b (b + 1) y wr)) (fun _ _ j _ => high + 1 - (intOf j).toNat)
  case atStart =>
    refine ⟨0, Nat.zero_le _, rfl, rfl, ?_, ?_, ?_⟩
    · show Value.int .i64 _ = .int .i64 (((2 ^ i : Nat)) : Int)
      first | rw [pow_cast] | rw [HWP.out, pow_cast] | rfl
    · unfold Hid; first | exact (HY.out ▸ HM.out.since al) | exact ((HY.out ▸ HM.out.since al : MemoOk W _ b lo hi).since ((Since.refl _).drew))
    · unfold Hid; first | exact (HY.out ▸ Within.refl _ _ _) | exact (HY.out ▸ Within.of_since (Since.refl _).drew)
  case round =>
    obtain ⟨k, hk, rfl, rfl, rfl, HMr, HWr⟩ := hrel
    have hWl : W.length ≤ 8 := by rw [← HN.out]; exact hW
    have hiW2 : i ≤ W.length := by rw [← HN.out]; exact hiW
    have hSl := set_lt hWl HOK.out hiW2 low k
    have hRl := rch_lt hWl HOK.out hiW2 k
    rw [← HN.out] at hSl hRl
    by_cases hlt : k < high + 1
    · have hki : (k : Int) < (high : Int) + 1 := by omega
      have hk0 : (0 : Int) ≤ (k : Int) := by omega
      have HSC := Lib.hid (setE_succ (endT W T) n low i k)
      have HRC : Hid (rchE (endT W T) n i (k + 1) = allE (endT W T) (rchE (endT W T) n i k) (n + 1)) := rfl
      obtain ⟨R, hR⟩ : ∃ R, R = rchE (endT W T) n i k := ⟨_, rfl⟩
      rw [← hR] at hRl HSC HRC ⊢
      obtain ⟨A, hA⟩ : ∃ A, A = setE (endT W T) n low i k := ⟨_, rfl⟩
      rw [← hA] at hSl HSC ⊢
      have hor := or_nat A R hSl hRl
      obtain ⟨p0, p1, _, _⟩ := (BM.out.within HWr.out (by omega)).two
      clear hR hA
      by_cases hlk : low ≤ k
      · have hlki : (low : Int) ≤ (k : Int) := by omega
        have HA1 : Hid (setE (endT W T) n low i (k + 1) = A ||| R) := by unfold Hid; rw [HSC.out, if_pos hlk]
        clear hlk
        go_wp2_with fail
        clear p0 p1 hor
        refine (H b lo hi a0 b0 _ _ R _ HOK.out ha hb hhb ((HT.out.since al).within HWr.out (by omega)) HMr.out ((HWD.out.since al).within HWr.out) hRl).mono ?_
        rintro e w3 ⟨rfl, hm3, hw3⟩
        have HM3 := Lib.hid hm3
        have HW3 := Lib.hid (HWr.out.trans hw3)
        clear hm3 hw3
        rw [← HN.out, ← HRC.out]
        obtain ⟨R2, hR2⟩ : ∃ R2, R2 = rchE (endT W T) n i (k + 1) := ⟨_, rfl⟩
        rw [← hR2]
        have HR2 := Lib.hid hR2
        clear hR2
        go_wp2
        go_roundw
        case rel => exact ⟨k + 1, by omega, by go_num, by rw [HA1.out], by rw [HR2.out], HM3.out, HW3.out⟩
        case measure => simp [intOf]; omega
      · have hlki : ¬ ((low : Int) ≤ (k : Int)) := by omega
        have HA1 : Hid (setE (endT W T) n low i (k + 1) = A) := by unfold Hid; rw [HSC.out, if_neg hlk]
        clear hlk
        go_wp2_with fail
        clear p0 p1 hor
        refine (H b lo hi a0 b0 _ _ R _ HOK.out ha hb hhb ((HT.out.since al).within HWr.out (by omega)) HMr.out ((HWD.out.since al).within HWr.out) hRl).mono ?_
        rintro e w3 ⟨rfl, hm3, hw3⟩
        have HM3 := Lib.hid hm3
        have HW3 := Lib.hid (HWr.out.trans hw3)
        clear hm3 hw3
        rw [← HN.out, ← HRC.out]
        obtain ⟨R2, hR2⟩ : ∃ R2, R2 = rchE (endT W T) n i (k + 1) := ⟨_, rfl⟩
        rw [← hR2]
        have HR2 := Lib.hid hR2
        clear hR2
        go_wp2
        go_roundw
        case rel => exact ⟨k + 1, by omega, by go_num, by rw [HA1.out], by rw [HR2.out], HM3.out, HW3.out⟩
        case measure => simp [intOf]; omega
    · obtain rfl : k = high + 1 := by omega
      obtain ⟨A, hA⟩ : ∃ A, A = setE (endT W T) n low i (high + 1) := ⟨_, rfl⟩
      rw [← hA]
      have HA := Lib.hid hA
      clear hA
      go_wp2
      go_ret
      exact ⟨ret_int (by rw [HA.out]), HMr.out, (Within.of_since al).trans HWr.out⟩
end Go.Proofs.YtiojgahjfndmdaaDoor

/- findEnds by kinds of tokens; the program's matching of words. -/
namespace Go.Proofs.YtiojgahjfndmdaaDoor
set_option maxRecDepth 100000
open Go.ChangeShapes Go.WideShapes Go.ChangeAt Go.RowKit
set_option linter.unusedVariables false
set_option linter.unusedSimpArgs false

set_option maxHeartbeats 4000000 in
set_option maxRecDepth 100000 in
theorem find_none (W : List Int) (lr low high : Int) (l r : Tr) (hW : W.length ≤ 8) : FindC W (.node ⟨1, lr, low, high⟩ l r) := by
  intro b lo hi a0 b0 wv v i w hok ha hb hhb ht hm hw hiW
  obtain ⟨htok, hcase⟩ := hok
  have HWD := Lib.hid hw
  have HM := Lib.hid hm
  have hbw := hm.lt
  obtain ⟨htin, g, lv, rv, a, bb, c, d, rfl, hg, hB, hab, _, _, _, hL, hR⟩ := ht
  have HL := Lib.hid hL
  have HR := Lib.hid hR
  obtain ⟨pl, rfl⟩ := hL.isPtr
  obtain ⟨pr, rfl⟩ := hR.isPtr
  have BX := Lib.hid hB
  rw [opN_of] at hcase
  unfold ncells at BX
  dsimp only at BX
  obtain ⟨wo, wc, rfl, HWC⟩ := hw
  obtain ⟨n, hn⟩ : ∃ n, n = W.length := ⟨_, rfl⟩
  rw [← hn] at HWD hW hiW ⊢
  have HN := Lib.hid hn
  have hgb : g < b := by omega
  clear hn hL hR hm htin
  obtain ⟨y, hy⟩ : ∃ y, y = w.alloc (.cells #[.slice wo n wc, .map (some b)] 109) := ⟨_, rfl⟩
  have al : Since w y := by rw [hy]; exact (Since.refl w).alloc _
  have BM : Hid (Blk y w.heap.size 109 #[.slice wo n wc, .map (some b)]) := by rw [hy]; exact Blk.new rfl _ _
  have BN := Lib.hid (BX.out.since al)
  have HM0 := Lib.hid (HM.out.since al)
  have HY := Lib.hid hy
  have hi0 : (0 : Int) ≤ (i : Int) := by omega
  obtain ⟨⟨x0, x1, x2, x3, x4, x5⟩, _⟩ := BN.out.all6
  rw [hy] at x0 x1 x2 x3 x4 x5
  obtain ⟨m0, m1, _, _⟩ := BM.out.two
  rw [hy] at m0 m1
  clear hy hB
  have HV : Hid (endT W (Tr.node ⟨1, lr, low, high⟩ l r) i = 0) := by unfold Hid; simp [endT]
  go_enter Tryd.func118, Tryd.ntmps118
  go_wp2
  go_ret
  exact ⟨ret_int (by rw [HV.out]; rfl), by first | exact HM0.out | exact (HY.out ▸ HM0.out), by first | exact Within.of_since al | exact (HY.out ▸ Within.of_since al)⟩
set_option maxHeartbeats 4000000 in
set_option maxRecDepth 100000 in
theorem find_empty (W : List Int) (lr low high : Int) (l r : Tr) (hW : W.length ≤ 8) : FindC W (.node ⟨2, lr, low, high⟩ l r) := by
  intro b lo hi a0 b0 wv v i w hok ha hb hhb ht hm hw hiW
  obtain ⟨htok, hcase⟩ := hok
  have HWD := Lib.hid hw
  have HM := Lib.hid hm
  have hbw := hm.lt
  obtain ⟨htin, g, lv, rv, a, bb, c, d, rfl, hg, hB, hab, _, _, _, hL, hR⟩ := ht
  have HL := Lib.hid hL
  have HR := Lib.hid hR
  obtain ⟨pl, rfl⟩ := hL.isPtr
  obtain ⟨pr, rfl⟩ := hR.isPtr
  have BX := Lib.hid hB
  rw [opN_of] at hcase
  unfold ncells at BX
  dsimp only at BX
  obtain ⟨wo, wc, rfl, HWC⟩ := hw
  obtain ⟨n, hn⟩ : ∃ n, n = W.length := ⟨_, rfl⟩
  rw [← hn] at HWD hW hiW ⊢
  have HN := Lib.hid hn
  have hgb : g < b := by omega
  clear hn hL hR hm htin
  obtain ⟨y, hy⟩ : ∃ y, y = w.alloc (.cells #[.slice wo n wc, .map (some b)] 109) := ⟨_, rfl⟩
  have al : Since w y := by rw [hy]; exact (Since.refl w).alloc _
  have BM : Hid (Blk y w.heap.size 109 #[.slice wo n wc, .map (some b)]) := by rw [hy]; exact Blk.new rfl _ _
  have BN := Lib.hid (BX.out.since al)
  have HM0 := Lib.hid (HM.out.since al)
  have HY := Lib.hid hy
  have hi0 : (0 : Int) ≤ (i : Int) := by omega
  obtain ⟨⟨x0, x1, x2, x3, x4, x5⟩, _⟩ := BN.out.all6
  rw [hy] at x0 x1 x2 x3 x4 x5
  obtain ⟨m0, m1, _, _⟩ := BM.out.two
  rw [hy] at m0 m1
  clear hy hB
  have HV : Hid (endT W (Tr.node ⟨2, lr, low, high⟩ l r) i = 2 ^ i) := by unfold Hid; simp [endT]
  have hwp := shl_one i (by omega)
  go_enter Tryd.func118, Tryd.ntmps118
  go_wp2
  go_ret
  exact ⟨ret_int (by rw [HV.out]; rw [Int.natCast_pow]; first | exact hwp | rfl), by first | exact HM0.out | exact (HY.out ▸ HM0.out), by first | exact Within.of_since al | exact (HY.out ▸ Within.of_since al)⟩
set_option maxHeartbeats 4000000 in
set_option maxRecDepth 100000 in
theorem find_letter (W : List Int) (lr low high : Int) (l r : Tr) (hW : W.length ≤ 8) : FindC W (.node ⟨3, lr, low, high⟩ l r) := by
  intro b lo hi a0 b0 wv v i w hok ha hb hhb ht hm hw hiW
  obtain ⟨htok, hcase⟩ := hok
  have HWD := Lib.hid hw
  have HM := Lib.hid hm
  have hbw := hm.lt
  obtain ⟨htin, g, lv, rv, a, bb, c, d, rfl, hg, hB, hab, _, _, _, hL, hR⟩ := ht
  have HL := Lib.hid hL
  have HR := Lib.hid hR
  obtain ⟨pl, rfl⟩ := hL.isPtr
  obtain ⟨pr, rfl⟩ := hR.isPtr
  have BX := Lib.hid hB
  rw [opN_of] at hcase
  unfold ncells at BX
  dsimp only at BX
  obtain ⟨wo, wc, rfl, HWC⟩ := hw
  obtain ⟨n, hn⟩ : ∃ n, n = W.length := ⟨_, rfl⟩
  rw [← hn] at HWD hW hiW ⊢
  have HN := Lib.hid hn
  have hgb : g < b := by omega
  clear hn hL hR hm htin
  obtain ⟨y, hy⟩ : ∃ y, y = w.alloc (.cells #[.slice wo n wc, .map (some b)] 109) := ⟨_, rfl⟩
  have al : Since w y := by rw [hy]; exact (Since.refl w).alloc _
  have BM : Hid (Blk y w.heap.size 109 #[.slice wo n wc, .map (some b)]) := by rw [hy]; exact Blk.new rfl _ _
  have BN := Lib.hid (BX.out.since al)
  have HM0 := Lib.hid (HM.out.since al)
  have HY := Lib.hid hy
  have hi0 : (0 : Int) ≤ (i : Int) := by omega
  obtain ⟨⟨x0, x1, x2, x3, x4, x5⟩, _⟩ := BN.out.all6
  rw [hy] at x0 x1 x2 x3 x4 x5
  obtain ⟨m0, m1, _, _⟩ := BM.out.two
  rw [hy] at m0 m1
  clear hy hB
  by_cases hin : i < n
  · have hini : (i : Int) < (n : Int) := by omega
    have hx : i < W.length := by rw [← HN.out]; exact hin
    obtain ⟨k, off, rfl, hkb, hkw, hc0⟩ := HWC.out i hx
    obtain ⟨c0, hcc⟩ : ∃ c0, c0 = W[i] := ⟨_, rfl⟩
    rw [← hcc] at hc0
    have hcy : y.drew.cell? ⟨k, off + i, none⟩ = some (.int .i64 c0) := (since_cells al hkw _).trans hc0
    have HCC : Hid (W[i]? = some c0) := by unfold Hid; rw [List.getElem?_eq_getElem hx, hcc]
    clear hcc hc0 hin
    have hwp := shl_one (i + 1) (by omega)
    by_cases hlr : c0 = lr
    · have el : (c0 == lr) = true := by simp [hlr]
      have HV : Hid (endT W (Tr.node ⟨3, lr, low, high⟩ l r) i = 2 ^ (i + 1)) := by unfold Hid; simp [endT, HCC.out, hlr]
      clear hlr
      go_enter Tryd.func118, Tryd.ntmps118
      go_upto_region 5 with fail
      rw [← HY.out]
      clear x0 x1 x2 x3 x4 x5 m0 m1
      have HKC : Hid (∀ w', Blk w' w.heap.size 109 #[.slice (some ⟨k, off, none⟩) n wc, .map (some b)] → Blk w' g 103 #[.int .i64 3, .int .i64 lr, .int .i64 low, .int .i64 high, .pointer pl, .pointer pr] → w'.cell? ⟨k, off + i, none⟩ = some (.int .i64 c0) → w'.cell? ⟨w.heap.size, 0, none⟩ = some (.slice (some ⟨k, off, none⟩) n wc) ∧ w'.cell? ⟨w.heap.size, 1, none⟩ = some (.map (some b)) ∧ w'.cell? ⟨g, 0, none⟩ = some (.int .i64 3) ∧ w'.cell? ⟨g, 1, none⟩ = some (.int .i64 lr) ∧ w'.cell? ⟨g, 2, none⟩ = some (.int .i64 low) ∧ w'.cell? ⟨g, 3, none⟩ = some (.int .i64 high) ∧ w'.cell? ⟨g, 4, none⟩ = some (.pointer pl) ∧ w'.cell? ⟨g, 5, none⟩ = some (.pointer pr) ∧ w'.cell? ⟨k, off + i, none⟩ = some (.int .i64 c0)) := by
        intro w' hb0 hb1 hc
        obtain ⟨r0, r1, _, _⟩ := hb0.two
        obtain ⟨⟨n0, n1, n2, n3, n4, n5⟩, _⟩ := hb1.all6
        exact ⟨r0, r1, n0, n1, n2, n3, n4, n5, hc⟩
      refine wp_region_held_drew (S := (fun w' => w'.cell? ⟨w.heap.size, 0, none⟩ = some (.slice (some ⟨k, off, none⟩) n wc) ∧ w'.cell? ⟨w.heap.size, 1, none⟩ = some (.map (some b)) ∧ w'.cell? ⟨g, 0, none⟩ = some (.int .i64 3) ∧ w'.cell? ⟨g, 1, none⟩ = some (.int .i64 lr) ∧ w'.cell? ⟨g, 2, none⟩ = some (.int .i64 low) ∧ w'.cell? ⟨g, 3, none⟩ = some (.int .i64 high) ∧ w'.cell? ⟨g, 4, none⟩ = some (.pointer pl) ∧ w'.cell? ⟨g, 5, none⟩ = some (.pointer pr) ∧ w'.cell? ⟨k, off + i, none⟩ = some (.int .i64 c0))) (by kernel_rfl) (HKC.out _ BM.out.drew BN.out.drew hcy) (fun hHeld => ?_)
      refine take_yes 0 (some 18) (v := ?_) rfl (by kernel_rfl) (by kernel_rfl) (by kernel_rfl) (by kernel_rfl) (fun _ _ _ h => h) (by rfl) (by assumption) ?_ ?_
      rotate_left
      · (intro w' hSw; (try dsimp only at hSw); go_simp; try with_reducible rfl)
      try simp only [Act.put, List.setIfInBounds_toArray, List.set_cons_zero, List.set_cons_succ]
      refine take_yes 1 (some 19) (v := ?_) rfl (by kernel_rfl) (by kernel_rfl) (by kernel_rfl) (by kernel_rfl) (fun _ _ _ h => h) (by rfl) (by assumption) ?_ ?_
      rotate_left
      · (intro w' hSw; (try dsimp only at hSw); go_simp; try with_reducible rfl)
      try simp only [Act.put, List.setIfInBounds_toArray, List.set_cons_zero, List.set_cons_succ]
      refine take_yes 2 (some 20) (v := ?_) rfl (by kernel_rfl) (by kernel_rfl) (by kernel_rfl) (by kernel_rfl) (fun _ _ _ h => h) (by rfl) (by assumption) ?_ ?_
      rotate_left
      · (intro w' hSw; (try dsimp only at hSw); go_simp; try with_reducible rfl)
      try simp only [Act.put, List.setIfInBounds_toArray, List.set_cons_zero, List.set_cons_succ]
      refine take_yes 3 (some 21) (v := ?_) rfl (by kernel_rfl) (by kernel_rfl) (by kernel_rfl) (by kernel_rfl) (fun _ _ _ h => h) (by rfl) (by assumption) ?_ ?_
      rotate_left
      · (intro w' hSw; (try dsimp only at hSw); go_simp; try with_reducible rfl)
      try simp only [Act.put, List.setIfInBounds_toArray, List.set_cons_zero, List.set_cons_succ]
      refine take_yes 4 (some 22) (v := ?_) rfl (by kernel_rfl) (by kernel_rfl) (by kernel_rfl) (by kernel_rfl) (fun _ _ _ h => h) (by rfl) (by assumption) ?_ ?_
      rotate_left
      · (intro w' hSw; (try dsimp only at hSw); go_simp; try with_reducible rfl)
      try simp only [Act.put, List.setIfInBounds_toArray, List.set_cons_zero, List.set_cons_succ]
      refine take_yes 5 (some 23) (v := ?_) rfl (by kernel_rfl) (by kernel_rfl) (by kernel_rfl) (by kernel_rfl) (fun _ _ _ h => h) (by rfl) (by assumption) ?_ ?_
      rotate_left
      · (intro w' hSw; (try dsimp only at hSw); go_simp; try with_reducible rfl)
      try simp only [Act.put, List.setIfInBounds_toArray, List.set_cons_zero, List.set_cons_succ]
      refine take_yes 6 (some 24) (v := ?_) rfl (by kernel_rfl) (by kernel_rfl) (by kernel_rfl) (by kernel_rfl) (fun _ _ _ h => h) (by rfl) (by assumption) ?_ ?_
      rotate_left
      · (intro w' hSw; (try dsimp only at hSw); go_simp; try with_reducible rfl)
      try simp only [Act.put, List.setIfInBounds_toArray, List.set_cons_zero, List.set_cons_succ]
      refine take_yes 7 (some 25) (v := ?_) rfl (by kernel_rfl) (by kernel_rfl) (by kernel_rfl) (by kernel_rfl) (fun _ _ _ h => h) (by rfl) (by assumption) ?_ ?_
      rotate_left
      · (intro w' hSw; (try dsimp only at hSw); go_simp; try with_reducible rfl)
      try simp only [Act.put, List.setIfInBounds_toArray, List.set_cons_zero, List.set_cons_succ]
      refine take_yes 8 (some 26) (v := ?_) rfl (by kernel_rfl) (by kernel_rfl) (by kernel_rfl) (by kernel_rfl) (fun _ _ _ h => h) (by rfl) (by assumption) ?_ ?_
      rotate_left
      · (intro w' hSw; (try dsimp only at hSw); go_simp; try with_reducible rfl)
      try simp only [Act.put, List.setIfInBounds_toArray, List.set_cons_zero, List.set_cons_succ]
      refine take_yes 9 (some 27) (v := ?_) rfl (by kernel_rfl) (by kernel_rfl) (by kernel_rfl) (by kernel_rfl) (fun _ _ _ h => h) (by rfl) (by assumption) ?_ ?_
      rotate_left
      · (intro w' hSw; (try dsimp only at hSw); go_simp; try with_reducible rfl)
      try simp only [Act.put, List.setIfInBounds_toArray, List.set_cons_zero, List.set_cons_succ]
      refine take_yes 10 (some 28) (v := ?_) rfl (by kernel_rfl) (by kernel_rfl) (by kernel_rfl) (by kernel_rfl) (fun _ _ _ h => h) (by rfl) (by assumption) ?_ ?_
      rotate_left
      · (intro w' hSw; (try dsimp only at hSw); go_simp; try with_reducible rfl)
      try simp only [Act.put, List.setIfInBounds_toArray, List.set_cons_zero, List.set_cons_succ]
      refine take_yes 11 (some 29) (v := ?_) rfl (by kernel_rfl) (by kernel_rfl) (by kernel_rfl) (by kernel_rfl) (fun _ _ _ h => h) (by rfl) (by assumption) ?_ ?_
      rotate_left
      · (intro w' hSw; (try dsimp only at hSw); go_simp; try with_reducible rfl)
      try simp only [Act.put, List.setIfInBounds_toArray, List.set_cons_zero, List.set_cons_succ]
      refine take_yes 12 (some 30) (v := ?_) rfl (by kernel_rfl) (by kernel_rfl) (by kernel_rfl) (by kernel_rfl) (fun _ _ _ h => h) (by rfl) (by assumption) ?_ ?_
      rotate_left
      · (intro w' hSw; (try dsimp only at hSw); go_simp; try with_reducible rfl)
      try simp only [Act.put, List.setIfInBounds_toArray, List.set_cons_zero, List.set_cons_succ]
      refine take_yes 13 (some 31) (v := ?_) rfl (by kernel_rfl) (by kernel_rfl) (by kernel_rfl) (by kernel_rfl) (fun _ _ _ h => h) (by rfl) (by assumption) ?_ ?_
      rotate_left
      · (intro w' hSw; (try dsimp only at hSw); go_simp; try with_reducible rfl)
      try simp only [Act.put, List.setIfInBounds_toArray, List.set_cons_zero, List.set_cons_succ]
      refine take_yes 14 (some 32) (v := ?_) rfl (by kernel_rfl) (by kernel_rfl) (by kernel_rfl) (by kernel_rfl) (fun _ _ _ h => h) (by rfl) (by assumption) ?_ ?_
      rotate_left
      · (intro w' hSw; (try dsimp only at hSw); go_simp; try with_reducible rfl)
      try simp only [Act.put, List.setIfInBounds_toArray, List.set_cons_zero, List.set_cons_succ]
      refine take_yes 15 (some 33) (v := ?_) rfl (by kernel_rfl) (by kernel_rfl) (by kernel_rfl) (by kernel_rfl) (fun _ _ _ h => h) (by rfl) (by assumption) ?_ ?_
      rotate_left
      · (intro w' hSw; (try dsimp only at hSw); go_simp; try with_reducible rfl)
      try simp only [Act.put, List.setIfInBounds_toArray, List.set_cons_zero, List.set_cons_succ]
      refine take_yes 16 (some 34) (v := ?_) rfl (by kernel_rfl) (by kernel_rfl) (by kernel_rfl) (by kernel_rfl) (fun _ _ _ h => h) (by rfl) (by assumption) ?_ ?_
      rotate_left
      · (intro w' hSw; (try dsimp only at hSw); go_simp; try with_reducible rfl)
      try simp only [Act.put, List.setIfInBounds_toArray, List.set_cons_zero, List.set_cons_succ]
      refine take_yes 17 (some 35) (v := ?_) rfl (by kernel_rfl) (by kernel_rfl) (by kernel_rfl) (by kernel_rfl) (fun _ _ _ h => h) (by rfl) (by assumption) ?_ ?_
      rotate_left
      · (intro w' hSw; (try dsimp only at hSw); go_simp; try with_reducible rfl)
      try simp only [Act.put, List.setIfInBounds_toArray, List.set_cons_zero, List.set_cons_succ]
      refine wpAnyH_done (by kernel_rfl) ?_ _
      clear hHeld HKC
      go_wp2
      go_ret
      exact ⟨ret_int (by rw [HV.out]; rw [Int.natCast_pow]; first | exact hwp | rfl), by first | exact HM0.out | exact HM0.out.since (Since.refl _).drew, by first | exact Within.of_since al | exact Within.of_since al.drew⟩
    · have el : (c0 == lr) = false := by simp [hlr]
      have HV : Hid (endT W (Tr.node ⟨3, lr, low, high⟩ l r) i = 0) := by unfold Hid; simp [endT, HCC.out, hlr]
      clear hlr hwp
      go_enter Tryd.func118, Tryd.ntmps118
      go_upto_region 5 with fail
      rw [← HY.out]
      clear x0 x1 x2 x3 x4 x5 m0 m1
      have HKC : Hid (∀ w', Blk w' w.heap.size 109 #[.slice (some ⟨k, off, none⟩) n wc, .map (some b)] → Blk w' g 103 #[.int .i64 3, .int .i64 lr, .int .i64 low, .int .i64 high, .pointer pl, .pointer pr] → w'.cell? ⟨k, off + i, none⟩ = some (.int .i64 c0) → w'.cell? ⟨w.heap.size, 0, none⟩ = some (.slice (some ⟨k, off, none⟩) n wc) ∧ w'.cell? ⟨w.heap.size, 1, none⟩ = some (.map (some b)) ∧ w'.cell? ⟨g, 0, none⟩ = some (.int .i64 3) ∧ w'.cell? ⟨g, 1, none⟩ = some (.int .i64 lr) ∧ w'.cell? ⟨g, 2, none⟩ = some (.int .i64 low) ∧ w'.cell? ⟨g, 3, none⟩ = some (.int .i64 high) ∧ w'.cell? ⟨g, 4, none⟩ = some (.pointer pl) ∧ w'.cell? ⟨g, 5, none⟩ = some (.pointer pr) ∧ w'.cell? ⟨k, off + i, none⟩ = some (.int .i64 c0)) := by
        intro w' hb0 hb1 hc
        obtain ⟨r0, r1, _, _⟩ := hb0.two
        obtain ⟨⟨n0, n1, n2, n3, n4, n5⟩, _⟩ := hb1.all6
        exact ⟨r0, r1, n0, n1, n2, n3, n4, n5, hc⟩
      refine wp_region_held_drew (S := (fun w' => w'.cell? ⟨w.heap.size, 0, none⟩ = some (.slice (some ⟨k, off, none⟩) n wc) ∧ w'.cell? ⟨w.heap.size, 1, none⟩ = some (.map (some b)) ∧ w'.cell? ⟨g, 0, none⟩ = some (.int .i64 3) ∧ w'.cell? ⟨g, 1, none⟩ = some (.int .i64 lr) ∧ w'.cell? ⟨g, 2, none⟩ = some (.int .i64 low) ∧ w'.cell? ⟨g, 3, none⟩ = some (.int .i64 high) ∧ w'.cell? ⟨g, 4, none⟩ = some (.pointer pl) ∧ w'.cell? ⟨g, 5, none⟩ = some (.pointer pr) ∧ w'.cell? ⟨k, off + i, none⟩ = some (.int .i64 c0))) (by kernel_rfl) (HKC.out _ BM.out.drew BN.out.drew hcy) (fun hHeld => ?_)
      refine take_yes 0 (some 18) (v := ?_) rfl (by kernel_rfl) (by kernel_rfl) (by kernel_rfl) (by kernel_rfl) (fun _ _ _ h => h) (by rfl) (by assumption) ?_ ?_
      rotate_left
      · (intro w' hSw; (try dsimp only at hSw); go_simp; try with_reducible rfl)
      try simp only [Act.put, List.setIfInBounds_toArray, List.set_cons_zero, List.set_cons_succ]
      refine take_yes 1 (some 19) (v := ?_) rfl (by kernel_rfl) (by kernel_rfl) (by kernel_rfl) (by kernel_rfl) (fun _ _ _ h => h) (by rfl) (by assumption) ?_ ?_
      rotate_left
      · (intro w' hSw; (try dsimp only at hSw); go_simp; try with_reducible rfl)
      try simp only [Act.put, List.setIfInBounds_toArray, List.set_cons_zero, List.set_cons_succ]
      refine take_yes 2 (some 20) (v := ?_) rfl (by kernel_rfl) (by kernel_rfl) (by kernel_rfl) (by kernel_rfl) (fun _ _ _ h => h) (by rfl) (by assumption) ?_ ?_
      rotate_left
      · (intro w' hSw; (try dsimp only at hSw); go_simp; try with_reducible rfl)
      try simp only [Act.put, List.setIfInBounds_toArray, List.set_cons_zero, List.set_cons_succ]
      refine take_yes 3 (some 21) (v := ?_) rfl (by kernel_rfl) (by kernel_rfl) (by kernel_rfl) (by kernel_rfl) (fun _ _ _ h => h) (by rfl) (by assumption) ?_ ?_
      rotate_left
      · (intro w' hSw; (try dsimp only at hSw); go_simp; try with_reducible rfl)
      try simp only [Act.put, List.setIfInBounds_toArray, List.set_cons_zero, List.set_cons_succ]
      refine take_yes 4 (some 22) (v := ?_) rfl (by kernel_rfl) (by kernel_rfl) (by kernel_rfl) (by kernel_rfl) (fun _ _ _ h => h) (by rfl) (by assumption) ?_ ?_
      rotate_left
      · (intro w' hSw; (try dsimp only at hSw); go_simp; try with_reducible rfl)
      try simp only [Act.put, List.setIfInBounds_toArray, List.set_cons_zero, List.set_cons_succ]
      refine take_yes 5 (some 23) (v := ?_) rfl (by kernel_rfl) (by kernel_rfl) (by kernel_rfl) (by kernel_rfl) (fun _ _ _ h => h) (by rfl) (by assumption) ?_ ?_
      rotate_left
      · (intro w' hSw; (try dsimp only at hSw); go_simp; try with_reducible rfl)
      try simp only [Act.put, List.setIfInBounds_toArray, List.set_cons_zero, List.set_cons_succ]
      refine take_yes 6 (some 24) (v := ?_) rfl (by kernel_rfl) (by kernel_rfl) (by kernel_rfl) (by kernel_rfl) (fun _ _ _ h => h) (by rfl) (by assumption) ?_ ?_
      rotate_left
      · (intro w' hSw; (try dsimp only at hSw); go_simp; try with_reducible rfl)
      try simp only [Act.put, List.setIfInBounds_toArray, List.set_cons_zero, List.set_cons_succ]
      refine take_yes 7 (some 25) (v := ?_) rfl (by kernel_rfl) (by kernel_rfl) (by kernel_rfl) (by kernel_rfl) (fun _ _ _ h => h) (by rfl) (by assumption) ?_ ?_
      rotate_left
      · (intro w' hSw; (try dsimp only at hSw); go_simp; try with_reducible rfl)
      try simp only [Act.put, List.setIfInBounds_toArray, List.set_cons_zero, List.set_cons_succ]
      refine take_yes 8 (some 26) (v := ?_) rfl (by kernel_rfl) (by kernel_rfl) (by kernel_rfl) (by kernel_rfl) (fun _ _ _ h => h) (by rfl) (by assumption) ?_ ?_
      rotate_left
      · (intro w' hSw; (try dsimp only at hSw); go_simp; try with_reducible rfl)
      try simp only [Act.put, List.setIfInBounds_toArray, List.set_cons_zero, List.set_cons_succ]
      refine take_yes 9 (some 27) (v := ?_) rfl (by kernel_rfl) (by kernel_rfl) (by kernel_rfl) (by kernel_rfl) (fun _ _ _ h => h) (by rfl) (by assumption) ?_ ?_
      rotate_left
      · (intro w' hSw; (try dsimp only at hSw); go_simp; try with_reducible rfl)
      try simp only [Act.put, List.setIfInBounds_toArray, List.set_cons_zero, List.set_cons_succ]
      refine take_yes 10 (some 28) (v := ?_) rfl (by kernel_rfl) (by kernel_rfl) (by kernel_rfl) (by kernel_rfl) (fun _ _ _ h => h) (by rfl) (by assumption) ?_ ?_
      rotate_left
      · (intro w' hSw; (try dsimp only at hSw); go_simp; try with_reducible rfl)
      try simp only [Act.put, List.setIfInBounds_toArray, List.set_cons_zero, List.set_cons_succ]
      refine take_yes 11 (some 29) (v := ?_) rfl (by kernel_rfl) (by kernel_rfl) (by kernel_rfl) (by kernel_rfl) (fun _ _ _ h => h) (by rfl) (by assumption) ?_ ?_
      rotate_left
      · (intro w' hSw; (try dsimp only at hSw); go_simp; try with_reducible rfl)
      try simp only [Act.put, List.setIfInBounds_toArray, List.set_cons_zero, List.set_cons_succ]
      refine take_yes 12 (some 30) (v := ?_) rfl (by kernel_rfl) (by kernel_rfl) (by kernel_rfl) (by kernel_rfl) (fun _ _ _ h => h) (by rfl) (by assumption) ?_ ?_
      rotate_left
      · (intro w' hSw; (try dsimp only at hSw); go_simp; try with_reducible rfl)
      try simp only [Act.put, List.setIfInBounds_toArray, List.set_cons_zero, List.set_cons_succ]
      refine take_yes 13 (some 31) (v := ?_) rfl (by kernel_rfl) (by kernel_rfl) (by kernel_rfl) (by kernel_rfl) (fun _ _ _ h => h) (by rfl) (by assumption) ?_ ?_
      rotate_left
      · (intro w' hSw; (try dsimp only at hSw); go_simp; try with_reducible rfl)
      try simp only [Act.put, List.setIfInBounds_toArray, List.set_cons_zero, List.set_cons_succ]
      refine take_yes 14 (some 32) (v := ?_) rfl (by kernel_rfl) (by kernel_rfl) (by kernel_rfl) (by kernel_rfl) (fun _ _ _ h => h) (by rfl) (by assumption) ?_ ?_
      rotate_left
      · (intro w' hSw; (try dsimp only at hSw); go_simp; try with_reducible rfl)
      try simp only [Act.put, List.setIfInBounds_toArray, List.set_cons_zero, List.set_cons_succ]
      refine take_yes 15 (some 33) (v := ?_) rfl (by kernel_rfl) (by kernel_rfl) (by kernel_rfl) (by kernel_rfl) (fun _ _ _ h => h) (by rfl) (by assumption) ?_ ?_
      rotate_left
      · (intro w' hSw; (try dsimp only at hSw); go_simp; try with_reducible rfl)
      try simp only [Act.put, List.setIfInBounds_toArray, List.set_cons_zero, List.set_cons_succ]
      refine take_yes 16 (some 34) (v := ?_) rfl (by kernel_rfl) (by kernel_rfl) (by kernel_rfl) (by kernel_rfl) (fun _ _ _ h => h) (by rfl) (by assumption) ?_ ?_
      rotate_left
      · (intro w' hSw; (try dsimp only at hSw); go_simp; try with_reducible rfl)
      try simp only [Act.put, List.setIfInBounds_toArray, List.set_cons_zero, List.set_cons_succ]
      refine take_yes 17 (some 35) (v := ?_) rfl (by kernel_rfl) (by kernel_rfl) (by kernel_rfl) (by kernel_rfl) (fun _ _ _ h => h) (by rfl) (by assumption) ?_ ?_
      rotate_left
      · (intro w' hSw; (try dsimp only at hSw); go_simp; try with_reducible rfl)
      try simp only [Act.put, List.setIfInBounds_toArray, List.set_cons_zero, List.set_cons_succ]
      refine wpAnyH_done (by kernel_rfl) ?_ _
      clear hHeld HKC
      go_wp2
      go_ret
      exact ⟨ret_int (by rw [HV.out]; rfl), by first | exact HM0.out | exact HM0.out.since (Since.refl _).drew, by first | exact Within.of_since al | exact Within.of_since al.drew⟩
  · have hini : ¬ ((i : Int) < (n : Int)) := by omega
    have HV : Hid (endT W (Tr.node ⟨3, lr, low, high⟩ l r) i = 0) := by unfold Hid; simp [endT, List.getElem?_eq_none (show W.length ≤ i by rw [← HN.out]; omega)]
    clear hin
    go_enter Tryd.func118, Tryd.ntmps118
    go_upto_region 5 with fail
    rw [← HY.out]
    clear x0 x1 x2 x3 x4 x5 m0 m1
    have HKC : Hid (∀ w', Blk w' w.heap.size 109 #[.slice wo n wc, .map (some b)] → Blk w' g 103 #[.int .i64 3, .int .i64 lr, .int .i64 low, .int .i64 high, .pointer pl, .pointer pr] → w'.cell? ⟨w.heap.size, 0, none⟩ = some (.slice wo n wc) ∧ w'.cell? ⟨w.heap.size, 1, none⟩ = some (.map (some b)) ∧ w'.cell? ⟨g, 0, none⟩ = some (.int .i64 3) ∧ w'.cell? ⟨g, 1, none⟩ = some (.int .i64 lr) ∧ w'.cell? ⟨g, 2, none⟩ = some (.int .i64 low) ∧ w'.cell? ⟨g, 3, none⟩ = some (.int .i64 high) ∧ w'.cell? ⟨g, 4, none⟩ = some (.pointer pl) ∧ w'.cell? ⟨g, 5, none⟩ = some (.pointer pr)) := by
      intro w' hb0 hb1
      obtain ⟨r0, r1, _, _⟩ := hb0.two
      obtain ⟨⟨n0, n1, n2, n3, n4, n5⟩, _⟩ := hb1.all6
      exact ⟨r0, r1, n0, n1, n2, n3, n4, n5⟩
    refine wp_region_held_drew (S := (fun w' => w'.cell? ⟨w.heap.size, 0, none⟩ = some (.slice wo n wc) ∧ w'.cell? ⟨w.heap.size, 1, none⟩ = some (.map (some b)) ∧ w'.cell? ⟨g, 0, none⟩ = some (.int .i64 3) ∧ w'.cell? ⟨g, 1, none⟩ = some (.int .i64 lr) ∧ w'.cell? ⟨g, 2, none⟩ = some (.int .i64 low) ∧ w'.cell? ⟨g, 3, none⟩ = some (.int .i64 high) ∧ w'.cell? ⟨g, 4, none⟩ = some (.pointer pl) ∧ w'.cell? ⟨g, 5, none⟩ = some (.pointer pr))) (by kernel_rfl) (HKC.out _ BM.out.drew BN.out.drew) (fun hHeld => ?_)
    refine take_yes 0 (some 18) (v := ?_) rfl (by kernel_rfl) (by kernel_rfl) (by kernel_rfl) (by kernel_rfl) (fun _ _ _ h => h) (by rfl) (by assumption) ?_ ?_
    rotate_left
    · (intro w' hSw; (try dsimp only at hSw); go_simp; try with_reducible rfl)
    try simp only [Act.put, List.setIfInBounds_toArray, List.set_cons_zero, List.set_cons_succ]
    refine take_yes 1 (some 19) (v := ?_) rfl (by kernel_rfl) (by kernel_rfl) (by kernel_rfl) (by kernel_rfl) (fun _ _ _ h => h) (by rfl) (by assumption) ?_ ?_
    rotate_left
    · (intro w' hSw; (try dsimp only at hSw); go_simp; try with_reducible rfl)
    try simp only [Act.put, List.setIfInBounds_toArray, List.set_cons_zero, List.set_cons_succ]
    refine take_yes 2 (some 20) (v := ?_) rfl (by kernel_rfl) (by kernel_rfl) (by kernel_rfl) (by kernel_rfl) (fun _ _ _ h => h) (by rfl) (by assumption) ?_ ?_
    rotate_left
    · (intro w' hSw; (try dsimp only at hSw); go_simp; try with_reducible rfl)
    try simp only [Act.put, List.setIfInBounds_toArray, List.set_cons_zero, List.set_cons_succ]
    refine take_yes 3 (some 21) (v := ?_) rfl (by kernel_rfl) (by kernel_rfl) (by kernel_rfl) (by kernel_rfl) (fun _ _ _ h => h) (by rfl) (by assumption) ?_ ?_
    rotate_left
    · (intro w' hSw; (try dsimp only at hSw); go_simp; try with_reducible rfl)
    try simp only [Act.put, List.setIfInBounds_toArray, List.set_cons_zero, List.set_cons_succ]
    refine take_yes 4 (some 22) (v := ?_) rfl (by kernel_rfl) (by kernel_rfl) (by kernel_rfl) (by kernel_rfl) (fun _ _ _ h => h) (by rfl) (by assumption) ?_ ?_
    rotate_left
    · (intro w' hSw; (try dsimp only at hSw); go_simp; try with_reducible rfl)
    try simp only [Act.put, List.setIfInBounds_toArray, List.set_cons_zero, List.set_cons_succ]
    refine take_yes 5 (some 23) (v := ?_) rfl (by kernel_rfl) (by kernel_rfl) (by kernel_rfl) (by kernel_rfl) (fun _ _ _ h => h) (by rfl) (by assumption) ?_ ?_
    rotate_left
    · (intro w' hSw; (try dsimp only at hSw); go_simp; try with_reducible rfl)
    try simp only [Act.put, List.setIfInBounds_toArray, List.set_cons_zero, List.set_cons_succ]
    refine take_no 6 (some 24) rfl (by kernel_rfl) (by kernel_rfl) (by kernel_rfl) (by kernel_rfl) (fun _ _ _ h => h) (by rfl) (by assumption) ?_
    try simp only [Act.put, List.setIfInBounds_toArray, List.set_cons_zero, List.set_cons_succ]
    refine take_no 7 (some 25) rfl (by kernel_rfl) (by kernel_rfl) (by kernel_rfl) (by kernel_rfl) (fun _ _ _ h => h) (by rfl) (by assumption) ?_
    try simp only [Act.put, List.setIfInBounds_toArray, List.set_cons_zero, List.set_cons_succ]
    refine take_no 8 (some 26) rfl (by kernel_rfl) (by kernel_rfl) (by kernel_rfl) (by kernel_rfl) (fun _ _ _ h => h) (by rfl) (by assumption) ?_
    try simp only [Act.put, List.setIfInBounds_toArray, List.set_cons_zero, List.set_cons_succ]
    refine take_no 9 (some 27) rfl (by kernel_rfl) (by kernel_rfl) (by kernel_rfl) (by kernel_rfl) (fun _ _ _ h => h) (by rfl) (by assumption) ?_
    try simp only [Act.put, List.setIfInBounds_toArray, List.set_cons_zero, List.set_cons_succ]
    refine take_no 10 (some 28) rfl (by kernel_rfl) (by kernel_rfl) (by kernel_rfl) (by kernel_rfl) (fun _ _ _ h => h) (by rfl) (by assumption) ?_
    try simp only [Act.put, List.setIfInBounds_toArray, List.set_cons_zero, List.set_cons_succ]
    refine take_no 11 (some 29) rfl (by kernel_rfl) (by kernel_rfl) (by kernel_rfl) (by kernel_rfl) (fun _ _ _ h => h) (by rfl) (by assumption) ?_
    try simp only [Act.put, List.setIfInBounds_toArray, List.set_cons_zero, List.set_cons_succ]
    refine take_no 12 (some 30) rfl (by kernel_rfl) (by kernel_rfl) (by kernel_rfl) (by kernel_rfl) (fun _ _ _ h => h) (by rfl) (by assumption) ?_
    try simp only [Act.put, List.setIfInBounds_toArray, List.set_cons_zero, List.set_cons_succ]
    refine take_no 13 (some 31) rfl (by kernel_rfl) (by kernel_rfl) (by kernel_rfl) (by kernel_rfl) (fun _ _ _ h => h) (by rfl) (by assumption) ?_
    try simp only [Act.put, List.setIfInBounds_toArray, List.set_cons_zero, List.set_cons_succ]
    refine take_no 14 (some 32) rfl (by kernel_rfl) (by kernel_rfl) (by kernel_rfl) (by kernel_rfl) (fun _ _ _ h => h) (by rfl) (by assumption) ?_
    try simp only [Act.put, List.setIfInBounds_toArray, List.set_cons_zero, List.set_cons_succ]
    refine take_no 15 (some 33) rfl (by kernel_rfl) (by kernel_rfl) (by kernel_rfl) (by kernel_rfl) (fun _ _ _ h => h) (by rfl) (by assumption) ?_
    try simp only [Act.put, List.setIfInBounds_toArray, List.set_cons_zero, List.set_cons_succ]
    refine take_no 16 (some 34) rfl (by kernel_rfl) (by kernel_rfl) (by kernel_rfl) (by kernel_rfl) (fun _ _ _ h => h) (by rfl) (by assumption) ?_
    try simp only [Act.put, List.setIfInBounds_toArray, List.set_cons_zero, List.set_cons_succ]
    refine take_yes 17 (some 35) (v := ?_) rfl (by kernel_rfl) (by kernel_rfl) (by kernel_rfl) (by kernel_rfl) (fun _ _ _ h => h) (by rfl) (by assumption) ?_ ?_
    rotate_left
    · (intro w' hSw; (try dsimp only at hSw); go_simp; try with_reducible rfl)
    try simp only [Act.put, List.setIfInBounds_toArray, List.set_cons_zero, List.set_cons_succ]
    refine wpAnyH_done (by kernel_rfl) ?_ _
    clear hHeld HKC
    go_wp2
    go_ret
    exact ⟨ret_int (by rw [HV.out]; rfl), by first | exact HM0.out | exact HM0.out.since (Since.refl _).drew, by first | exact Within.of_since al | exact Within.of_since al.drew⟩
set_option maxHeartbeats 4000000 in
set_option maxRecDepth 100000 in
theorem find_cat (W : List Int) (lr low high : Int) (l r : Tr) (hW : W.length ≤ 8) (HfL : FromC W l) (HaR : AllC W r) : FindC W (.node ⟨4, lr, low, high⟩ l r) := by
  intro b lo hi a0 b0 wv v i w hok ha hb hhb ht hm hw hiW
  obtain ⟨htok, hcase⟩ := hok
  have HWD := Lib.hid hw
  have HM := Lib.hid hm
  have hbw := hm.lt
  obtain ⟨htin, g, lv, rv, a, bb, c, d, rfl, hg, hB, hab, _, _, _, hL, hR⟩ := ht
  have HL := Lib.hid hL
  have HR := Lib.hid hR
  obtain ⟨pl, rfl⟩ := hL.isPtr
  obtain ⟨pr, rfl⟩ := hR.isPtr
  have BX := Lib.hid hB
  rw [opN_of] at hcase
  unfold ncells at BX
  dsimp only at BX
  obtain ⟨wo, wc, rfl, HWC⟩ := hw
  obtain ⟨n, hn⟩ : ∃ n, n = W.length := ⟨_, rfl⟩
  rw [← hn] at HWD hW hiW ⊢
  have HN := Lib.hid hn
  have hgb : g < b := by omega
  clear hn hL hR hm htin
  obtain ⟨y, hy⟩ : ∃ y, y = w.alloc (.cells #[.slice wo n wc, .map (some b)] 109) := ⟨_, rfl⟩
  have al : Since w y := by rw [hy]; exact (Since.refl w).alloc _
  have BM : Hid (Blk y w.heap.size 109 #[.slice wo n wc, .map (some b)]) := by rw [hy]; exact Blk.new rfl _ _
  have BN := Lib.hid (BX.out.since al)
  have HM0 := Lib.hid (HM.out.since al)
  have HY := Lib.hid hy
  have hi0 : (0 : Int) ≤ (i : Int) := by omega
  obtain ⟨⟨x0, x1, x2, x3, x4, x5⟩, _⟩ := BN.out.all6
  rw [hy] at x0 x1 x2 x3 x4 x5
  obtain ⟨m0, m1, _, _⟩ := BM.out.two
  rw [hy] at m0 m1
  clear hy hB
  obtain ⟨hlo, hro⟩ : l.ok ∧ r.ok := by
    rcases hcase with ⟨h0, _⟩ | ⟨h1, _⟩ | ⟨_, a, b⟩
    · simp at h0
    · simp at h1
    · exact ⟨a, b⟩
  clear hcase
  have hWl : W.length ≤ 8 := by rw [← HN.out]; exact hW
  have hiW2 : i ≤ W.length := by rw [← HN.out]; exact hiW
  have HV : Hid (endT W (Tr.node ⟨4, lr, low, high⟩ l r) i = allE (endT W r) (endT W l i) (W.length + 1)) := by unfold Hid; simp [endT]
  have hEl := end_lt hWl hlo hiW2
  go_enter Tryd.func118, Tryd.ntmps118
  go_upto_region 8 with fail
  rw [← HY.out]
  clear x0 x1 x2 x3 x4 x5 m0 m1
  have HKC : Hid (∀ w', Blk w' w.heap.size 109 #[.slice wo n wc, .map (some b)] → Blk w' g 103 #[.int .i64 4, .int .i64 lr, .int .i64 low, .int .i64 high, .pointer pl, .pointer pr] → w'.cell? ⟨w.heap.size, 0, none⟩ = some (.slice wo n wc) ∧ w'.cell? ⟨w.heap.size, 1, none⟩ = some (.map (some b)) ∧ w'.cell? ⟨g, 0, none⟩ = some (.int .i64 4) ∧ w'.cell? ⟨g, 1, none⟩ = some (.int .i64 lr) ∧ w'.cell? ⟨g, 2, none⟩ = some (.int .i64 low) ∧ w'.cell? ⟨g, 3, none⟩ = some (.int .i64 high) ∧ w'.cell? ⟨g, 4, none⟩ = some (.pointer pl) ∧ w'.cell? ⟨g, 5, none⟩ = some (.pointer pr)) := by
    intro w' hb0 hb1
    obtain ⟨r0, r1, _, _⟩ := hb0.two
    obtain ⟨⟨n0, n1, n2, n3, n4, n5⟩, _⟩ := hb1.all6
    exact ⟨r0, r1, n0, n1, n2, n3, n4, n5⟩
  refine wp_region_held_drew (S := (fun w' => w'.cell? ⟨w.heap.size, 0, none⟩ = some (.slice wo n wc) ∧ w'.cell? ⟨w.heap.size, 1, none⟩ = some (.map (some b)) ∧ w'.cell? ⟨g, 0, none⟩ = some (.int .i64 4) ∧ w'.cell? ⟨g, 1, none⟩ = some (.int .i64 lr) ∧ w'.cell? ⟨g, 2, none⟩ = some (.int .i64 low) ∧ w'.cell? ⟨g, 3, none⟩ = some (.int .i64 high) ∧ w'.cell? ⟨g, 4, none⟩ = some (.pointer pl) ∧ w'.cell? ⟨g, 5, none⟩ = some (.pointer pr))) (by kernel_rfl) (HKC.out _ BM.out.drew BN.out.drew) (fun hHeld => ?_)
  have W0 : Within b (b + 1) w y.drew := Within.of_since al.drew
  have BMd := Lib.hid BM.out.drew
  have BNd := Lib.hid BN.out.drew
  have HMd := Lib.hid (HM0.out.since (Since.refl y).drew)

  refine take_yes 0 (some 41) (v := ?_) rfl (by kernel_rfl) (by kernel_rfl) (by kernel_rfl) (by kernel_rfl) (fun _ _ _ h => h) (by rfl) (by assumption) ?_ ?_
  rotate_left
  · (intro w' hSw; (try dsimp only at hSw); go_simp; try with_reducible rfl)
  try simp only [Act.put, List.setIfInBounds_toArray, List.set_cons_zero, List.set_cons_succ]
  refine take_yes 1 (some 42) (v := ?_) rfl (by kernel_rfl) (by kernel_rfl) (by kernel_rfl) (by kernel_rfl) (fun _ _ _ h => h) (by rfl) (by assumption) ?_ ?_
  rotate_left
  · (intro w' hSw; (try dsimp only at hSw); go_simp; try with_reducible rfl)
  try simp only [Act.put, List.setIfInBounds_toArray, List.set_cons_zero, List.set_cons_succ]
  refine take_yes 2 (some 43) (v := ?_) rfl (by kernel_rfl) (by kernel_rfl) (by kernel_rfl) (by kernel_rfl) (fun _ _ _ h => h) (by rfl) (by assumption) ?_ ?_
  rotate_left
  · (intro w' hSw; (try dsimp only at hSw); go_simp; try with_reducible rfl)
  try simp only [Act.put, List.setIfInBounds_toArray, List.set_cons_zero, List.set_cons_succ]
  refine take_yes 3 (some 44) (v := ?_) rfl (by kernel_rfl) (by kernel_rfl) (by kernel_rfl) (by kernel_rfl) (fun _ _ _ h => h) (by rfl) (by assumption) ?_ ?_
  rotate_left
  · (intro w' hSw; (try dsimp only at hSw); go_simp; try with_reducible rfl)
  try simp only [Act.put, List.setIfInBounds_toArray, List.set_cons_zero, List.set_cons_succ]
  refine take_yes 4 (some 45) (v := ?_) rfl (by kernel_rfl) (by kernel_rfl) (by kernel_rfl) (by kernel_rfl) (fun _ _ _ h => h) (by rfl) (by assumption) ?_ ?_
  rotate_left
  · (intro w' hSw; (try dsimp only at hSw); go_simp; try with_reducible rfl)
  try simp only [Act.put, List.setIfInBounds_toArray, List.set_cons_zero, List.set_cons_succ]
  refine take_yes 5 (some 46) (v := ?_) rfl (by kernel_rfl) (by kernel_rfl) (by kernel_rfl) (by kernel_rfl) (fun _ _ _ h => h) (by rfl) (by assumption) ?_ ?_
  rotate_left
  · (intro w' hSw; (try dsimp only at hSw); go_simp; try with_reducible rfl)
  try simp only [Act.put, List.setIfInBounds_toArray, List.set_cons_zero, List.set_cons_succ]
  refine take_yes 6 (some 47) (v := ?_) rfl (by kernel_rfl) (by kernel_rfl) (by kernel_rfl) (by kernel_rfl) (fun _ _ _ h => h) (by rfl) (by assumption) ?_ ?_
  rotate_left
  · (intro w' hSw; (try dsimp only at hSw); go_simp; try with_reducible rfl)
  try simp only [Act.put, List.setIfInBounds_toArray, List.set_cons_zero, List.set_cons_succ]
  refine take_yes 7 (some 48) (v := ?_) rfl (by kernel_rfl) (by kernel_rfl) (by kernel_rfl) (by kernel_rfl) (fun _ _ _ h => h) (by rfl) (by assumption) ?_ ?_
  rotate_left
  · (intro w' hSw; (try dsimp only at hSw); go_simp; try with_reducible rfl)
  try simp only [Act.put, List.setIfInBounds_toArray, List.set_cons_zero, List.set_cons_succ]
  refine take_yes 8 (some 49) (v := ?_) rfl (by kernel_rfl) (by kernel_rfl) (by kernel_rfl) (by kernel_rfl) (fun _ _ _ h => h) (by rfl) (by assumption) ?_ ?_
  rotate_left
  · (intro w' hSw; (try dsimp only at hSw); go_simp; try with_reducible rfl)
  try simp only [Act.put, List.setIfInBounds_toArray, List.set_cons_zero, List.set_cons_succ]
  refine take_yes 9 (some 50) (v := ?_) rfl (by kernel_rfl) (by kernel_rfl) (by kernel_rfl) (by kernel_rfl) (fun _ _ _ h => h) (by rfl) (by assumption) ?_ ?_
  rotate_left
  · (intro w' hSw; (try dsimp only at hSw); go_simp; try with_reducible rfl)
  try simp only [Act.put, List.setIfInBounds_toArray, List.set_cons_zero, List.set_cons_succ]
  refine take_yes 10 (some 51) (v := ?_) rfl (by kernel_rfl) (by kernel_rfl) (by kernel_rfl) (by kernel_rfl) (fun _ _ _ h => h) (by rfl) (by assumption) ?_ ?_
  rotate_left
  · (intro w' hSw; (try dsimp only at hSw); go_simp; try with_reducible rfl)
  try simp only [Act.put, List.setIfInBounds_toArray, List.set_cons_zero, List.set_cons_succ]
  refine take_run 11 rfl (by kernel_rfl) (by rfl) (fun K hK => ?_)
  go_simp
  refine (HfL b lo hi a bb _ _ i _ hlo (by omega) (by omega) hhb (HL.out.within W0 (by omega)) HMd.out (HWD.out.within W0) hiW2).mono ?_
  rintro en q_1 ⟨rfl, hm_3, hw_2⟩
  have M_4 := Lib.hid hm_3
  have W_5 := W0.trans hw_2
  have B_6 := Lib.hid (BMd.out.within hw_2 (by omega))
  have N_7 := Lib.hid (BNd.out.within hw_2 (by omega))
  clear hm_3 hw_2
  refine hK.out _ _ (HKC.out _ B_6.out N_7.out) (fun hHeld_8 => ?_)
  clear hK K hHeld
  try simp only [Act.put, List.setIfInBounds_toArray, List.set_cons_zero, List.set_cons_succ]
  refine take_run 12 rfl (by kernel_rfl) (by rfl) (fun K hK => ?_)
  go_simp
  refine (HaR b lo hi c d _ _ (endT W l i) _ hro (by omega) (by omega) hhb (HR.out.within W_5 (by omega)) M_4.out (HWD.out.within W_5) hEl).mono ?_
  rintro en q_9 ⟨rfl, hm_11, hw_10⟩
  have M_12 := Lib.hid hm_11
  have W_13 := W_5.trans hw_10
  have B_14 := Lib.hid (B_6.out.within hw_10 (by omega))
  have N_15 := Lib.hid (N_7.out.within hw_10 (by omega))
  clear hm_11 hw_10
  refine hK.out _ _ (HKC.out _ B_14.out N_15.out) (fun hHeld_16 => ?_)
  clear hK K hHeld_8
  try simp only [Act.put, List.setIfInBounds_toArray, List.set_cons_zero, List.set_cons_succ]
  refine take_yes 13 (some 6) (v := ?_) rfl (by kernel_rfl) (by kernel_rfl) (by kernel_rfl) (by kernel_rfl) (fun _ _ _ h => h) (by rfl) (by assumption) ?_ ?_
  rotate_left
  · (intro w' hSw; (try dsimp only at hSw); go_simp; try with_reducible rfl)
  try simp only [Act.put, List.setIfInBounds_toArray, List.set_cons_zero, List.set_cons_succ]
  refine wpAnyH_done (by kernel_rfl) ?_ _
  clear hHeld_16 HKC
  go_wp2
  go_ret
  exact ⟨ret_int (by first | rw [HV.out] | (rw [HV.out]; rfl)), M_12.out, W_13⟩
set_option maxHeartbeats 4000000 in
set_option maxRecDepth 100000 in
theorem find_uni (W : List Int) (lr low high : Int) (l r : Tr) (hW : W.length ≤ 8) (HfL : FromC W l) (HfR : FromC W r) : FindC W (.node ⟨5, lr, low, high⟩ l r) := by
  intro b lo hi a0 b0 wv v i w hok ha hb hhb ht hm hw hiW
  obtain ⟨htok, hcase⟩ := hok
  have HWD := Lib.hid hw
  have HM := Lib.hid hm
  have hbw := hm.lt
  obtain ⟨htin, g, lv, rv, a, bb, c, d, rfl, hg, hB, hab, _, _, _, hL, hR⟩ := ht
  have HL := Lib.hid hL
  have HR := Lib.hid hR
  obtain ⟨pl, rfl⟩ := hL.isPtr
  obtain ⟨pr, rfl⟩ := hR.isPtr
  have BX := Lib.hid hB
  rw [opN_of] at hcase
  unfold ncells at BX
  dsimp only at BX
  obtain ⟨wo, wc, rfl, HWC⟩ := hw
  obtain ⟨n, hn⟩ : ∃ n, n = W.length := ⟨_, rfl⟩
  rw [← hn] at HWD hW hiW ⊢
  have HN := Lib.hid hn
  have hgb : g < b := by omega
  clear hn hL hR hm htin
  obtain ⟨y, hy⟩ : ∃ y, y = w.alloc (.cells #[.slice wo n wc, .map (some b)] 109) := ⟨_, rfl⟩
  have al : Since w y := by rw [hy]; exact (Since.refl w).alloc _
  have BM : Hid (Blk y w.heap.size 109 #[.slice wo n wc, .map (some b)]) := by rw [hy]; exact Blk.new rfl _ _
  have BN := Lib.hid (BX.out.since al)
  have HM0 := Lib.hid (HM.out.since al)
  have HY := Lib.hid hy
  have hi0 : (0 : Int) ≤ (i : Int) := by omega
  obtain ⟨⟨x0, x1, x2, x3, x4, x5⟩, _⟩ := BN.out.all6
  rw [hy] at x0 x1 x2 x3 x4 x5
  obtain ⟨m0, m1, _, _⟩ := BM.out.two
  rw [hy] at m0 m1
  clear hy hB
  obtain ⟨hlo, hro⟩ : l.ok ∧ r.ok := by
    rcases hcase with ⟨h0, _⟩ | ⟨h1, _⟩ | ⟨_, a, b⟩
    · simp at h0
    · simp at h1
    · exact ⟨a, b⟩
  clear hcase
  have hWl : W.length ≤ 8 := by rw [← HN.out]; exact hW
  have hiW2 : i ≤ W.length := by rw [← HN.out]; exact hiW
  have hEl := end_lt hWl hlo hiW2
  have hEr := end_lt hWl hro hiW2
  have HV : Hid (endT W (Tr.node ⟨5, lr, low, high⟩ l r) i = endT W l i ||| endT W r i) := by unfold Hid; simp [endT]
  have HOR := Lib.hid (or_nat (endT W l i) (endT W r i) hEl hEr)
  go_enter Tryd.func118, Tryd.ntmps118
  go_upto_region 10 with fail
  rw [← HY.out]
  clear x0 x1 x2 x3 x4 x5 m0 m1
  have HKC : Hid (∀ w', Blk w' w.heap.size 109 #[.slice wo n wc, .map (some b)] → Blk w' g 103 #[.int .i64 5, .int .i64 lr, .int .i64 low, .int .i64 high, .pointer pl, .pointer pr] → w'.cell? ⟨w.heap.size, 0, none⟩ = some (.slice wo n wc) ∧ w'.cell? ⟨w.heap.size, 1, none⟩ = some (.map (some b)) ∧ w'.cell? ⟨g, 0, none⟩ = some (.int .i64 5) ∧ w'.cell? ⟨g, 1, none⟩ = some (.int .i64 lr) ∧ w'.cell? ⟨g, 2, none⟩ = some (.int .i64 low) ∧ w'.cell? ⟨g, 3, none⟩ = some (.int .i64 high) ∧ w'.cell? ⟨g, 4, none⟩ = some (.pointer pl) ∧ w'.cell? ⟨g, 5, none⟩ = some (.pointer pr)) := by
    intro w' hb0 hb1
    obtain ⟨r0, r1, _, _⟩ := hb0.two
    obtain ⟨⟨n0, n1, n2, n3, n4, n5⟩, _⟩ := hb1.all6
    exact ⟨r0, r1, n0, n1, n2, n3, n4, n5⟩
  refine wp_region_held_drew (S := (fun w' => w'.cell? ⟨w.heap.size, 0, none⟩ = some (.slice wo n wc) ∧ w'.cell? ⟨w.heap.size, 1, none⟩ = some (.map (some b)) ∧ w'.cell? ⟨g, 0, none⟩ = some (.int .i64 5) ∧ w'.cell? ⟨g, 1, none⟩ = some (.int .i64 lr) ∧ w'.cell? ⟨g, 2, none⟩ = some (.int .i64 low) ∧ w'.cell? ⟨g, 3, none⟩ = some (.int .i64 high) ∧ w'.cell? ⟨g, 4, none⟩ = some (.pointer pl) ∧ w'.cell? ⟨g, 5, none⟩ = some (.pointer pr))) (by kernel_rfl) (HKC.out _ BM.out.drew BN.out.drew) (fun hHeld => ?_)
  have W0 : Within b (b + 1) w y.drew := Within.of_since al.drew
  have BMd := Lib.hid BM.out.drew
  have BNd := Lib.hid BN.out.drew
  have HMd := Lib.hid (HM0.out.since (Since.refl y).drew)

  refine take_yes 0 (some 56) (v := ?_) rfl (by kernel_rfl) (by kernel_rfl) (by kernel_rfl) (by kernel_rfl) (fun _ _ _ h => h) (by rfl) (by assumption) ?_ ?_
  rotate_left
  · (intro w' hSw; (try dsimp only at hSw); go_simp; try with_reducible rfl)
  try simp only [Act.put, List.setIfInBounds_toArray, List.set_cons_zero, List.set_cons_succ]
  refine take_yes 1 (some 57) (v := ?_) rfl (by kernel_rfl) (by kernel_rfl) (by kernel_rfl) (by kernel_rfl) (fun _ _ _ h => h) (by rfl) (by assumption) ?_ ?_
  rotate_left
  · (intro w' hSw; (try dsimp only at hSw); go_simp; try with_reducible rfl)
  try simp only [Act.put, List.setIfInBounds_toArray, List.set_cons_zero, List.set_cons_succ]
  refine take_yes 2 (some 58) (v := ?_) rfl (by kernel_rfl) (by kernel_rfl) (by kernel_rfl) (by kernel_rfl) (fun _ _ _ h => h) (by rfl) (by assumption) ?_ ?_
  rotate_left
  · (intro w' hSw; (try dsimp only at hSw); go_simp; try with_reducible rfl)
  try simp only [Act.put, List.setIfInBounds_toArray, List.set_cons_zero, List.set_cons_succ]
  refine take_yes 3 (some 59) (v := ?_) rfl (by kernel_rfl) (by kernel_rfl) (by kernel_rfl) (by kernel_rfl) (fun _ _ _ h => h) (by rfl) (by assumption) ?_ ?_
  rotate_left
  · (intro w' hSw; (try dsimp only at hSw); go_simp; try with_reducible rfl)
  try simp only [Act.put, List.setIfInBounds_toArray, List.set_cons_zero, List.set_cons_succ]
  refine take_yes 4 (some 60) (v := ?_) rfl (by kernel_rfl) (by kernel_rfl) (by kernel_rfl) (by kernel_rfl) (fun _ _ _ h => h) (by rfl) (by assumption) ?_ ?_
  rotate_left
  · (intro w' hSw; (try dsimp only at hSw); go_simp; try with_reducible rfl)
  try simp only [Act.put, List.setIfInBounds_toArray, List.set_cons_zero, List.set_cons_succ]
  refine take_yes 5 (some 61) (v := ?_) rfl (by kernel_rfl) (by kernel_rfl) (by kernel_rfl) (by kernel_rfl) (fun _ _ _ h => h) (by rfl) (by assumption) ?_ ?_
  rotate_left
  · (intro w' hSw; (try dsimp only at hSw); go_simp; try with_reducible rfl)
  try simp only [Act.put, List.setIfInBounds_toArray, List.set_cons_zero, List.set_cons_succ]
  refine take_yes 7 (some 63) (v := ?_) rfl (by kernel_rfl) (by kernel_rfl) (by kernel_rfl) (by kernel_rfl) (fun _ _ _ h => h) (by rfl) (by assumption) ?_ ?_
  rotate_left
  · (intro w' hSw; (try dsimp only at hSw); go_simp; try with_reducible rfl)
  try simp only [Act.put, List.setIfInBounds_toArray, List.set_cons_zero, List.set_cons_succ]
  refine take_yes 8 (some 64) (v := ?_) rfl (by kernel_rfl) (by kernel_rfl) (by kernel_rfl) (by kernel_rfl) (fun _ _ _ h => h) (by rfl) (by assumption) ?_ ?_
  rotate_left
  · (intro w' hSw; (try dsimp only at hSw); go_simp; try with_reducible rfl)
  try simp only [Act.put, List.setIfInBounds_toArray, List.set_cons_zero, List.set_cons_succ]
  refine take_yes 9 (some 65) (v := ?_) rfl (by kernel_rfl) (by kernel_rfl) (by kernel_rfl) (by kernel_rfl) (fun _ _ _ h => h) (by rfl) (by assumption) ?_ ?_
  rotate_left
  · (intro w' hSw; (try dsimp only at hSw); go_simp; try with_reducible rfl)
  try simp only [Act.put, List.setIfInBounds_toArray, List.set_cons_zero, List.set_cons_succ]
  refine take_yes 10 (some 66) (v := ?_) rfl (by kernel_rfl) (by kernel_rfl) (by kernel_rfl) (by kernel_rfl) (fun _ _ _ h => h) (by rfl) (by assumption) ?_ ?_
  rotate_left
  · (intro w' hSw; (try dsimp only at hSw); go_simp; try with_reducible rfl)
  try simp only [Act.put, List.setIfInBounds_toArray, List.set_cons_zero, List.set_cons_succ]
  refine take_yes 11 (some 67) (v := ?_) rfl (by kernel_rfl) (by kernel_rfl) (by kernel_rfl) (by kernel_rfl) (fun _ _ _ h => h) (by rfl) (by assumption) ?_ ?_
  rotate_left
  · (intro w' hSw; (try dsimp only at hSw); go_simp; try with_reducible rfl)
  try simp only [Act.put, List.setIfInBounds_toArray, List.set_cons_zero, List.set_cons_succ]
  refine take_yes 12 (some 68) (v := ?_) rfl (by kernel_rfl) (by kernel_rfl) (by kernel_rfl) (by kernel_rfl) (fun _ _ _ h => h) (by rfl) (by assumption) ?_ ?_
  rotate_left
  · (intro w' hSw; (try dsimp only at hSw); go_simp; try with_reducible rfl)
  try simp only [Act.put, List.setIfInBounds_toArray, List.set_cons_zero, List.set_cons_succ]
  refine take_run 6 rfl (by kernel_rfl) (by rfl) (fun K hK => ?_)
  go_simp
  refine (HfL b lo hi a bb _ _ i _ hlo (by omega) (by omega) hhb (HL.out.within W0 (by omega)) HMd.out (HWD.out.within W0) hiW2).mono ?_
  rintro en q_17 ⟨rfl, hm_19, hw_18⟩
  have M_20 := Lib.hid hm_19
  have W_21 := W0.trans hw_18
  have B_22 := Lib.hid (BMd.out.within hw_18 (by omega))
  have N_23 := Lib.hid (BNd.out.within hw_18 (by omega))
  clear hm_19 hw_18
  refine hK.out _ _ (HKC.out _ B_22.out N_23.out) (fun hHeld_24 => ?_)
  clear hK K hHeld
  try simp only [Act.put, List.setIfInBounds_toArray, List.set_cons_zero, List.set_cons_succ]
  refine take_run 13 rfl (by kernel_rfl) (by rfl) (fun K hK => ?_)
  go_simp
  refine (HfR b lo hi c d _ _ i _ hro (by omega) (by omega) hhb (HR.out.within W_21 (by omega)) M_20.out (HWD.out.within W_21) hiW2).mono ?_
  rintro en q_25 ⟨rfl, hm_27, hw_26⟩
  have M_28 := Lib.hid hm_27
  have W_29 := W_21.trans hw_26
  have B_30 := Lib.hid (B_22.out.within hw_26 (by omega))
  have N_31 := Lib.hid (N_23.out.within hw_26 (by omega))
  clear hm_27 hw_26
  refine hK.out _ _ (HKC.out _ B_30.out N_31.out) (fun hHeld_32 => ?_)
  clear hK K hHeld_24
  try simp only [Act.put, List.setIfInBounds_toArray, List.set_cons_zero, List.set_cons_succ]
  refine take_yes 14 (some 70) (v := ?_) rfl (by kernel_rfl) (by kernel_rfl) (by kernel_rfl) (by kernel_rfl) (fun _ _ _ h => h) (by rfl) (by assumption) ?_ ?_
  rotate_left
  · (intro w' hSw; (try dsimp only at hSw); go_simp; try with_reducible rfl)
  try simp only [Act.put, List.setIfInBounds_toArray, List.set_cons_zero, List.set_cons_succ]
  refine take_yes 15 (some 6) (v := ?_) rfl (by kernel_rfl) (by kernel_rfl) (by kernel_rfl) (by kernel_rfl) (fun _ _ _ h => h) (by rfl) (by assumption) ?_ ?_
  rotate_left
  · (intro w' hSw; (try dsimp only at hSw); go_simp; try with_reducible rfl)
  try simp only [Act.put, List.setIfInBounds_toArray, List.set_cons_zero, List.set_cons_succ]
  refine wpAnyH_done (by kernel_rfl) ?_ _
  clear hHeld_32 HKC
  go_wp2
  go_ret
  exact ⟨ret_int (by rw [HV.out]; exact HOR.out), M_28.out, W_29⟩
set_option maxHeartbeats 4000000 in
set_option maxRecDepth 100000 in
theorem find_star (W : List Int) (lr low high : Int) (l r : Tr) (hW : W.length ≤ 8) (HrL : RepC W l) : FindC W (.node ⟨6, lr, low, high⟩ l r) := by
  intro b lo hi a0 b0 wv v i w hok ha hb hhb ht hm hw hiW
  obtain ⟨htok, hcase⟩ := hok
  have HWD := Lib.hid hw
  have HM := Lib.hid hm
  have hbw := hm.lt
  obtain ⟨htin, g, lv, rv, a, bb, c, d, rfl, hg, hB, hab, _, _, _, hL, hR⟩ := ht
  have HL := Lib.hid hL
  have HR := Lib.hid hR
  obtain ⟨pl, rfl⟩ := hL.isPtr
  obtain ⟨pr, rfl⟩ := hR.isPtr
  have BX := Lib.hid hB
  rw [opN_of] at hcase
  unfold ncells at BX
  dsimp only at BX
  obtain ⟨wo, wc, rfl, HWC⟩ := hw
  obtain ⟨n, hn⟩ : ∃ n, n = W.length := ⟨_, rfl⟩
  rw [← hn] at HWD hW hiW ⊢
  have HN := Lib.hid hn
  have hgb : g < b := by omega
  clear hn hL hR hm htin
  obtain ⟨y, hy⟩ : ∃ y, y = w.alloc (.cells #[.slice wo n wc, .map (some b)] 109) := ⟨_, rfl⟩
  have al : Since w y := by rw [hy]; exact (Since.refl w).alloc _
  have BM : Hid (Blk y w.heap.size 109 #[.slice wo n wc, .map (some b)]) := by rw [hy]; exact Blk.new rfl _ _
  have BN := Lib.hid (BX.out.since al)
  have HM0 := Lib.hid (HM.out.since al)
  have HY := Lib.hid hy
  have hi0 : (0 : Int) ≤ (i : Int) := by omega
  obtain ⟨⟨x0, x1, x2, x3, x4, x5⟩, _⟩ := BN.out.all6
  rw [hy] at x0 x1 x2 x3 x4 x5
  obtain ⟨m0, m1, _, _⟩ := BM.out.two
  rw [hy] at m0 m1
  clear hy hB
  obtain ⟨hlo, rfl⟩ : l.ok ∧ r = .nil := by
    rcases hcase with ⟨h0, _⟩ | ⟨_, a, b⟩ | ⟨h2, _⟩
    · simp at h0
    · exact ⟨a, b⟩
    · simp at h2
  clear hcase
  have hWl : W.length ≤ 8 := by rw [← HN.out]; exact hW
  have hiW2 : i ≤ W.length := by rw [← HN.out]; exact hiW
  have HV : Hid (endT W (Tr.node ⟨6, lr, low, high⟩ l .nil) i = setE (endT W l) W.length 0 i (n + 1)) := by unfold Hid; rw [HN.out]; simp [endT]
  go_enter Tryd.func118, Tryd.ntmps118
  go_upto_region 12 with fail
  rw [← HY.out]
  clear x0 x1 x2 x3 x4 x5 m0 m1
  have HKC : Hid (∀ w', Blk w' w.heap.size 109 #[.slice wo n wc, .map (some b)] → Blk w' g 103 #[.int .i64 6, .int .i64 lr, .int .i64 low, .int .i64 high, .pointer pl, .pointer pr] → w'.cell? ⟨w.heap.size, 0, none⟩ = some (.slice wo n wc) ∧ w'.cell? ⟨w.heap.size, 1, none⟩ = some (.map (some b)) ∧ w'.cell? ⟨g, 0, none⟩ = some (.int .i64 6) ∧ w'.cell? ⟨g, 1, none⟩ = some (.int .i64 lr) ∧ w'.cell? ⟨g, 2, none⟩ = some (.int .i64 low) ∧ w'.cell? ⟨g, 3, none⟩ = some (.int .i64 high) ∧ w'.cell? ⟨g, 4, none⟩ = some (.pointer pl) ∧ w'.cell? ⟨g, 5, none⟩ = some (.pointer pr)) := by
    intro w' hb0 hb1
    obtain ⟨r0, r1, _, _⟩ := hb0.two
    obtain ⟨⟨n0, n1, n2, n3, n4, n5⟩, _⟩ := hb1.all6
    exact ⟨r0, r1, n0, n1, n2, n3, n4, n5⟩
  refine wp_region_held_drew (S := (fun w' => w'.cell? ⟨w.heap.size, 0, none⟩ = some (.slice wo n wc) ∧ w'.cell? ⟨w.heap.size, 1, none⟩ = some (.map (some b)) ∧ w'.cell? ⟨g, 0, none⟩ = some (.int .i64 6) ∧ w'.cell? ⟨g, 1, none⟩ = some (.int .i64 lr) ∧ w'.cell? ⟨g, 2, none⟩ = some (.int .i64 low) ∧ w'.cell? ⟨g, 3, none⟩ = some (.int .i64 high) ∧ w'.cell? ⟨g, 4, none⟩ = some (.pointer pl) ∧ w'.cell? ⟨g, 5, none⟩ = some (.pointer pr))) (by kernel_rfl) (HKC.out _ BM.out.drew BN.out.drew) (fun hHeld => ?_)
  have W0 : Within b (b + 1) w y.drew := Within.of_since al.drew
  have BMd := Lib.hid BM.out.drew
  have BNd := Lib.hid BN.out.drew
  have HMd := Lib.hid (HM0.out.since (Since.refl y).drew)

  refine take_yes 0 (some 73) (v := ?_) rfl (by kernel_rfl) (by kernel_rfl) (by kernel_rfl) (by kernel_rfl) (fun _ _ _ h => h) (by rfl) (by assumption) ?_ ?_
  rotate_left
  · (intro w' hSw; (try dsimp only at hSw); go_simp; try with_reducible rfl)
  try simp only [Act.put, List.setIfInBounds_toArray, List.set_cons_zero, List.set_cons_succ]
  refine take_yes 1 (some 74) (v := ?_) rfl (by kernel_rfl) (by kernel_rfl) (by kernel_rfl) (by kernel_rfl) (fun _ _ _ h => h) (by rfl) (by assumption) ?_ ?_
  rotate_left
  · (intro w' hSw; (try dsimp only at hSw); go_simp; try with_reducible rfl)
  try simp only [Act.put, List.setIfInBounds_toArray, List.set_cons_zero, List.set_cons_succ]
  refine take_yes 2 (some 75) (v := ?_) rfl (by kernel_rfl) (by kernel_rfl) (by kernel_rfl) (by kernel_rfl) (fun _ _ _ h => h) (by rfl) (by assumption) ?_ ?_
  rotate_left
  · (intro w' hSw; (try dsimp only at hSw); go_simp; try with_reducible rfl)
  try simp only [Act.put, List.setIfInBounds_toArray, List.set_cons_zero, List.set_cons_succ]
  refine take_yes 3 (some 76) (v := ?_) rfl (by kernel_rfl) (by kernel_rfl) (by kernel_rfl) (by kernel_rfl) (fun _ _ _ h => h) (by rfl) (by assumption) ?_ ?_
  rotate_left
  · (intro w' hSw; (try dsimp only at hSw); go_simp; try with_reducible rfl)
  try simp only [Act.put, List.setIfInBounds_toArray, List.set_cons_zero, List.set_cons_succ]
  refine take_yes 4 (some 77) (v := ?_) rfl (by kernel_rfl) (by kernel_rfl) (by kernel_rfl) (by kernel_rfl) (fun _ _ _ h => h) (by rfl) (by assumption) ?_ ?_
  rotate_left
  · (intro w' hSw; (try dsimp only at hSw); go_simp; try with_reducible rfl)
  try simp only [Act.put, List.setIfInBounds_toArray, List.set_cons_zero, List.set_cons_succ]
  refine take_yes 5 (some 78) (v := ?_) rfl (by kernel_rfl) (by kernel_rfl) (by kernel_rfl) (by kernel_rfl) (fun _ _ _ h => h) (by rfl) (by assumption) ?_ ?_
  rotate_left
  · (intro w' hSw; (try dsimp only at hSw); go_simp; try with_reducible rfl)
  try simp only [Act.put, List.setIfInBounds_toArray, List.set_cons_zero, List.set_cons_succ]
  refine take_yes 6 (some 79) (v := ?_) rfl (by kernel_rfl) (by kernel_rfl) (by kernel_rfl) (by kernel_rfl) (fun _ _ _ h => h) (by rfl) (by assumption) ?_ ?_
  rotate_left
  · (intro w' hSw; (try dsimp only at hSw); go_simp; try with_reducible rfl)
  try simp only [Act.put, List.setIfInBounds_toArray, List.set_cons_zero, List.set_cons_succ]
  refine take_yes 7 (some 80) (v := ?_) rfl (by kernel_rfl) (by kernel_rfl) (by kernel_rfl) (by kernel_rfl) (fun _ _ _ h => h) (by rfl) (by assumption) ?_ ?_
  rotate_left
  · (intro w' hSw; (try dsimp only at hSw); go_simp; try with_reducible rfl)
  try simp only [Act.put, List.setIfInBounds_toArray, List.set_cons_zero, List.set_cons_succ]
  refine take_yes 8 (some 81) (v := ?_) rfl (by kernel_rfl) (by kernel_rfl) (by kernel_rfl) (by kernel_rfl) (fun _ _ _ h => h) (by rfl) (by assumption) ?_ ?_
  rotate_left
  · (intro w' hSw; (try dsimp only at hSw); go_simp; try with_reducible rfl)
  try simp only [Act.put, List.setIfInBounds_toArray, List.set_cons_zero, List.set_cons_succ]
  refine take_run 9 rfl (by kernel_rfl) (by rfl) (fun K hK => ?_)
  go_simp
  refine (HrL b lo hi a bb _ _ i 0 n _ hlo (by omega) (by omega) hhb (HL.out.within W0 (by omega)) HMd.out (HWD.out.within W0) hiW2 (by omega) (by omega)).mono ?_
  rintro en q_33 ⟨rfl, hm_35, hw_34⟩
  have M_36 := Lib.hid hm_35
  have W_37 := W0.trans hw_34
  have B_38 := Lib.hid (BMd.out.within hw_34 (by omega))
  have N_39 := Lib.hid (BNd.out.within hw_34 (by omega))
  clear hm_35 hw_34
  refine hK.out _ _ (HKC.out _ B_38.out N_39.out) (fun hHeld_40 => ?_)
  clear hK K hHeld
  try simp only [Act.put, List.setIfInBounds_toArray, List.set_cons_zero, List.set_cons_succ]
  refine take_yes 10 (some 6) (v := ?_) rfl (by kernel_rfl) (by kernel_rfl) (by kernel_rfl) (by kernel_rfl) (fun _ _ _ h => h) (by rfl) (by assumption) ?_ ?_
  rotate_left
  · (intro w' hSw; (try dsimp only at hSw); go_simp; try with_reducible rfl)
  try simp only [Act.put, List.setIfInBounds_toArray, List.set_cons_zero, List.set_cons_succ]
  refine wpAnyH_done (by kernel_rfl) ?_ _
  clear hHeld_40 HKC
  go_wp2
  go_ret
  exact ⟨ret_int (by first | rw [HV.out] | (rw [HV.out]; rfl)), M_36.out, W_37⟩
set_option maxHeartbeats 4000000 in
set_option maxRecDepth 100000 in
theorem find_rep (W : List Int) (lr low high : Int) (l r : Tr) (hW : W.length ≤ 8) (HrL : RepC W l) : FindC W (.node ⟨7, lr, low, high⟩ l r) := by
  intro b lo hi a0 b0 wv v i w hok ha hb hhb ht hm hw hiW
  obtain ⟨htok, hcase⟩ := hok
  have HWD := Lib.hid hw
  have HM := Lib.hid hm
  have hbw := hm.lt
  obtain ⟨htin, g, lv, rv, a, bb, c, d, rfl, hg, hB, hab, _, _, _, hL, hR⟩ := ht
  have HL := Lib.hid hL
  have HR := Lib.hid hR
  obtain ⟨pl, rfl⟩ := hL.isPtr
  obtain ⟨pr, rfl⟩ := hR.isPtr
  have BX := Lib.hid hB
  rw [opN_of] at hcase
  unfold ncells at BX
  dsimp only at BX
  obtain ⟨wo, wc, rfl, HWC⟩ := hw
  obtain ⟨n, hn⟩ : ∃ n, n = W.length := ⟨_, rfl⟩
  rw [← hn] at HWD hW hiW ⊢
  have HN := Lib.hid hn
  have hgb : g < b := by omega
  clear hn hL hR hm htin
  obtain ⟨y, hy⟩ : ∃ y, y = w.alloc (.cells #[.slice wo n wc, .map (some b)] 109) := ⟨_, rfl⟩
  have al : Since w y := by rw [hy]; exact (Since.refl w).alloc _
  have BM : Hid (Blk y w.heap.size 109 #[.slice wo n wc, .map (some b)]) := by rw [hy]; exact Blk.new rfl _ _
  have BN := Lib.hid (BX.out.since al)
  have HM0 := Lib.hid (HM.out.since al)
  have HY := Lib.hid hy
  have hi0 : (0 : Int) ≤ (i : Int) := by omega
  obtain ⟨⟨x0, x1, x2, x3, x4, x5⟩, _⟩ := BN.out.all6
  rw [hy] at x0 x1 x2 x3 x4 x5
  obtain ⟨m0, m1, _, _⟩ := BM.out.two
  rw [hy] at m0 m1
  clear hy hB
  obtain ⟨hlo, rfl⟩ : l.ok ∧ r = .nil := by
    rcases hcase with ⟨h0, _⟩ | ⟨_, a, b⟩ | ⟨h2, _⟩
    · simp at h0
    · exact ⟨a, b⟩
    · simp at h2
  clear hcase
  have hWl : W.length ≤ 8 := by rw [← HN.out]; exact hW
  have hiW2 : i ≤ W.length := by rw [← HN.out]; exact hiW
  obtain ⟨k0, k1, k2, k3⟩ := okT_repD htok rfl
  dsimp only at k0 k1 k2 k3
  have HV : Hid (endT W (Tr.node ⟨7, lr, low, high⟩ l .nil) i = setE (endT W l) W.length low.toNat i (high.toNat + 1)) := by unfold Hid; simp [endT]
  obtain ⟨ln, rfl⟩ : ∃ ln : Nat, low = (ln : Int) := ⟨low.toNat, by omega⟩
  obtain ⟨hn, rfl⟩ : ∃ hn : Nat, high = (hn : Int) := ⟨high.toNat, by omega⟩
  simp only [Int.toNat_natCast] at HV
  go_enter Tryd.func118, Tryd.ntmps118
  go_upto_region 14 with fail
  rw [← HY.out]
  clear x0 x1 x2 x3 x4 x5 m0 m1
  have HKC : Hid (∀ w', Blk w' w.heap.size 109 #[.slice wo n wc, .map (some b)] → Blk w' g 103 #[.int .i64 7, .int .i64 lr, .int .i64 (ln : Int), .int .i64 (hn : Int), .pointer pl, .pointer pr] → w'.cell? ⟨w.heap.size, 0, none⟩ = some (.slice wo n wc) ∧ w'.cell? ⟨w.heap.size, 1, none⟩ = some (.map (some b)) ∧ w'.cell? ⟨g, 0, none⟩ = some (.int .i64 7) ∧ w'.cell? ⟨g, 1, none⟩ = some (.int .i64 lr) ∧ w'.cell? ⟨g, 2, none⟩ = some (.int .i64 (ln : Int)) ∧ w'.cell? ⟨g, 3, none⟩ = some (.int .i64 (hn : Int)) ∧ w'.cell? ⟨g, 4, none⟩ = some (.pointer pl) ∧ w'.cell? ⟨g, 5, none⟩ = some (.pointer pr)) := by
    intro w' hb0 hb1
    obtain ⟨r0, r1, _, _⟩ := hb0.two
    obtain ⟨⟨n0, n1, n2, n3, n4, n5⟩, _⟩ := hb1.all6
    exact ⟨r0, r1, n0, n1, n2, n3, n4, n5⟩
  refine wp_region_held_drew (S := (fun w' => w'.cell? ⟨w.heap.size, 0, none⟩ = some (.slice wo n wc) ∧ w'.cell? ⟨w.heap.size, 1, none⟩ = some (.map (some b)) ∧ w'.cell? ⟨g, 0, none⟩ = some (.int .i64 7) ∧ w'.cell? ⟨g, 1, none⟩ = some (.int .i64 lr) ∧ w'.cell? ⟨g, 2, none⟩ = some (.int .i64 (ln : Int)) ∧ w'.cell? ⟨g, 3, none⟩ = some (.int .i64 (hn : Int)) ∧ w'.cell? ⟨g, 4, none⟩ = some (.pointer pl) ∧ w'.cell? ⟨g, 5, none⟩ = some (.pointer pr))) (by kernel_rfl) (HKC.out _ BM.out.drew BN.out.drew) (fun hHeld => ?_)
  have W0 : Within b (b + 1) w y.drew := Within.of_since al.drew
  have BMd := Lib.hid BM.out.drew
  have BNd := Lib.hid BN.out.drew
  have HMd := Lib.hid (HM0.out.since (Since.refl y).drew)

  refine take_yes 0 (some 85) (v := ?_) rfl (by kernel_rfl) (by kernel_rfl) (by kernel_rfl) (by kernel_rfl) (fun _ _ _ h => h) (by rfl) (by assumption) ?_ ?_
  rotate_left
  · (intro w' hSw; (try dsimp only at hSw); go_simp; try with_reducible rfl)
  try simp only [Act.put, List.setIfInBounds_toArray, List.set_cons_zero, List.set_cons_succ]
  refine take_yes 1 (some 86) (v := ?_) rfl (by kernel_rfl) (by kernel_rfl) (by kernel_rfl) (by kernel_rfl) (fun _ _ _ h => h) (by rfl) (by assumption) ?_ ?_
  rotate_left
  · (intro w' hSw; (try dsimp only at hSw); go_simp; try with_reducible rfl)
  try simp only [Act.put, List.setIfInBounds_toArray, List.set_cons_zero, List.set_cons_succ]
  refine take_yes 2 (some 87) (v := ?_) rfl (by kernel_rfl) (by kernel_rfl) (by kernel_rfl) (by kernel_rfl) (fun _ _ _ h => h) (by rfl) (by assumption) ?_ ?_
  rotate_left
  · (intro w' hSw; (try dsimp only at hSw); go_simp; try with_reducible rfl)
  try simp only [Act.put, List.setIfInBounds_toArray, List.set_cons_zero, List.set_cons_succ]
  refine take_yes 3 (some 88) (v := ?_) rfl (by kernel_rfl) (by kernel_rfl) (by kernel_rfl) (by kernel_rfl) (fun _ _ _ h => h) (by rfl) (by assumption) ?_ ?_
  rotate_left
  · (intro w' hSw; (try dsimp only at hSw); go_simp; try with_reducible rfl)
  try simp only [Act.put, List.setIfInBounds_toArray, List.set_cons_zero, List.set_cons_succ]
  refine take_yes 4 (some 89) (v := ?_) rfl (by kernel_rfl) (by kernel_rfl) (by kernel_rfl) (by kernel_rfl) (fun _ _ _ h => h) (by rfl) (by assumption) ?_ ?_
  rotate_left
  · (intro w' hSw; (try dsimp only at hSw); go_simp; try with_reducible rfl)
  try simp only [Act.put, List.setIfInBounds_toArray, List.set_cons_zero, List.set_cons_succ]
  refine take_yes 5 (some 90) (v := ?_) rfl (by kernel_rfl) (by kernel_rfl) (by kernel_rfl) (by kernel_rfl) (fun _ _ _ h => h) (by rfl) (by assumption) ?_ ?_
  rotate_left
  · (intro w' hSw; (try dsimp only at hSw); go_simp; try with_reducible rfl)
  try simp only [Act.put, List.setIfInBounds_toArray, List.set_cons_zero, List.set_cons_succ]
  refine take_yes 6 (some 91) (v := ?_) rfl (by kernel_rfl) (by kernel_rfl) (by kernel_rfl) (by kernel_rfl) (fun _ _ _ h => h) (by rfl) (by assumption) ?_ ?_
  rotate_left
  · (intro w' hSw; (try dsimp only at hSw); go_simp; try with_reducible rfl)
  try simp only [Act.put, List.setIfInBounds_toArray, List.set_cons_zero, List.set_cons_succ]
  refine take_yes 7 (some 92) (v := ?_) rfl (by kernel_rfl) (by kernel_rfl) (by kernel_rfl) (by kernel_rfl) (fun _ _ _ h => h) (by rfl) (by assumption) ?_ ?_
  rotate_left
  · (intro w' hSw; (try dsimp only at hSw); go_simp; try with_reducible rfl)
  try simp only [Act.put, List.setIfInBounds_toArray, List.set_cons_zero, List.set_cons_succ]
  refine take_yes 8 (some 93) (v := ?_) rfl (by kernel_rfl) (by kernel_rfl) (by kernel_rfl) (by kernel_rfl) (fun _ _ _ h => h) (by rfl) (by assumption) ?_ ?_
  rotate_left
  · (intro w' hSw; (try dsimp only at hSw); go_simp; try with_reducible rfl)
  try simp only [Act.put, List.setIfInBounds_toArray, List.set_cons_zero, List.set_cons_succ]
  refine take_yes 9 (some 94) (v := ?_) rfl (by kernel_rfl) (by kernel_rfl) (by kernel_rfl) (by kernel_rfl) (fun _ _ _ h => h) (by rfl) (by assumption) ?_ ?_
  rotate_left
  · (intro w' hSw; (try dsimp only at hSw); go_simp; try with_reducible rfl)
  try simp only [Act.put, List.setIfInBounds_toArray, List.set_cons_zero, List.set_cons_succ]
  refine take_yes 10 (some 95) (v := ?_) rfl (by kernel_rfl) (by kernel_rfl) (by kernel_rfl) (by kernel_rfl) (fun _ _ _ h => h) (by rfl) (by assumption) ?_ ?_
  rotate_left
  · (intro w' hSw; (try dsimp only at hSw); go_simp; try with_reducible rfl)
  try simp only [Act.put, List.setIfInBounds_toArray, List.set_cons_zero, List.set_cons_succ]
  refine take_yes 11 (some 96) (v := ?_) rfl (by kernel_rfl) (by kernel_rfl) (by kernel_rfl) (by kernel_rfl) (fun _ _ _ h => h) (by rfl) (by assumption) ?_ ?_
  rotate_left
  · (intro w' hSw; (try dsimp only at hSw); go_simp; try with_reducible rfl)
  try simp only [Act.put, List.setIfInBounds_toArray, List.set_cons_zero, List.set_cons_succ]
  refine take_yes 12 (some 97) (v := ?_) rfl (by kernel_rfl) (by kernel_rfl) (by kernel_rfl) (by kernel_rfl) (fun _ _ _ h => h) (by rfl) (by assumption) ?_ ?_
  rotate_left
  · (intro w' hSw; (try dsimp only at hSw); go_simp; try with_reducible rfl)
  try simp only [Act.put, List.setIfInBounds_toArray, List.set_cons_zero, List.set_cons_succ]
  refine take_yes 13 (some 98) (v := ?_) rfl (by kernel_rfl) (by kernel_rfl) (by kernel_rfl) (by kernel_rfl) (fun _ _ _ h => h) (by rfl) (by assumption) ?_ ?_
  rotate_left
  · (intro w' hSw; (try dsimp only at hSw); go_simp; try with_reducible rfl)
  try simp only [Act.put, List.setIfInBounds_toArray, List.set_cons_zero, List.set_cons_succ]
  refine take_yes 14 (some 99) (v := ?_) rfl (by kernel_rfl) (by kernel_rfl) (by kernel_rfl) (by kernel_rfl) (fun _ _ _ h => h) (by rfl) (by assumption) ?_ ?_
  rotate_left
  · (intro w' hSw; (try dsimp only at hSw); go_simp; try with_reducible rfl)
  try simp only [Act.put, List.setIfInBounds_toArray, List.set_cons_zero, List.set_cons_succ]
  refine take_yes 15 (some 100) (v := ?_) rfl (by kernel_rfl) (by kernel_rfl) (by kernel_rfl) (by kernel_rfl) (fun _ _ _ h => h) (by rfl) (by assumption) ?_ ?_
  rotate_left
  · (intro w' hSw; (try dsimp only at hSw); go_simp; try with_reducible rfl)
  try simp only [Act.put, List.setIfInBounds_toArray, List.set_cons_zero, List.set_cons_succ]
  refine take_run 16 rfl (by kernel_rfl) (by rfl) (fun K hK => ?_)
  go_simp
  refine (HrL b lo hi a bb _ _ i ln hn _ hlo (by omega) (by omega) hhb (HL.out.within W0 (by omega)) HMd.out (HWD.out.within W0) hiW2 (by omega) (by omega)).mono ?_
  rintro en q_41 ⟨rfl, hm_43, hw_42⟩
  have M_44 := Lib.hid hm_43
  have W_45 := W0.trans hw_42
  have B_46 := Lib.hid (BMd.out.within hw_42 (by omega))
  have N_47 := Lib.hid (BNd.out.within hw_42 (by omega))
  clear hm_43 hw_42
  refine hK.out _ _ (HKC.out _ B_46.out N_47.out) (fun hHeld_48 => ?_)
  clear hK K hHeld
  try simp only [Act.put, List.setIfInBounds_toArray, List.set_cons_zero, List.set_cons_succ]
  refine take_yes 17 (some 6) (v := ?_) rfl (by kernel_rfl) (by kernel_rfl) (by kernel_rfl) (by kernel_rfl) (fun _ _ _ h => h) (by rfl) (by assumption) ?_ ?_
  rotate_left
  · (intro w' hSw; (try dsimp only at hSw); go_simp; try with_reducible rfl)
  try simp only [Act.put, List.setIfInBounds_toArray, List.set_cons_zero, List.set_cons_succ]
  refine wpAnyH_done (by kernel_rfl) ?_ _
  clear hHeld_48 HKC
  go_wp2
  go_ret
  exact ⟨ret_int (by first | rw [HV.out] | (rw [HV.out]; rfl)), M_44.out, W_45⟩
/-- All methods of the matcher, for all trees. -/
theorem from_any (W : List Int) (hW : W.length ≤ 8) (T : Tr) : FromC W T := by
  induction T with
  | nil => intro b lo hi a0 b0 wv v i w hok; exact hok.elim
  | node t l r hl hr =>
    refine from_of W _ hW ?_
    intro b lo hi a0 b0 wv v i w hok
    obtain ⟨kd, lr, low, high⟩ := t
    have hk := okT_kd hok.1
    dsimp only at hk
    rcases (by omega : kd = 1 ∨ kd = 2 ∨ kd = 3 ∨ kd = 4 ∨ kd = 5 ∨ kd = 6 ∨ kd = 7) with rfl | rfl | rfl | rfl | rfl | rfl | rfl
    · exact find_none W lr low high l r hW b lo hi a0 b0 wv v i w hok
    · exact find_empty W lr low high l r hW b lo hi a0 b0 wv v i w hok
    · exact find_letter W lr low high l r hW b lo hi a0 b0 wv v i w hok
    · exact find_cat W lr low high l r hW hl (all_of W r hW hr) b lo hi a0 b0 wv v i w hok
    · exact find_uni W lr low high l r hW hl hr b lo hi a0 b0 wv v i w hok
    · exact find_star W lr low high l r hW (rep_of W l hW (all_of W l hW hl)) b lo hi a0 b0 wv v i w hok
    · exact find_rep W lr low high l r hW (rep_of W l hW (all_of W l hW hl)) b lo hi a0 b0 wv v i w hok
end Go.Proofs.YtiojgahjfndmdaaDoor

/- MatchesWord, the program's. -/
namespace Go.Proofs.YtiojgahjfndmdaaDoor
set_option maxRecDepth 100000
open Go.ChangeShapes Go.WideShapes Go.ChangeAt Go.RowKit
set_option linter.unusedVariables false
set_option linter.unusedSimpArgs false

theorem shl_oneK (d : Nat) (hd : d < 10) : IntKind.i64.wrap (2 ^ d : Int) = 2 ^ d := by
  have hp : (2 : Nat) ^ d < 2 ^ 10 := Nat.pow_lt_pow_right (by omega) hd
  rw [pow_cast]
  generalize (2 : Nat) ^ d = p at hp
  exact wrap_small _ (by omega)
set_option maxHeartbeats 2000000 in
set_option maxRecDepth 100000 in
theorem matches_any (T : Tr) (W : List Int) (lo hi : Nat) (v u : Value) (w : World) (hok : T.ok) (hW : W.length ≤ 8) (ht : TreeAt w T lo hi v) (hhi : hi ≤ w.heap.size) (hu : IntsAt w u W) :
    Calls Tryd.prog 75 #[v, u] w (BlOut w (gT W T 0 W.length)) := by
  have HT := Lib.hid ht
  have HU := Lib.hid (WrdAt.of hu (Nat.le_refl _))
  have HOK := Lib.hid hok
  obtain ⟨pv, rfl⟩ := ht.isPtr
  obtain ⟨uo, uc, rfl, _⟩ := hu.row
  have HG := Lib.hid (endT_all W hok)
  have hEl := end_lt hW hok (Nat.zero_le W.length)
  obtain ⟨n, hn⟩ : ∃ n, n = W.length := ⟨_, rfl⟩
  rw [← hn] at HU hW HG ⊢
  have HN := Lib.hid hn
  have hwp := shl_one n (by omega)
  have hwk := shl_oneK n (by omega)
  have hmm : ∀ W : World, (Instr.makeMap 107 none).run Tryd.prog W = .ok (.map (some W.heap.size)) (W.alloc (.map #[] 0)) := fun _ => rfl
  have hn0 : (0 : Int) ≤ (n : Int) := by omega
  clear hn hok ht hu
  obtain ⟨y, hy⟩ : ∃ y, y = (w.alloc (.map #[] 0)).alloc (.cells #[.slice uo n uc, .map (some w.heap.size)] 109) := ⟨_, rfl⟩
  have al : Since w y := by rw [hy]; exact ((Since.refl w).alloc _).alloc _
  have BM : Hid (Blk y (w.heap.size + 1) 109 #[.slice uo n uc, .map (some w.heap.size)]) := by rw [hy]; exact Blk.new (by simp) _ _
  have HM0 : Hid (MemoOk W y w.heap.size lo hi) := by rw [hy]; exact (MemoOk.made w lo hi).since ((Since.refl _).alloc _)
  have HY := Lib.hid hy
  clear hy
  go_enter Tryd.func75, Tryd.ntmps75
  go_upto_region 2 with fail
  rw [← HY.out]
  clear hmm
  have HKC : Hid (∀ w', Blk w' (w.heap.size + 1) 109 #[.slice uo n uc, .map (some w.heap.size)] → w'.cell? ⟨w.heap.size + 1, 0, none⟩ = some (.slice uo n uc) ∧ w'.cell? ⟨w.heap.size + 1, 1, none⟩ = some (.map (some w.heap.size))) := by
    intro w' hb
    obtain ⟨r0, r1, _, _⟩ := hb.two
    exact ⟨r0, r1⟩
  refine wp_region_held_drew (S := (fun w' => w'.cell? ⟨w.heap.size + 1, 0, none⟩ = some (.slice uo n uc) ∧ w'.cell? ⟨w.heap.size + 1, 1, none⟩ = some (.map (some w.heap.size)))) (by kernel_rfl) (HKC.out _ BM.out.drew) (fun hHeld => ?_)
  refine take_yes 0 (some 9) (v := ?_) rfl (by kernel_rfl) (by kernel_rfl) (by kernel_rfl) (by kernel_rfl) (fun _ _ _ h => h) (by rfl) (by assumption) ?_ ?_
  rotate_left
  · (intro w' hSw; (try dsimp only at hSw); go_simp; try with_reducible rfl)
  try simp only [Act.put, List.setIfInBounds_toArray, List.set_cons_zero, List.set_cons_succ]
  refine take_yes 1 (some 10) (v := ?_) rfl (by kernel_rfl) (by kernel_rfl) (by kernel_rfl) (by kernel_rfl) (fun _ _ _ h => h) (by rfl) (by assumption) ?_ ?_
  rotate_left
  · (intro w' hSw; (try dsimp only at hSw); go_simp; try with_reducible rfl)
  try simp only [Act.put, List.setIfInBounds_toArray, List.set_cons_zero, List.set_cons_succ]
  refine take_yes 3 (some 12) (v := ?_) rfl (by kernel_rfl) (by kernel_rfl) (by kernel_rfl) (by kernel_rfl) (fun _ _ _ h => h) (by rfl) (by assumption) ?_ ?_
  rotate_left
  · (intro w' hSw; (try dsimp only at hSw); go_simp; try with_reducible rfl)
  try simp only [Act.put, List.setIfInBounds_toArray, List.set_cons_zero, List.set_cons_succ]
  refine take_yes 4 (some 13) (v := ?_) rfl (by kernel_rfl) (by kernel_rfl) (by kernel_rfl) (by kernel_rfl) (fun _ _ _ h => h) (by rfl) (by assumption) ?_ ?_
  rotate_left
  · (intro w' hSw; (try dsimp only at hSw); go_simp; try with_reducible rfl)
  try simp only [Act.put, List.setIfInBounds_toArray, List.set_cons_zero, List.set_cons_succ]
  refine take_yes 5 (some 14) (v := ?_) rfl (by kernel_rfl) (by kernel_rfl) (by kernel_rfl) (by kernel_rfl) (fun _ _ _ h => h) (by rfl) (by assumption) ?_ ?_
  rotate_left
  · (intro w' hSw; (try dsimp only at hSw); go_simp; try with_reducible rfl)
  try simp only [Act.put, List.setIfInBounds_toArray, List.set_cons_zero, List.set_cons_succ]
  refine take_run 2 rfl (by kernel_rfl) (by rfl) (fun K hK => ?_)
  go_simp
  refine (from_any W (by rw [← HN.out]; exact hW) T w.heap.size lo hi lo hi _ _ 0 _ HOK.out (Nat.le_refl _) (Nat.le_refl _) hhi (HT.out.since al.drew) (HM0.out.since (Since.refl y).drew) (HU.out.since al.drew) (Nat.zero_le _)).mono ?_
  rintro e w2 ⟨rfl, _, hw2⟩
  obtain ⟨Z, hZ⟩ : ∃ Z, Z = endT W T 0 := ⟨_, rfl⟩
  rw [← hZ] at hEl HG ⊢
  have hz := and_zero Z n (by omega) (by omega)
  have HZB := Lib.hid hz
  have HF := Lib.hid (Since.within al.drew (Nat.le_refl _) hw2)
  refine hK.out _ _ (HKC.out _ (BM.out.drew.within hw2 (by omega))) (fun hHeld2 => ?_)
  clear hK K hHeld hw2 hz hZ
  try simp only [Act.put, List.setIfInBounds_toArray, List.set_cons_zero, List.set_cons_succ]
  refine take_yes 6 (some 15) (v := ?_) rfl (by kernel_rfl) (by kernel_rfl) (by kernel_rfl) (by kernel_rfl) (fun _ _ _ h => h) (by rfl) (by assumption) ?_ ?_
  rotate_left
  · (intro w' hSw; (try dsimp only at hSw); go_simp; try with_reducible rfl)
  try simp only [Act.put, List.setIfInBounds_toArray, List.set_cons_zero, List.set_cons_succ]
  refine take_yes 7 (some 16) (v := ?_) rfl (by kernel_rfl) (by kernel_rfl) (by kernel_rfl) (by kernel_rfl) (fun _ _ _ h => h) (by rfl) (by assumption) ?_ ?_
  rotate_left
  · (intro w' hSw; (try dsimp only at hSw); go_simp; try with_reducible rfl)
  try simp only [Act.put, List.setIfInBounds_toArray, List.set_cons_zero, List.set_cons_succ]
  refine take_yes 8 (some 4) (v := ?_) rfl (by kernel_rfl) (by kernel_rfl) (by kernel_rfl) (by kernel_rfl) (fun _ _ _ h => h) (by rfl) (by assumption) ?_ ?_
  rotate_left
  · (intro w' hSw; (try dsimp only at hSw); go_simp; try with_reducible rfl)
  try simp only [Act.put, List.setIfInBounds_toArray, List.set_cons_zero, List.set_cons_succ]
  refine wpAnyH_done (by kernel_rfl) ?_ _
  clear hHeld2 HKC
  go_wp2
  go_ret
  refine ⟨ret_bool ?_, HF.out⟩
  rw [← HG.out]
  have h0 := HZB.out
  first
  | (simp only [bne, h0, Bool.not_not])
  | (simp only [hwp, hwk, bne, h0, Bool.not_not])
/-- What MatchesWord answers. -/
def mtX (xs : List Tok) (W : List Int) : Bool := validXB xs && (isWordB W && matX xs W)
theorem mtX_of (xs : List Tok) (W : List Int) : mtX xs W = (validXB xs && (isWordB W && matX xs W)) := rfl
theorem isWordB_len {W : List Int} (h : isWordB W = true) : W.length ≤ 8 := by
  unfold isWordB at h
  simp only [Bool.and_eq_true, decide_eq_true_eq] at h
  exact h.1
theorem valid_is {xs : List Tok} (h : validXB xs = true) : isXB xs = true ∧ xs.length ≤ 24 := by
  rw [validXB_of] at h
  simp only [Bool.and_eq_true, decide_eq_true_eq] at h
  exact ⟨h.2, h.1⟩
set_option maxHeartbeats 2000000 in
set_option maxRecDepth 100000 in
theorem implMW_any (v u : Value) (xs : List Tok) (W : List Int) (w : World) (hf : Forms w) (h : ExC w v xs) (hl : xs.length ≤ 1048577) (hu : IntsAt w u W) (hl2 : W.length ≤ 1048577) :
    Calls Tryd.prog 27 #[v, u] w fun e w' => e = .returned (.bool (mtX xs W)) ∧ Since w w' := by
  obtain ⟨a, rfl, ha⟩ := h.1
  have HA := Lib.hid ha
  obtain ⟨ao, ac, rfl⟩ := ha.len
  have HU := Lib.hid hu
  obtain ⟨uo, uc, rfl, _⟩ := hu.row
  obtain ⟨m, hm⟩ : ∃ m, m = W.length := ⟨_, rfl⟩
  rw [← hm] at HU ⊢
  obtain ⟨n, hn⟩ : ∃ n, n = xs.length := ⟨_, rfl⟩
  rw [← hn] at HA ⊢
  clear hm hn ha hu h
  obtain ⟨y, hy⟩ : ∃ y, y = w.alloc (.cells #[.slice ao n ac] 26) := ⟨_, rfl⟩
  have hsy : Since w y := by rw [hy]; exact (Since.refl w).alloc _
  have BE : Hid (Blk y w.heap.size 26 #[.slice ao n ac]) := by rw [hy]; exact Blk.new rfl _ _
  have HF := Lib.hid (hf.since hsy)
  have HY := Lib.hid hy
  clear hy hf
  go_enter Tryd.func27, Tryd.ntmps27
  go_wp2_with fail
  rw [← HY.out]
  refine (implVX_any _ xs _ HF.out ⟨_, rfl, HA.out.since hsy⟩ hl).mono ?_
  rintro e w1 ⟨rfl, hs1⟩
  have hyw := hsy.trans hs1
  cases hv : validXB xs with
  | false =>
    have HV : Hid (mtX xs W = false) := by unfold Hid mtX; rw [hv]; rfl
    clear hv
    go_wp2
    go_ret
    exact ⟨ret_bool HV.out.symm, hyw⟩
  | true =>
    obtain ⟨hx1, hx2⟩ := valid_is hv
    obtain ⟨T, hT⟩ : ∃ T, treeO xs = some T := by unfold isXB at hx1; exact Option.isSome_iff_exists.1 hx1
    have HMT : Hid (matX xs W = gT W T 0 W.length) := by unfold Hid matX; rw [hT]
    have HVT : Hid (mtX xs W = (isWordB W && matX xs W)) := by unfold Hid mtX; rw [hv]; rfl
    have HOK := Lib.hid (treeO_some hT).1
    have HTT := Lib.hid (treeT_some hT)
    clear hv hx1 hT
    go_wp2_with fail
    refine (implIW_any _ W _ (HU.out.since hyw) hl2).mono ?_
    rintro e w2 ⟨rfl, rfl⟩
    have hyw2 := hyw
    cases hw : isWordB W with
    | false =>
      have HV : Hid (mtX xs W = false) := by unfold Hid; rw [HVT.out, hw]; rfl
      clear hw
      go_wp2
      go_ret
      exact ⟨ret_bool HV.out.symm, hyw2⟩
    | true =>
      have hW8 := isWordB_len hw
      have HV : Hid (mtX xs W = matX xs W) := by unfold Hid; rw [HVT.out, hw]; rfl
      have s12 := hs1
      obtain ⟨p0, p1⟩ := (BE.out.since s12).one
      clear hw
      go_wp2_with fail
      clear p0 p1
      refine (treeOf_any _ xs _ (HF.out.since s12) ⟨_, rfl, HA.out.since hyw2⟩ hl).mono ?_
      rintro e w3 ⟨v3, rfl, ht, hs3⟩
      rw [HTT.out] at ht
      have HT := Lib.hid ht
      obtain ⟨p, rfl⟩ := ht.isPtr
      clear ht
      have hyw3 := hyw2.trans hs3
      go_wp2_with fail
      refine (matches_any T W _ _ _ _ _ HOK.out hW8 HT.out (Nat.le_refl _) (HU.out.since hyw3)).mono ?_
      rintro e w4 ⟨rfl, hs4⟩
      obtain ⟨z, hz⟩ : ∃ z, z = gT W T 0 W.length := ⟨_, rfl⟩
      rw [← hz]
      have HZ := Lib.hid hz
      clear hz
      go_wp2
      go_ret
      exact ⟨ret_bool (by rw [HV.out, HMT.out, HZ.out]), hyw3.trans hs4⟩
end Go.Proofs.YtiojgahjfndmdaaDoor
