/- A map from (node, place) to a set of places, as the call itself has made it: how its block reads, looking a start up, writing under a start. -/
import Derived.Test.YtiojgahjfndmdaaDoorTree
import Derived.Maps.OwnOps
import Derived.LaidEqlPtr
import Derived.Laws.StructEq
namespace Go.Proofs.YtiojgahjfndmdaaDoor
set_option maxRecDepth 100000
open Go.ChangeShapes Go.WideShapes Go.ChangeAt Go.RowKit
set_option linter.unusedVariables false
set_option linter.unusedSimpArgs false

structure Msk where
  g : Nat
  i : Int
deriving DecidableEq
abbrev mskv (k : Msk) : Value := .agg #[.pointer (some ⟨k.g, 0, none⟩), .int .i64 k.i]
theorem Msk.eq_iff (a b : Msk) : a = b ↔ (a.g = b.g ∧ a.i = b.i) := ⟨fun h => by subst h; exact ⟨rfl, rfl⟩, fun h => by cases a; cases b; simp_all⟩
def NodeAt (w : World) (g : Nat) : Prop := ∃ cs, Blk w g 103 cs
theorem info_node : (Tryd.prog.info? 103).map (fun i => i.size) = some 6 := by kernel_rfl
theorem equal_node (d : Nat) (a b : Nat) (w : World) (ha : NodeAt w a) (hb : NodeAt w b) : (Op.equalIn (d + 1) 70 (.pointer (some ⟨a, 0, none⟩)) (.pointer (some ⟨b, 0, none⟩))).run Tryd.prog w = .ok (decide (a = b)) w := by
  have hp : Tryd.prog.underlying 70 = some (.pointer 103) := by kernel_rfl
  obtain ⟨j, hj, hs⟩ : ∃ j, Tryd.prog.info? 103 = some j ∧ j.size = 6 := by
    have h := info_node
    cases hq : Tryd.prog.info? 103 with
    | none => rw [hq] at h; cases h
    | some j => rw [hq] at h; exact ⟨j, rfl, by simpa using h⟩
  obtain ⟨ca, ha⟩ := ha
  obtain ⟨cb, hb⟩ := hb
  by_cases h : a = b
  · subst h
    simp [Op.equalIn, run_underlying hp, sizeOf, typeInfo, hj, hs, run_sameAddr_same]
  · have hne : (⟨a, 0, none⟩ : Addr) ≠ ⟨b, 0, none⟩ := by intro e; injection e; exact h ‹_›
    simp [Op.equalIn, run_underlying hp, sizeOf, typeInfo, hj, hs, run_sameAddr_other w hne ha hb, h]
set_option maxRecDepth 100000 in
theorem opEqual_msk (a b : Msk) (w : World) (ha : NodeAt w a.g) (hb : NodeAt w b.g) : (Op.equal 126 (mskv a) (mskv b)).run Tryd.prog w = .ok (decide (a = b)) w := by
  have hS : Tryd.prog.underlying 126 = some (.struct (Tryd.prog.fieldsOf 126)) := by kernel_rfl
  have hp : Tryd.prog.stoodInHeld 126 = false := by kernel_rfl
  have a3 := Tryd.isAgg3
  have z3 := Tryd.sizeOf3
  have hd : decide (a = b) = (decide (a.g = b.g) && (a.i == b.i)) := by
    rw [Bool.eq_iff_iff]; simp only [decide_eq_true_eq, Msk.eq_iff, Bool.and_eq_true, beq_iff_eq]
  rw [hd]
  unfold mskv
  have hpa : ∀ (c : Msk) (W : World), (part 70 #[.pointer (some ⟨c.g, 0, none⟩), .int .i64 c.i] 0).run Tryd.prog W = .ok (.pointer (some ⟨c.g, 0, none⟩)) W := fun c W => by kernel_rfl
  have hpb : ∀ (c : Msk) (W : World), (part 3 #[.pointer (some ⟨c.g, 0, none⟩), .int .i64 c.i] 1).run Tryd.prog W = .ok (.int .i64 c.i) W := fun c W => by kernel_rfl
  obtain ⟨d, hd⟩ : ∃ d : Nat, 10000 = d + 1 + 1 := ⟨9998, rfl⟩
  rw [show Op.equal 126 (.agg #[.pointer (some ⟨a.g, 0, none⟩), .int .i64 a.i]) (.agg #[.pointer (some ⟨b.g, 0, none⟩), .int .i64 b.i]) = Op.equalIn 10000 126 _ _ from rfl]
  rw [hd, run_equalIn_agg w (d + 1) 126 _ _ hS hp]
  clear hd
  simp only [Program.fieldsOf, Tryd.underlying126]
  have he := equal_node d a.g b.g w ha hb
  have hi : (Op.equalIn (d + 1) 3 (.int .i64 a.i) (.int .i64 b.i)).run Tryd.prog w = .ok (a.i == b.i) w := run_equalIn_int w d 3 .i64 .i64 a.i b.i Tryd.underlying3
  go_simp
  by_cases h1 : a.g = b.g <;> by_cases h2 : a.i = b.i <;> simp [h1, h2, hpa, hpb, he, hi]

/-- What the list M holds under c, from the front; and where. -/
def lookQ : List (Msk × Value) → Msk → Nat → Option (Nat × Value)
  | [], _, _ => none
  | p :: r, c, i => if c = p.1 then some (i, p.2) else lookQ r c (i + 1)
def atQ (M : List (Msk × Value)) (c : Msk) : Option Value := (lookQ M c 0).map (·.2)
def putQ (M : List (Msk × Value)) (c : Msk) (v : Value) : List (Msk × Value) :=
  match lookQ M c 0 with
  | some (i, _) => M.modify i fun p => (c, v)
  | none => M ++ [(c, v)]
/-- The entries es read as M. -/
def EntQ (es : List MapEntry) (M : List (Msk × Value)) : Prop := es.map (fun e => (e.key, e.val)) = M.map (fun p => (mskv p.1, p.2))
theorem EntQ.cons_inv {e : MapEntry} {es : List MapEntry} {M : List (Msk × Value)} (h : EntQ (e :: es) M) : ∃ p r, M = p :: r ∧ e.key = mskv p.1 ∧ e.val = p.2 ∧ EntQ es r := by
  cases M with
  | nil => simp [EntQ] at h
  | cons p r =>
    unfold EntQ at h
    simp only [List.map_cons, List.cons.injEq, Prod.mk.injEq] at h
    exact ⟨p, r, rfl, h.1.1, h.1.2, h.2⟩
theorem EntQ.len {es : List MapEntry} {M : List (Msk × Value)} (h : EntQ es M) : es.length = M.length := by
  have := congrArg List.length h; simpa using this
theorem run_findAsking_msk (c : Msk) (w : World) (hc : NodeAt w c.g) : ∀ (es : List MapEntry) (M : List (Msk × Value)) (i : Nat), (∀ p ∈ M, NodeAt w p.1.g) → EntQ es M →
    (Instr.findAsking 126 (mskv c) es i).run Tryd.prog w = .ok (lookQ M c i) w
  | [], M, i, hm, h => by
    have hl : M.length = 0 := h.len.symm
    obtain rfl : M = [] := List.length_eq_zero_iff.1 hl
    rfl
  | e :: es, M, i, hm, h => by
    obtain ⟨p, r, rfl, hk, hv, hr⟩ := h.cons_inv
    unfold Instr.findAsking
    rw [hk, hv]
    have heq := opEqual_msk c p.1 w hc (hm p (by simp))
    simp only [Sem.run_bind, heq, Result.andThen_ok]
    unfold lookQ
    by_cases hc2 : c = p.1
    · simp [hc2]
    · simp [hc2, run_findAsking_msk c w hc es r (i + 1) (fun q hq => hm q (by simp [hq])) hr]
theorem run_findKey_msk (c : Msk) (w : World) (hc : NodeAt w c.g) (es : List MapEntry) (M : List (Msk × Value)) (hm : ∀ p ∈ M, NodeAt w p.1.g) (h : EntQ es M) :
    (Instr.findKey 126 (mskv c) es).run Tryd.prog w = .ok (lookQ M c 0) w := by
  have hw : (match Tryd.prog.underlying 126 with | some (.array _ _) | some (.struct _) => true | _ => false) = true := by kernel_rfl
  rw [run_findKey_eq (P := Tryd.prog) (w := w) hw]
  exact run_findAsking_msk c w hc es M 0 hm h
set_option maxRecDepth 100000 in
theorem run_checkKey_msk (b : Bool) (c : Msk) (w : World) : (Instr.checkKey b 10000 126 (mskv c)).run Tryd.prog w = .ok () w := by
  have hS : Tryd.prog.underlying 126 = some (.struct (Tryd.prog.fieldsOf 126)) := by kernel_rfl
  obtain ⟨d, hd⟩ : ∃ d : Nat, 10000 = d + 1 + 1 + 1 := ⟨9997, rfl⟩
  rw [hd]; clear hd
  unfold mskv
  have hpa : ∀ (c : Msk) (W : World), (part 70 #[.pointer (some ⟨c.g, 0, none⟩), .int .i64 c.i] 0).run Tryd.prog W = .ok (.pointer (some ⟨c.g, 0, none⟩)) W := fun c W => by kernel_rfl
  have hpb : ∀ (c : Msk) (W : World), (part 3 #[.pointer (some ⟨c.g, 0, none⟩), .int .i64 c.i] 1).run Tryd.prog W = .ok (.int .i64 c.i) W := fun c W => by kernel_rfl
  have u1 := Tryd.underlying70
  have u2 := Tryd.underlying3
  simp only [Instr.checkKey, Sem.run_bind, run_underlying hS, Result.andThen_ok]
  simp only [Program.fieldsOf, Tryd.underlying126]
  go_simp
theorem sameBits_msk (c : Msk) (n : Nat) : Instr.sameBits (n + 2) (mskv c) (mskv c) = true := by
  simp [Instr.sameBits]
theorem getQ {es : List MapEntry} {M : List (Msk × Value)} (h : EntQ es M) (i : Nat) (hi : i < M.length) : ∃ e, es[i]? = some e ∧ e.key = mskv M[i].1 ∧ e.val = M[i].2 := by
  have hl := h.len
  have hi2 : i < es.length := by omega
  refine ⟨es[i], List.getElem?_eq_getElem hi2, ?_⟩
  have := congrArg (·[i]?) h
  simp only [List.getElem?_map, List.getElem?_eq_getElem hi2, List.getElem?_eq_getElem hi, Option.map_some, Option.some.injEq, Prod.mk.injEq] at this
  exact this
theorem lookQ_at : ∀ (M : List (Msk × Value)) (c : Msk) (k i : Nat) (v : Value), lookQ M c k = some (i, v) → k ≤ i ∧ ∃ (h : i - k < M.length), M[i - k].1 = c ∧ M[i - k].2 = v
  | [], _, _, _, _, h => by simp [lookQ] at h
  | p :: r, c, k, i, v, h => by
    unfold lookQ at h
    split at h
    · rename_i hc
      simp only [Option.some.injEq, Prod.mk.injEq] at h
      obtain ⟨rfl, rfl⟩ := h
      refine ⟨Nat.le_refl _, by simp, ?_⟩
      simp [hc]
    · obtain ⟨h1, h2, h3, h4⟩ := lookQ_at r c (k + 1) i v h
      have e : i - k = (i - (k + 1)) + 1 := by omega
      refine ⟨by omega, by simp only [List.length_cons]; omega, ?_⟩
      simp only [e, List.getElem_cons_succ]
      exact ⟨h3, h4⟩
theorem lookQ_mono : ∀ (M : List (Msk × Value)) (c : Msk) (k : Nat), (lookQ M c k).map (·.2) = (lookQ M c 0).map (·.2)
  | [], _, _ => rfl
  | p :: r, c, k => by
    unfold lookQ
    by_cases h : c = p.1
    · simp [h]
    · simp only [h, if_false]; rw [lookQ_mono r c (k + 1), lookQ_mono r c (0 + 1)]
theorem atQ_cons (p : Msk × Value) (r : List (Msk × Value)) (d : Msk) : atQ (p :: r) d = if d = p.1 then some p.2 else atQ r d := by
  unfold atQ
  by_cases h : d = p.1
  · simp [lookQ, h]
  · simp only [lookQ, h, if_false]; rw [lookQ_mono]
theorem atQ_append (r : List (Msk × Value)) (c : Msk) (v : Value) (d : Msk) (h : lookQ r c 0 = none) : atQ (r ++ [(c, v)]) d = if d = c then some v else atQ r d := by
  have hne : ∀ (r : List (Msk × Value)) (k : Nat), lookQ r c k = none → ∀ p ∈ r, c ≠ p.1 := by
    intro r
    induction r with
    | nil => intro k _ p hp; simp at hp
    | cons q r ih =>
      intro k hk p hp
      unfold lookQ at hk
      split at hk
      · cases hk
      · rename_i hq
        rcases List.mem_cons.1 hp with rfl | hp
        · exact hq
        · exact ih _ hk p hp
  have hr := hne r 0 h
  clear h hne
  induction r with
  | nil => simp [atQ_cons]
  | cons q r ih =>
    rw [List.cons_append, atQ_cons, atQ_cons, ih (fun p hp => hr p (by simp [hp]))]
    by_cases e1 : d = q.1
    · have : ¬ d = c := fun e => hr q (by simp) (e.symm.trans e1)
      simp [e1, show ¬ q.1 = c from fun e => this (e1.trans e)]
    · simp [e1]
theorem atQ_modify : ∀ (r : List (Msk × Value)) (c : Msk) (v : Value) (d : Msk) (k i : Nat) (u : Value), lookQ r c k = some (i, u) → atQ (r.modify (i - k) fun _ => (c, v)) d = if d = c then some v else atQ r d
  | [], _, _, _, _, _, _, h => by simp [lookQ] at h
  | q :: r, c, v, d, k, i, u, h => by
    unfold lookQ at h
    split at h
    · rename_i hq
      simp only [Option.some.injEq, Prod.mk.injEq] at h
      obtain ⟨rfl, rfl⟩ := h
      simp only [Nat.sub_self, List.modify_zero_cons, atQ_cons]
      by_cases e : d = c <;> simp [e, ← hq]
    · rename_i hq
      obtain ⟨h1, _⟩ := lookQ_at r c (k + 1) i u h
      have e : i - k = (i - (k + 1)) + 1 := by omega
      rw [e, List.modify_succ_cons, atQ_cons, atQ_cons, atQ_modify r c v d (k + 1) i u h]
      by_cases e1 : d = q.1
      · have : ¬ q.1 = c := fun e => hq e.symm
        simp [e1, this]
      · simp [e1]
theorem atQ_put (M : List (Msk × Value)) (c : Msk) (v : Value) (d : Msk) : atQ (putQ M c v) d = if d = c then some v else atQ M d := by
  unfold putQ
  cases h : lookQ M c 0 with
  | none => exact atQ_append M c v d h
  | some p => obtain ⟨i, u⟩ := p; exact atQ_modify M c v d 0 i u h
theorem putQ_mem {M : List (Msk × Value)} {c : Msk} {v : Value} {p : Msk × Value} (h : p ∈ putQ M c v) : p ∈ M ∨ p.1 = c := by
  unfold putQ at h
  split at h
  · obtain ⟨i, hi, rfl⟩ := List.getElem_of_mem h
    rw [List.getElem_modify]
    split
    · exact .inr rfl
    · exact .inl (List.getElem_mem _)
  · rcases List.mem_append.1 h with h | h
    · exact .inl h
    · simp at h; subst h; exact .inr rfl

/-- The entries' stamps: no two alike, all below the clock. -/
def BornQ (es : Array MapEntry) (cl : Nat) : Prop := (es.toList.map (·.born)).Nodup ∧ ∀ n ∈ es.toList.map (·.born), n < cl
theorem BornQ.push {es : Array MapEntry} {cl : Nat} (h : BornQ es cl) (k v : Value) : BornQ (es.push { key := k, val := v, born := cl }) (cl + 1) := by
  obtain ⟨h1, h2⟩ := h
  unfold BornQ
  simp only [Array.toList_push, List.map_append, List.map_cons, List.map_nil]
  refine ⟨List.nodup_append.2 ⟨h1, by simp, fun a ha b hb => ?_⟩, fun n hn => ?_⟩
  · simp at hb; subst hb; have := h2 a ha; omega
  · rcases List.mem_append.1 hn with hn | hn
    · have := h2 n hn; omega
    · simp at hn; omega
theorem BornQ.modify {es : Array MapEntry} {cl : Nat} (h : BornQ es cl) (i : Nat) (f : MapEntry → MapEntry) (hf : ∀ e, (f e).born = e.born) : BornQ (es.modify i f) cl := by
  have e : (es.modify i f).toList.map (·.born) = es.toList.map (·.born) := by
    rw [Array.toList_modify]
    apply List.ext_getElem?
    intro j
    simp only [List.getElem?_map, List.getElem?_modify]
    by_cases h : i = j
    · subst h; cases es.toList[i]? <;> simp [hf]
    · simp [h]
  unfold BornQ; rw [e]; exact h
/-- Block b is a map of the call's own that holds f. -/
def MemoF (w : World) (b : Nat) (f : Msk → Option Int) : Prop := ∃ es cl M, w.heap[b]? = some (.map es cl) ∧ BornQ es cl ∧ EntQ es.toList M ∧ (∀ p ∈ M, NodeAt w p.1.g) ∧ ∀ d, atQ M d = (f d).map (Value.int .i64)
theorem MemoF.lt {w : World} {b : Nat} {f : Msk → Option Int} (h : MemoF w b f) : b < w.heap.size := by
  obtain ⟨es, cl, M, hb, _⟩ := h; exact heap_lt hb
theorem MemoF.made (w : World) : MemoF (w.alloc (.map #[] 0)) w.heap.size (fun _ => none) := ⟨#[], 0, [], (MapKept.heap_alloc w _).1, ⟨by simp, by simp⟩, rfl, fun p hp => by simp at hp, fun _ => rfl⟩
theorem MemoF.keep {w w' : World} {b : Nat} {f : Msk → Option Int} (h : MemoF w b f) (k : w'.heap[b]? = w.heap[b]?) (hn : ∀ g, NodeAt w g → NodeAt w' g) : MemoF w' b f := by
  obtain ⟨es, cl, M, hb, h1, h2, h3, h4⟩ := h; exact ⟨es, cl, M, k.trans hb, h1, h2, fun p hp => hn _ (h3 p hp), h4⟩
theorem NodeAt.since {w w' : World} {g : Nat} (h : NodeAt w g) (k : Since w w') : NodeAt w' g := by obtain ⟨cs, h⟩ := h; exact ⟨cs, h.since k⟩
theorem MemoF.since {w w' : World} {b : Nat} {f : Msk → Option Int} (h : MemoF w b f) (k : Since w w') : MemoF w' b f := h.keep (k.block b h.lt) (fun g hg => hg.since k)
def updQ (f : Msk → Option Int) (c : Msk) (v : Int) : Msk → Option Int := fun d => if d = c then some v else f d
theorem run_getObj_mapQ {w : World} {r : Nat} {es : Array MapEntry} {clock : Nat} (hb : w.heap[r]? = some (.map es clock)) : (getObj r).run Tryd.prog w = .ok (.map es clock) w := by simp [getObj, Sem.run, hb]
theorem run_lookup_msk (w : World) (b : Nat) (f : Msk → Option Int) (c : Msk) (hc : NodeAt w c.g) (h : MemoF w b f) :
    (Instr.lookup 107 (.map (some b)) (mskv c) true).run Tryd.prog w = .ok (.tuple #[.int .i64 ((f c).getD 0), .bool (f c).isSome]) w := by
  obtain ⟨es, cl, M, hb, _, he, hm, hf⟩ := h
  have hu : Tryd.prog.underlying 107 = some (.map 126 3) := by kernel_rfl
  have hz : (zeroValue 3).run Tryd.prog w = .ok (.int .i64 0) w := by kernel_rfl
  have hfc := hf c
  simp only [Instr.lookup, Sem.run_bind, run_underlying hu, Result.andThen_ok, run_getObj_mapQ hb, Sem.run_pure, run_checkKey_msk, run_findKey_msk c w hc es.toList M hm he]
  unfold atQ at hfc
  cases hl : lookQ M c 0 with
  | none =>
    rw [hl] at hfc
    cases hq : f c with
    | none => simp [hz]
    | some z => rw [hq] at hfc; cases hfc
  | some p =>
    rw [hl] at hfc
    cases hq : f c with
    | none => rw [hq] at hfc; cases hfc
    | some z => rw [hq] at hfc; simp at hfc; simp [hfc]
theorem EntQ.push {es : Array MapEntry} {M : List (Msk × Value)} (he : EntQ es.toList M) (c : Msk) (v : Value) (n : Nat) : EntQ (es.push { key := mskv c, val := v, born := n }).toList (M ++ [(c, v)]) := by
  unfold EntQ at he ⊢; simp [he]
theorem EntQ.modify {es : Array MapEntry} {M : List (Msk × Value)} (he : EntQ es.toList M) (c : Msk) (v : Value) (i : Nat) (g : MapEntry → MapEntry) (hi : i < M.length) (hg : ∀ e : MapEntry, e.key = mskv M[i].1 → (g e).key = mskv c ∧ (g e).val = v) :
    EntQ (es.modify i g).toList (M.modify i fun _ => (c, v)) := by
  obtain ⟨e, g1, g2, g3⟩ := getQ he i hi
  unfold EntQ at he ⊢
  simp only [Array.toList_modify]
  apply List.ext_getElem?
  intro j
  have hj := congrArg (·[j]?) he
  simp only [List.getElem?_map, List.getElem?_modify] at hj ⊢
  by_cases hij : i = j
  · subst hij
    obtain ⟨q1, q2⟩ := hg e g2
    rw [g1, List.getElem?_eq_getElem hi]
    simp [q1, q2]
  · simp [hij]; simpa using hj
theorem NodeAt.mapset {w : World} {b g : Nat} {es : Array MapEntry} {cl : Nat} (hb : w.heap[b]? = some (.map es cl)) (o : Obj) (h : NodeAt w g) : NodeAt { w with heap := w.heap.setIfInBounds b o } g := by
  obtain ⟨cs, h⟩ := h
  have hne : b ≠ g := by
    intro e; subst e
    have h2 : w.heap[b]? = some (.cells cs 103 (0, 0)) := h
    rw [hb] at h2; cases h2
  refine ⟨cs, ?_⟩
  show (w.heap.setIfInBounds b o)[g]? = _
  rw [Array.getElem?_setIfInBounds_ne hne]
  exact h
theorem run_mapUpdate_msk (w : World) (b : Nat) (f : Msk → Option Int) (c : Msk) (z : Int) (hc : NodeAt w c.g) (h : MemoF w b f) :
    ∃ o, (Instr.mapUpdate 107 (.map (some b)) (mskv c) (.int .i64 z)).run Tryd.prog w = .ok () { w with heap := w.heap.setIfInBounds b o } ∧
      MemoF { w with heap := w.heap.setIfInBounds b o } b (updQ f c z) := by
  obtain ⟨es, cl, M, hb, hB, he, hm, hf⟩ := h
  have hu : Tryd.prog.underlying 107 = some (.map 126 3) := by kernel_rfl
  have hfin : ∀ d, atQ (putQ M c (.int .i64 z)) d = (updQ f c z d).map (Value.int .i64) := fun d => by
    rw [atQ_put, hf]; unfold updQ
    by_cases e : d = c <;> simp [e]
  have hmn : ∀ o, ∀ p ∈ putQ M c (.int .i64 z), NodeAt { w with heap := w.heap.setIfInBounds b o } p.1.g := fun o p hp => by
    rcases putQ_mem hp with h | h
    · exact (hm p h).mapset hb o
    · rw [h]; exact hc.mapset hb o
  cases hl : lookQ M c 0 with
  | none =>
    have e : putQ M c (.int .i64 z) = M ++ [(c, .int .i64 z)] := by unfold putQ; rw [hl]
    refine ⟨_, ?_, (es.push { key := mskv c, val := .int .i64 z, born := cl }), cl + 1, putQ M c (.int .i64 z), (MapKept.heap_set hb).1, hB.push _ _, by rw [e]; exact he.push _ _ _, hmn _, hfin⟩
    simp only [Instr.mapUpdate, Sem.run_bind, run_underlying hu, Result.andThen_ok, run_getObj_mapQ hb, Sem.run_pure, run_checkKey_msk, run_findKey_msk c w hc es.toList M hm he, hl]
    rw [MapKept.run_setObj_map _ hb]
  | some p =>
    obtain ⟨i, u⟩ := p
    obtain ⟨_, hi, h1, h2⟩ := lookQ_at M c 0 i u hl
    simp only [Nat.sub_zero] at hi h1 h2
    obtain ⟨e, g1, g2, g3⟩ := getQ he i hi
    have g4 : es[i]? = some e := by rw [← Array.getElem?_toList]; exact g1
    have hst : (Instr.keyThatStays (((es[i]?).map (·.key)).getD (mskv c)) (mskv c)).run Tryd.prog w = .ok (mskv c) w := by
      simp only [g4, Option.map_some, Option.getD_some, g2, h1, Instr.keyThatStays]
      rw [if_pos (sameBits_msk c 9998)]
      rfl
    have e' : putQ M c (.int .i64 z) = M.modify i fun _ => (c, .int .i64 z) := by unfold putQ; rw [hl]
    refine ⟨_, ?_, (es.modify i fun e => { e with key := mskv c, val := .int .i64 z }), cl, putQ M c (.int .i64 z), (MapKept.heap_set hb).1, hB.modify i _ (fun _ => rfl), by rw [e']; exact he.modify c _ i _ hi (fun _ _ => ⟨rfl, rfl⟩), hmn _, hfin⟩
    simp only [Instr.mapUpdate, Sem.run_bind, run_underlying hu, Result.andThen_ok, run_getObj_mapQ hb, Sem.run_pure, run_checkKey_msk, run_findKey_msk c w hc es.toList M hm he, hl, hst]
    rw [MapKept.run_setObj_map _ hb]
end Go.Proofs.YtiojgahjfndmdaaDoor
