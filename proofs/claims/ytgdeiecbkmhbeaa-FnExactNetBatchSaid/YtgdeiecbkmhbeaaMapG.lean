/- A map from changes to lists of places that the call itself has made: how its block reads, looking a change up, writing under a change. -/
import Derived.Test.YtgdeiecbkmhbeaaEbS
namespace Go.Proofs.Ytgdeiecbkmhbeaa
set_option maxRecDepth 100000
open Go.ChangeShapes Go.WideShapes Go.ChangeAt Go.RowKit
set_option linter.unusedVariables false
set_option linter.unusedSimpArgs false

set_option maxRecDepth 100000 in
theorem opEqual_chg (a b : Chg) (w : World) : (Op.equal 98 (cv a) (cv b)).run Try.prog w = .ok (decide (a = b)) w := by
  have u4 := Try.underlying4
  have a4 := Try.isAgg4
  have z4 := Try.sizeOf4
  have hS : Try.prog.underlying 98 = some (.struct (Try.prog.fieldsOf 98)) := by kernel_rfl
  have hp : Try.prog.stoodInHeld 98 = false := by kernel_rfl
  have hd : decide (a = b) = (a.ins == b.ins && decide (a.ed = b.ed)) := by
    rw [Bool.eq_iff_iff]; simp only [decide_eq_true_eq, Chg.eq_iff, Bool.and_eq_true, beq_iff_eq]
  rw [hd]
  unfold cv
  have hpa : ∀ (c : Chg) (W : World), (part 93 #[.bool c.ins, .int .i64 c.ed.id, .int .i64 c.ed.fr, .int .i64 (Edg.to c.ed), .int .i64 c.ed.lb] 1).run Try.prog W = .ok (ev c.ed) W := fun c W => by kernel_rfl
  obtain ⟨d, hd⟩ : ∃ d : Nat, 10000 = d + 1 + 1 + 1 := ⟨9997, rfl⟩
  rw [show Op.equal 98 (.agg #[.bool a.ins, .int .i64 a.ed.id, .int .i64 a.ed.fr, .int .i64 (Edg.to a.ed), .int .i64 a.ed.lb]) (.agg #[.bool b.ins, .int .i64 b.ed.id, .int .i64 b.ed.fr, .int .i64 (Edg.to b.ed), .int .i64 b.ed.lb]) = Op.equalIn 10000 98 _ _ from rfl]
  rw [hd, run_equalIn_agg w (d + 1 + 1) 98 _ _ hS hp]
  clear hd
  simp only [Program.fieldsOf, Try.underlying98]
  have he := equal_edge d a.ed b.ed
  go_simp
  by_cases h1 : a.ins = b.ins <;> by_cases h2 : a.ed = b.ed <;> simp [h1, h2]

/-- What the list M holds under c, from the front; and where. -/
def lookM : List (Chg × Value) → Chg → Nat → Option (Nat × Value)
  | [], _, _ => none
  | p :: r, c, i => if c = p.1 then some (i, p.2) else lookM r c (i + 1)
def atM (M : List (Chg × Value)) (c : Chg) : Value := ((lookM M c 0).map (·.2)).getD (.slice none 0 0)
def putM (M : List (Chg × Value)) (c : Chg) (v : Value) : List (Chg × Value) :=
  match lookM M c 0 with
  | some (i, _) => M.modify i fun p => (c, v)
  | none => M ++ [(c, v)]
/-- The entries es read as M. -/
def EntM (es : List MapEntry) (M : List (Chg × Value)) : Prop := es.map (fun e => (e.key, e.val)) = M.map (fun p => (cv p.1, p.2))
theorem EntM.cons_inv {e : MapEntry} {es : List MapEntry} {M : List (Chg × Value)} (h : EntM (e :: es) M) : ∃ p r, M = p :: r ∧ e.key = cv p.1 ∧ e.val = p.2 ∧ EntM es r := by
  cases M with
  | nil => simp [EntM] at h
  | cons p r =>
    unfold EntM at h
    simp only [List.map_cons, List.cons.injEq, Prod.mk.injEq] at h
    exact ⟨p, r, rfl, h.1.1, h.1.2, h.2⟩
theorem EntM.len {es : List MapEntry} {M : List (Chg × Value)} (h : EntM es M) : es.length = M.length := by
  have := congrArg List.length h; simpa using this
theorem run_findAsking_chg (c : Chg) (w : World) : ∀ (es : List MapEntry) (M : List (Chg × Value)) (i : Nat), EntM es M →
    (Instr.findAsking 98 (cv c) es i).run Try.prog w = .ok (lookM M c i) w
  | [], M, i, h => by
    have hl : M.length = 0 := h.len.symm
    obtain rfl : M = [] := List.length_eq_zero_iff.1 hl
    rfl
  | e :: es, M, i, h => by
    obtain ⟨p, r, rfl, hk, hv, hr⟩ := h.cons_inv
    unfold Instr.findAsking
    rw [hk, hv]
    simp only [Sem.run_bind, opEqual_chg, Result.andThen_ok]
    unfold lookM
    by_cases hc : c = p.1
    · simp [hc]
    · simp [hc, run_findAsking_chg c w es r (i + 1) hr]
theorem run_findKey_chg (c : Chg) (w : World) (es : List MapEntry) (M : List (Chg × Value)) (h : EntM es M) :
    (Instr.findKey 98 (cv c) es).run Try.prog w = .ok (lookM M c 0) w := by
  have hw : (match Try.prog.underlying 98 with | some (.array _ _) | some (.struct _) => true | _ => false) = true := by kernel_rfl
  rw [run_findKey_eq (P := Try.prog) (w := w) hw]
  exact run_findAsking_chg c w es M 0 h
set_option maxRecDepth 100000 in
theorem run_checkKey_chg (b : Bool) (c : Chg) (w : World) : (Instr.checkKey b 10000 98 (cv c)).run Try.prog w = .ok () w := by
  have hS : Try.prog.underlying 98 = some (.struct (Try.prog.fieldsOf 98)) := by kernel_rfl
  obtain ⟨d, hd⟩ : ∃ d : Nat, 10000 = d + 1 + 1 + 1 := ⟨9997, rfl⟩
  rw [hd]; clear hd
  unfold cv
  have hpa : ∀ (c : Chg) (W : World), (part 93 #[.bool c.ins, .int .i64 c.ed.id, .int .i64 c.ed.fr, .int .i64 (Edg.to c.ed), .int .i64 c.ed.lb] 1).run Try.prog W = .ok (ev c.ed) W := fun c W => by kernel_rfl
  have u1 := Try.underlying4
  have u2 := Try.underlying3
  have u3 := Try.underlying93
  have z1 := Try.sizeOf4
  have z2 := Try.sizeOf3
  have a1 := Try.isAgg4
  have a2 := Try.isAgg3
  simp only [Instr.checkKey, Sem.run_bind, run_underlying hS, Result.andThen_ok]
  simp only [Program.fieldsOf, Try.underlying98]
  go_simp

theorem sameBits_chg (c : Chg) (n : Nat) : Instr.sameBits (n + 2) (cv c) (cv c) = true := by
  simp [Instr.sameBits]
theorem getM {es : List MapEntry} {M : List (Chg × Value)} (h : EntM es M) (i : Nat) (hi : i < M.length) : ∃ e, es[i]? = some e ∧ e.key = cv M[i].1 ∧ e.val = M[i].2 := by
  have hl := h.len
  have hi2 : i < es.length := by omega
  refine ⟨es[i], List.getElem?_eq_getElem hi2, ?_⟩
  have := congrArg (·[i]?) h
  simp only [List.getElem?_map, List.getElem?_eq_getElem hi2, List.getElem?_eq_getElem hi, Option.map_some, Option.some.injEq, Prod.mk.injEq] at this
  exact this
theorem lookM_at : ∀ (M : List (Chg × Value)) (c : Chg) (k i : Nat) (v : Value), lookM M c k = some (i, v) → k ≤ i ∧ ∃ (h : i - k < M.length), M[i - k].1 = c ∧ M[i - k].2 = v
  | [], _, _, _, _, h => by simp [lookM] at h
  | p :: r, c, k, i, v, h => by
    unfold lookM at h
    split at h
    · rename_i hc
      simp only [Option.some.injEq, Prod.mk.injEq] at h
      obtain ⟨rfl, rfl⟩ := h
      refine ⟨Nat.le_refl _, by simp, ?_⟩
      simp [hc]
    · obtain ⟨h1, h2, h3, h4⟩ := lookM_at r c (k + 1) i v h
      have e : i - k = (i - (k + 1)) + 1 := by omega
      refine ⟨by omega, by simp only [List.length_cons]; omega, ?_⟩
      simp only [e, List.getElem_cons_succ]
      exact ⟨h3, h4⟩
theorem lookM_mono : ∀ (M : List (Chg × Value)) (c : Chg) (k : Nat), (lookM M c k).map (·.2) = (lookM M c 0).map (·.2)
  | [], _, _ => rfl
  | p :: r, c, k => by
    unfold lookM
    by_cases h : c = p.1
    · simp [h]
    · simp only [h, if_false]; rw [lookM_mono r c (k + 1), lookM_mono r c (0 + 1)]
theorem atM_cons (p : Chg × Value) (r : List (Chg × Value)) (d : Chg) : atM (p :: r) d = if d = p.1 then p.2 else atM r d := by
  unfold atM
  by_cases h : d = p.1
  · simp [lookM, h]
  · simp only [lookM, h, if_false]; rw [lookM_mono]
theorem atM_append (r : List (Chg × Value)) (c : Chg) (v : Value) (d : Chg) (h : lookM r c 0 = none) : atM (r ++ [(c, v)]) d = if d = c then v else atM r d := by
  have hne : ∀ (r : List (Chg × Value)) (k : Nat), lookM r c k = none → ∀ p ∈ r, c ≠ p.1 := by
    intro r
    induction r with
    | nil => intro k _ p hp; simp at hp
    | cons q r ih =>
      intro k hk p hp
      unfold lookM at hk
      split at hk
      · cases hk
      · rename_i hq
        rcases List.mem_cons.1 hp with rfl | hp
        · exact hq
        · exact ih _ hk p hp
  have hr := hne r 0 h
  clear h hne
  induction r with
  | nil => simp [atM_cons]
  | cons q r ih =>
    rw [List.cons_append, atM_cons, atM_cons, ih (fun p hp => hr p (by simp [hp]))]
    by_cases e1 : d = q.1
    · have : ¬ d = c := fun e => hr q (by simp) (e.symm.trans e1)
      simp [e1, show ¬ q.1 = c from fun e => this (e1.trans e)]
    · simp [e1]
theorem atM_modify : ∀ (r : List (Chg × Value)) (c : Chg) (v : Value) (d : Chg) (k i : Nat) (u : Value), lookM r c k = some (i, u) → atM (r.modify (i - k) fun _ => (c, v)) d = if d = c then v else atM r d
  | [], _, _, _, _, _, _, h => by simp [lookM] at h
  | q :: r, c, v, d, k, i, u, h => by
    unfold lookM at h
    split at h
    · rename_i hq
      simp only [Option.some.injEq, Prod.mk.injEq] at h
      obtain ⟨rfl, rfl⟩ := h
      simp only [Nat.sub_self, List.modify_zero_cons, atM_cons]
      by_cases e : d = c <;> simp [e, ← hq]
    · rename_i hq
      obtain ⟨h1, _⟩ := lookM_at r c (k + 1) i u h
      have e : i - k = (i - (k + 1)) + 1 := by omega
      rw [e, List.modify_succ_cons, atM_cons, atM_cons, atM_modify r c v d (k + 1) i u h]
      by_cases e1 : d = q.1
      · have : ¬ q.1 = c := fun e => hq e.symm
        simp [e1, this]
      · simp [e1]
theorem atM_put (M : List (Chg × Value)) (c : Chg) (v : Value) (d : Chg) : atM (putM M c v) d = if d = c then v else atM M d := by
  unfold putM
  cases h : lookM M c 0 with
  | none => exact atM_append M c v d h
  | some p => obtain ⟨i, u⟩ := p; exact atM_modify M c v d 0 i u h

/-- The entries' stamps: no two alike, all below the clock. -/
def Born (es : Array MapEntry) (cl : Nat) : Prop := (es.toList.map (·.born)).Nodup ∧ ∀ n ∈ es.toList.map (·.born), n < cl
theorem Born.push {es : Array MapEntry} {cl : Nat} (h : Born es cl) (k v : Value) : Born (es.push { key := k, val := v, born := cl }) (cl + 1) := by
  obtain ⟨h1, h2⟩ := h
  unfold Born
  simp only [Array.toList_push, List.map_append, List.map_cons, List.map_nil]
  refine ⟨List.nodup_append.2 ⟨h1, by simp, fun a ha b hb => ?_⟩, fun n hn => ?_⟩
  · simp at hb; subst hb; have := h2 a ha; omega
  · rcases List.mem_append.1 hn with hn | hn
    · have := h2 n hn; omega
    · simp at hn; omega
theorem Born.modify {es : Array MapEntry} {cl : Nat} (h : Born es cl) (i : Nat) (f : MapEntry → MapEntry) (hf : ∀ e, (f e).born = e.born) : Born (es.modify i f) cl := by
  have e : (es.modify i f).toList.map (·.born) = es.toList.map (·.born) := by
    rw [Array.toList_modify]
    apply List.ext_getElem?
    intro j
    simp only [List.getElem?_map, List.getElem?_modify]
    by_cases h : i = j
    · subst h; cases es.toList[i]? <;> simp [hf]
    · simp [h]
  unfold Born; rw [e]; exact h
/-- Block b is a map of the call's own that holds f c under each change c (nil where nothing is held). -/
def MapF (w : World) (b : Nat) (f : Chg → Value) : Prop := ∃ es cl M, w.heap[b]? = some (.map es cl) ∧ Born es cl ∧ EntM es.toList M ∧ ∀ d, atM M d = f d
theorem MapF.lt {w : World} {b : Nat} {f : Chg → Value} (h : MapF w b f) : b < w.heap.size := by
  obtain ⟨es, cl, M, hb, _⟩ := h; exact heap_lt hb
theorem MapF.made (w : World) : MapF (w.alloc (.map #[] 0)) w.heap.size (fun _ => .slice none 0 0) := ⟨#[], 0, [], (MapKept.heap_alloc w _).1, ⟨by simp, by simp⟩, rfl, fun _ => rfl⟩
theorem MapF.block {w w' : World} {b : Nat} {f : Chg → Value} (h : MapF w b f) (k : w'.heap[b]? = w.heap[b]?) : MapF w' b f := by
  obtain ⟨es, cl, M, hb, r⟩ := h; exact ⟨es, cl, M, k.trans hb, r⟩
def updF (f : Chg → Value) (c : Chg) (v : Value) : Chg → Value := fun d => if d = c then v else f d
theorem run_getObj_map {w : World} {r : Nat} {es : Array MapEntry} {clock : Nat} (hb : w.heap[r]? = some (.map es clock)) : (getObj r).run Try.prog w = .ok (.map es clock) w := by simp [getObj, Sem.run, hb]
theorem run_lookup_chg (w : World) (b : Nat) (f : Chg → Value) (c : Chg) (h : MapF w b f) :
    (Instr.lookup 136 (.map (some b)) (cv c) false).run Try.prog w = .ok (f c) w := by
  obtain ⟨es, cl, M, hb, _, he, hf⟩ := h
  have hu : Try.prog.underlying 136 = some (.map 98 36) := by kernel_rfl
  have hz : (zeroValue 36).run Try.prog w = .ok (.slice none 0 0) w := by kernel_rfl
  rw [← hf c]
  simp only [Instr.lookup, Sem.run_bind, run_underlying hu, Result.andThen_ok, run_getObj_map hb, Sem.run_pure, run_checkKey_chg, run_findKey_chg c w es.toList M he]
  unfold atM
  cases hl : lookM M c 0 with
  | none => simp [hz, hl]
  | some p => simp [hl]
theorem EntM.push {es : Array MapEntry} {M : List (Chg × Value)} (he : EntM es.toList M) (c : Chg) (v : Value) (n : Nat) : EntM (es.push { key := cv c, val := v, born := n }).toList (M ++ [(c, v)]) := by
  unfold EntM at he ⊢; simp [he]
theorem EntM.modify {es : Array MapEntry} {M : List (Chg × Value)} (he : EntM es.toList M) (c : Chg) (v : Value) (i : Nat) (g : MapEntry → MapEntry) (hi : i < M.length) (hg : ∀ e : MapEntry, e.key = cv M[i].1 → (g e).key = cv c ∧ (g e).val = v) :
    EntM (es.modify i g).toList (M.modify i fun _ => (c, v)) := by
  obtain ⟨e, g1, g2, g3⟩ := getM he i hi
  unfold EntM at he ⊢
  simp only [Array.toList_modify]
  apply List.ext_getElem?
  intro j
  have hj := congrArg (·[j]?) he
  simp only [List.getElem?_map, List.getElem?_modify] at hj ⊢
  by_cases hij : i = j
  · subst hij
    obtain ⟨q1, q2⟩ := hg e g2
    rw [g1, List.getElem?_eq_getElem hi]
    simp [q1, q2]
  · simp [hij]; simpa using hj
theorem run_mapUpdate_chg (w : World) (b : Nat) (f : Chg → Value) (c : Chg) (v : Value) (h : MapF w b f) :
    ∃ o, (Instr.mapUpdate 136 (.map (some b)) (cv c) v).run Try.prog w = .ok () { w with heap := w.heap.setIfInBounds b o } ∧
      MapF { w with heap := w.heap.setIfInBounds b o } b (updF f c v) := by
  obtain ⟨es, cl, M, hb, hB, he, hf⟩ := h
  have hu : Try.prog.underlying 136 = some (.map 98 36) := by kernel_rfl
  have hfin : ∀ d, atM (putM M c v) d = updF f c v d := fun d => by rw [atM_put, hf]; rfl
  cases hl : lookM M c 0 with
  | none =>
    have e : putM M c v = M ++ [(c, v)] := by unfold putM; rw [hl]
    refine ⟨_, ?_, (es.push { key := cv c, val := v, born := cl }), cl + 1, putM M c v, (MapKept.heap_set hb).1, hB.push _ _, by rw [e]; exact he.push _ _ _, hfin⟩
    simp only [Instr.mapUpdate, Sem.run_bind, run_underlying hu, Result.andThen_ok, run_getObj_map hb, Sem.run_pure, run_checkKey_chg, run_findKey_chg c w es.toList M he, hl]
    rw [MapKept.run_setObj_map _ hb]
  | some p =>
    obtain ⟨i, u⟩ := p
    obtain ⟨_, hi, h1, h2⟩ := lookM_at M c 0 i u hl
    simp only [Nat.sub_zero] at hi h1 h2
    obtain ⟨e, g1, g2, g3⟩ := getM he i hi
    have g4 : es[i]? = some e := by rw [← Array.getElem?_toList]; exact g1
    have hst : (Instr.keyThatStays (((es[i]?).map (·.key)).getD (cv c)) (cv c)).run Try.prog w = .ok (cv c) w := by
      simp only [g4, Option.map_some, Option.getD_some, g2, h1, Instr.keyThatStays]
      rw [if_pos (sameBits_chg c 9998)]
      rfl
    have e' : putM M c v = M.modify i fun _ => (c, v) := by unfold putM; rw [hl]
    refine ⟨_, ?_, (es.modify i fun e => { e with key := cv c, val := v }), cl, putM M c v, (MapKept.heap_set hb).1, hB.modify i _ (fun _ => rfl), by rw [e']; exact he.modify c v i _ hi (fun _ _ => ⟨rfl, rfl⟩), hfin⟩
    simp only [Instr.mapUpdate, Sem.run_bind, run_underlying hu, Result.andThen_ok, run_getObj_map hb, Sem.run_pure, run_checkKey_chg, run_findKey_chg c w es.toList M he, hl, hst]
    rw [MapKept.run_setObj_map _ hb]
/-- .. and its entry under c bears the stamp st. -/
def MapE (w : World) (b : Nat) (f : Chg → Value) (c : Chg) (st : Nat) : Prop := ∃ es cl M i, w.heap[b]? = some (.map es cl) ∧ Born es cl ∧ EntM es.toList M ∧ (∀ d, atM M d = f d) ∧ lookM M c 0 = some (i, f c) ∧ (es[i]?).map (·.born) = some st
theorem MapE.block {w w' : World} {b st : Nat} {f : Chg → Value} {c : Chg} (h : MapE w b f c st) (k : w'.heap[b]? = w.heap[b]?) : MapE w' b f c st := by
  obtain ⟨es, cl, M, i, hb, r⟩ := h; exact ⟨es, cl, M, i, k.trans hb, r⟩
theorem MapE.lt {w : World} {b st : Nat} {f : Chg → Value} {c : Chg} (h : MapE w b f c st) : b < w.heap.size := by
  obtain ⟨es, cl, M, i, hb, _⟩ := h; exact heap_lt hb
theorem lookM_append : ∀ (r : List (Chg × Value)) (c : Chg) (v : Value) (k : Nat), lookM r c k = none → lookM (r ++ [(c, v)]) c k = some (k + r.length, v)
  | [], c, v, k, _ => by simp [lookM]
  | q :: r, c, v, k, h => by
    unfold lookM at h
    split at h
    · cases h
    · rename_i hq
      rw [List.cons_append, lookM, if_neg hq, lookM_append r c v (k + 1) h]
      simp only [List.length_cons, Option.some.injEq, Prod.mk.injEq, and_true]
      omega
theorem run_mapEntry_chg (w : World) (b : Nat) (f : Chg → Value) (c : Chg) (h : MapF w b f) :
    ∃ (o : Obj) (st : Nat), (Instr.mapEntry 136 (.map (some b)) (cv c)).run Try.prog w = .ok (.tuple #[f c, goInt st]) { w with heap := w.heap.setIfInBounds b o } ∧
      MapE { w with heap := w.heap.setIfInBounds b o } b f c st := by
  obtain ⟨es, cl, M, hb, hB, he, hf⟩ := h
  have hu : Try.prog.underlying 136 = some (.map 98 36) := by kernel_rfl
  have hz : (zeroValue 36).run Try.prog w = .ok (.slice none 0 0) w := by kernel_rfl
  cases hl : lookM M c 0 with
  | none =>
    have hfc : f c = .slice none 0 0 := by rw [← hf c]; unfold atM; rw [hl]; rfl
    refine ⟨_, cl, ?_, (es.push { key := cv c, val := .slice none 0 0, born := cl }), cl + 1, M ++ [(c, .slice none 0 0)], M.length, (MapKept.heap_set hb).1, hB.push _ _, he.push _ _ _, fun d => ?_, ?_, ?_⟩
    · simp only [Instr.mapEntry, Sem.run_bind, run_underlying hu, Result.andThen_ok, run_getObj_map hb, Sem.run_pure, run_checkKey_chg, run_findKey_chg c w es.toList M he, hl, hz]
      rw [MapKept.run_setObj_map _ hb, hfc]
      rfl
    · rw [atM_append M c _ d hl, hf]
      by_cases e : d = c
      · rw [if_pos e, e, hfc]
      · rw [if_neg e]
    · rw [lookM_append M c _ 0 hl, hfc, Nat.zero_add]
    · have := he.len; rw [← this]; simp
  | some p =>
    obtain ⟨i, u⟩ := p
    obtain ⟨_, hi, h1, h2⟩ := lookM_at M c 0 i u hl
    simp only [Nat.sub_zero] at hi h1 h2
    obtain ⟨e, g1, g2, g3⟩ := getM he i hi
    have g4 : es[i]? = some e := by rw [← Array.getElem?_toList]; exact g1
    have hfc : f c = u := by rw [← hf c]; unfold atM; rw [hl]; rfl
    have hst : (Instr.keyThatStays (((es[i]?).map (·.key)).getD (cv c)) (cv c)).run Try.prog w = .ok (cv c) w := by
      simp only [g4, Option.map_some, Option.getD_some, g2, h1, Instr.keyThatStays]
      rw [if_pos (sameBits_chg c 9998)]
      rfl
    refine ⟨_, e.born, ?_, (es.modify i fun e => { e with key := cv c }), cl, M, i, (MapKept.heap_set hb).1, hB.modify i _ (fun _ => rfl), ?_, hf, by rw [hl, hfc], ?_⟩
    · simp only [Instr.mapEntry, Sem.run_bind, run_underlying hu, Result.andThen_ok, run_getObj_map hb, Sem.run_pure, run_checkKey_chg, run_findKey_chg c w es.toList M he, hl, hst]
      rw [MapKept.run_setObj_map _ hb, hfc]
      simp [g4]
    · unfold EntM at he ⊢
      rw [← he, Array.toList_modify]
      apply List.ext_getElem?
      intro j
      simp only [List.getElem?_map, List.getElem?_modify]
      by_cases hij : i = j
      · subst hij; rw [g1]; simp [g2, h1]
      · simp [hij]
    · simp [Array.getElem?_modify, g4]
theorem run_entryStore_chg (w : World) (b st : Nat) (f : Chg → Value) (c : Chg) (v : Value) (h : MapE w b f c st) :
    ∃ o, (Instr.entryStore 136 (.map (some b)) (goInt st) v).run Try.prog w = .ok () { w with heap := w.heap.setIfInBounds b o } ∧
      MapF { w with heap := w.heap.setIfInBounds b o } b (updF f c v) := by
  obtain ⟨es, cl, M, i, hb, hB, he, hf, hl, hs⟩ := h
  obtain ⟨_, hi, h1, h2⟩ := lookM_at M c 0 i _ hl
  simp only [Nat.sub_zero] at hi h1 h2
  obtain ⟨e, g1, g2, g3⟩ := getM he i hi
  have g4 : es[i]? = some e := by rw [← Array.getElem?_toList]; exact g1
  have hlt : i < es.size := by have := (Array.getElem?_eq_some_iff.1 g4).1; exact this
  have hst : e.born = st := by rw [g4] at hs; simpa using hs
  have hix : es.findIdx? (fun e => (e.born : Int) == (st : Int)) = some i := by
    rw [Array.findIdx?_eq_some_iff_getElem]
    refine ⟨hlt, ?_, fun j hj => ?_⟩
    · have : es[i] = e := by rw [Array.getElem?_eq_getElem hlt] at g4; simpa using g4
      rw [this, hst]; simp
    · intro hq
      have hjl : j < es.size := by omega
      have hq3 : ((es[j].born : Nat) : Int) = (st : Int) := by simpa using hq
      have hq2 : es[j].born = st := by omega
      have hei : es[i].born = st := by
        rw [Array.getElem?_eq_getElem hlt] at g4
        have : es[i] = e := by simpa using g4
        rw [this]; exact hst
      have := List.pairwise_iff_getElem.1 hB.1 j i (by simpa using hjl) (by simpa using hlt) hj
      simp only [List.getElem_map, Array.getElem_toList] at this
      exact this (hq2.trans hei.symm)
  have e' : putM M c v = M.modify i fun _ => (c, v) := by unfold putM; rw [hl]
  refine ⟨_, ?_, (es.modify i fun e => { e with val := v }), cl, putM M c v, (MapKept.heap_set hb).1, hB.modify i _ (fun _ => rfl), by rw [e']; exact he.modify c v i _ hi (fun e he => ⟨he.trans (by rw [h1]), rfl⟩), fun d => by rw [atM_put, hf]; rfl⟩
  have ha : (asInt (goInt st)).run Try.prog w = .ok (st : Int) w := rfl
  simp only [Instr.entryStore, Sem.run_bind, Result.andThen_ok, run_getObj_map hb, Sem.run_pure, ha, hix]
  rw [MapKept.run_setObj_map _ hb]
end Go.Proofs.Ytgdeiecbkmhbeaa
