/- Walks as plain data; what the steps of a walk are, followed one after the other. -/
import Derived.Test.YtilkheclimammaaK3
namespace Go.Proofs.Ytilkheclimammaa
set_option maxRecDepth 100000
open Go.ChangeShapes Go.WideShapes Go.ChangeAt Go.RowKit
set_option linter.unusedVariables false
set_option linter.unusedSimpArgs false

structure Wlk where
  st : Int
  ss : List Stp
theorem Wlk.eq_iff (a b : Wlk) : a = b ↔ (a.st = b.st ∧ a.ss = b.ss) :=
  ⟨fun h => by subst h; exact ⟨rfl, rfl⟩, fun h => by cases a; cases b; simp_all⟩
instance : DecidableEq Wlk := fun a b => decidable_of_iff _ (Wlk.eq_iff a b).symm
/-- v is a walk that reads as x. -/
def WlkAt (w : World) (v : Value) (x : Wlk) : Prop := ∃ b, v = .agg #[.int .i64 x.st, b] ∧ StpsAt w b x.ss
theorem WlkAt.since {w w' : World} {v : Value} {x : Wlk} (h : WlkAt w v x) (k : Since w w') : WlkAt w' v x := by
  obtain ⟨b, rfl, h1⟩ := h; exact ⟨b, rfl, h1.since k⟩
/-- v is a walk whose steps lie in a block from lo on and below hi, and reads as x. -/
def OwnW (lo hi : Nat) (w : World) (v : Value) (x : Wlk) : Prop := ∃ b, v = .agg #[.int .i64 x.st, b] ∧ OwnSt lo w b x.ss ∧ InR lo hi b
theorem OwnW.at {lo hi : Nat} {w : World} {v : Value} {x : Wlk} (h : OwnW lo hi w v x) : WlkAt w v x := by
  obtain ⟨b, rfl, h1, _⟩ := h; exact ⟨b, rfl, h1.at⟩
theorem OwnW.since {lo hi : Nat} {w w' : World} {v : Value} {x : Wlk} (h : OwnW lo hi w v x) (k : Since w w') : OwnW lo hi w' v x := by
  obtain ⟨b, rfl, h1, r1⟩ := h; exact ⟨b, rfl, h1.since k, r1⟩
theorem OwnW.within {lo hi a b : Nat} {w w' : World} {v : Value} {x : Wlk} (h : OwnW a b w v x) (k : Within lo hi w w') (hd : b ≤ lo ∨ hi ≤ a) : OwnW a b w' v x := by
  obtain ⟨y, rfl, h1, r1⟩ := h; exact ⟨y, rfl, h1.within r1 k hd, r1⟩
theorem OwnW.wider {a b a' b' : Nat} {w : World} {v : Value} {x : Wlk} (h : OwnW a b w v x) (ha : a' ≤ a) (hb : b ≤ b') : OwnW a' b' w v x := by
  obtain ⟨y, rfl, h1, r1⟩ := h; exact ⟨y, rfl, h1.mono ha, r1.mono ha hb⟩
theorem OwnW.mk {lo : Nat} {w : World} {b : Value} {i : Int} {ss : List Stp} (h1 : OwnSt lo w b ss) : OwnW lo w.heap.size w (.agg #[.int .i64 i, b]) ⟨i, ss⟩ := ⟨b, rfl, h1, h1.inR⟩
/-- The answer of a function that gives a walk. -/
def WOut (w : World) (x : Wlk) (e : Ending) (w' : World) : Prop := ∃ v, e = .returned v ∧ OwnW w.heap.size w'.heap.size w' v x ∧ Since w w'
/-- The answer of a function that gives a walk and a truth value. -/
def WBOut (w : World) (x : Wlk) (b : Bool) (e : Ending) (w' : World) : Prop := ∃ v, e = .returned (.tuple #[v, .bool b]) ∧ OwnW w.heap.size w'.heap.size w' v x ∧ Since w w'

section
variable (F : Int → Stp → Option Trv)
/-- The traversals of the steps from node x on, if there are such. -/
def fol : Int → List Stp → Option (List Trv)
  | _, [] => some []
  | x, s :: ss => (F x s).bind fun t => (fol t.dst ss).map (t :: ·)
theorem fol_eq (x : Int) (s : Stp) (ss : List Stp) : fol F x (s :: ss) = (F x s).bind fun t => (fol F t.dst ss).map (t :: ·) := rfl
def endT (x : Int) (ts : List Trv) : Int := ts.foldl (fun _ t => t.dst) x
theorem endT_snoc (x : Int) (ts : List Trv) (t : Trv) : endT x (ts ++ [t]) = t.dst := by simp [endT]
theorem fol_append (x : Int) (ss rr : List Stp) : fol F x (ss ++ rr) = (fol F x ss).bind fun ts => (fol F (endT x ts) rr).map (ts ++ ·) := by
  induction ss generalizing x with
  | nil => simp [fol, endT]
  | cons s ss ih =>
    rw [List.cons_append, fol_eq, fol_eq]
    cases h : F x s with
    | none => rfl
    | some t =>
      simp only [Option.bind_some]
      rw [ih]
      cases h2 : fol F t.dst ss with
      | none => rfl
      | some ts =>
        simp only [Option.bind_some, Option.map_some]
        have : endT x (t :: ts) = endT t.dst ts := rfl
        rw [this]
        cases fol F (endT t.dst ts) rr <;> rfl
theorem fol_len {x : Int} {ss : List Stp} {ts : List Trv} (h : fol F x ss = some ts) : ts.length = ss.length := by
  induction ss generalizing x ts with
  | nil => simp [fol] at h; subst h; rfl
  | cons s ss ih =>
    unfold fol at h
    cases h1 : F x s with
    | none => rw [h1] at h; cases h
    | some t =>
      rw [h1] at h
      simp only [Option.bind_some] at h
      cases h2 : fol F t.dst ss with
      | none => rw [h2] at h; cases h
      | some us =>
        rw [h2] at h
        simp only [Option.map_some, Option.some.injEq] at h
        subst h
        simp [ih h2]
theorem fol_step {x : Int} {ss : List Stp} {ts : List Trv} {t : Trv} {k : Nat} (hk : k < ss.length) (h : fol F x (ss.take k) = some ts) (ht : F (endT x ts) ss[k] = some t) : fol F x (ss.take (k + 1)) = some (ts ++ [t]) := by
  rw [List.take_succ_eq_append_getElem hk, fol_append, h]
  simp [fol, ht]
theorem fol_stop {x : Int} {ss : List Stp} {ts : List Trv} {k : Nat} (hk : k < ss.length) (h : fol F x (ss.take k) = some ts) (ht : F (endT x ts) ss[k] = none) : fol F x ss = none := by
  have e : ss = ss.take (k + 1) ++ ss.drop (k + 1) := (List.take_append_drop _ _).symm
  rw [e, fol_append, List.take_succ_eq_append_getElem hk, fol_append, h]
  simp [fol, ht]
theorem fol_done {x : Int} {ss : List Stp} {ts : List Trv} {k : Nat} (hk : k = ss.length) (h : fol F x (ss.take k) = some ts) : fol F x ss = some ts := by
  rw [List.take_of_length_le (by omega)] at h; exact h
theorem fol_ends {x : Int} {ss : List Stp} {ts : List Trv} {k : Nat} (h : fol F x (ss.take k) = some ts) (hk : k ≤ ss.length) : ts.length = k := by
  rw [fol_len F h, List.length_take]; omega
end
/-- The nodes that a walk visits. -/
def nodesT (x : Int) (ts : List Trv) : List Int := x :: ts.map Trv.dst
theorem nodesT_len (x : Int) (ts : List Trv) : (nodesT x ts).length = ts.length + 1 := by simp [nodesT]
theorem nodesT_snoc (x : Int) (ts : List Trv) (t : Trv) : nodesT x (ts ++ [t]) = nodesT x ts ++ [t.dst] := by simp [nodesT]
theorem nodesT_last (x : Int) (ts : List Trv) (h : ts.length < (nodesT x ts).length) : (nodesT x ts)[ts.length] = endT x ts := by
  rcases List.eq_nil_or_concat ts with rfl | ⟨us, t, rfl⟩
  · rfl
  · simp only [List.concat_eq_append] at h ⊢
    rw [endT_snoc]
    have e := nodesT_snoc x us t
    simp only [e]
    rw [List.getElem_append_right (by simp [nodesT])]
    simp [nodesT]

/-- The traversal of step s from node x, if there is one. -/
def trvF (es : List Edg) (x : Int) (s : Stp) : Option Trv := (travL es).find? fun t => decide (t.st = s) && t.fr == x
def kpN (x : Int) (s : Stp) (t : Trv) : Bool := !(decide (t.st = s) && t.fr == x)
theorem trvF_hit {es : List Edg} {x : Int} {s : Stp} {k : Nat} (hk : k < (travL es).length) (h : idxP (kpN x s) (travL es) = k) : trvF es x s = some (travL es)[k] := by
  rcases idxP_cases (kpN x s) (travL es) with ⟨h1, _⟩ | ⟨k', hk', h1, h2, h3⟩
  · omega
  · obtain rfl : k' = k := by omega
    unfold trvF
    refine List.find?_eq_some_iff_getElem.2 ⟨by simpa [kpN] using h3, k', hk', rfl, fun j hj => ?_⟩
    have := h2 j hj (by omega)
    simpa [kpN] using this
theorem trvF_miss {es : List Edg} {x : Int} {s : Stp} (h : idxP (kpN x s) (travL es) = -1) : trvF es x s = none := by
  rcases idxP_cases (kpN x s) (travL es) with ⟨h1, h2⟩ | ⟨k', hk', h1, h2, h3⟩
  · unfold trvF
    refine List.find?_eq_none.2 fun t ht => ?_
    have := h2 t ht
    simp only [kpN, Bool.not_eq_true'] at this
    rw [this]; simp
  · omega
theorem trvF_mem {es : List Edg} {x : Int} {s : Stp} {t : Trv} (h : trvF es x s = some t) : t ∈ travL es ∧ t.st = s ∧ t.fr = x := by
  have h1 := List.mem_of_find?_eq_some h
  have h2 := List.find?_some h
  simp at h2
  exact ⟨h1, h2.1, h2.2⟩
theorem pickT_mem {es : List Edg} {k : Nat} (hk : k < es.length) (b : Bool) : pickT es[k] b ∈ travL es := by
  unfold travL
  refine List.mem_flatMap.2 ⟨es[k], List.getElem_mem hk, ?_⟩
  cases b <;> simp [pickT, both]
theorem ids_before {es : List Edg} (hs : es.Pairwise idLt) {k : Nat} (hk : k < es.length) {i : Int} (h : (es[k]).id = i) : ∀ j (hj : j < k), (es[j]'(by omega)).id ≠ i := by
  intro j hj
  have := List.pairwise_iff_getElem.1 hs j k (by omega) hk hj
  unfold idLt at this; omega
theorem trvF_some {es : List Edg} (hs : es.Pairwise idLt) {x : Int} {s : Stp} {k : Nat} (hk : k < es.length) (h : (es[k]).id = s.id) (hx : (pickT es[k] s.inv).fr = x) : trvF es x s = some (pickT es[k] s.inv) := by
  have ht := tOf_travL es s k hk h (ids_before hs hk h)
  have hst : (pickT es[k] s.inv).st = s := by
    obtain ⟨i, b⟩ := s
    dsimp only at h ⊢
    cases b <;> simp [pickT, fwdT, invT, Trv.st, h]
  cases e : trvF es x s with
  | none =>
    have := List.find?_eq_none.1 e _ (pickT_mem hk s.inv)
    simp [hst, hx] at this
  | some t =>
    obtain ⟨m1, m2, _⟩ := trvF_mem e
    rw [← ht, ← m2, tOf_self hs m1]
theorem trvF_far {es : List Edg} (hs : es.Pairwise idLt) {x : Int} {s : Stp} {k : Nat} (hk : k < es.length) (h : (es[k]).id = s.id) (hx : (pickT es[k] s.inv).fr ≠ x) : trvF es x s = none := by
  have ht := tOf_travL es s k hk h (ids_before hs hk h)
  cases e : trvF es x s with
  | none => rfl
  | some t =>
    obtain ⟨m1, m2, m3⟩ := trvF_mem e
    rw [← ht, ← m2, tOf_self hs m1] at hx
    exact absurd m3 hx
theorem trvF_noedge {es : List Edg} {x : Int} {s : Stp} (h : ∀ j (hj : j < es.length), (es[j]).id ≠ s.id) : trvF es x s = none := by
  cases e : trvF es x s with
  | none => rfl
  | some t =>
    obtain ⟨m1, m2, m3⟩ := trvF_mem e
    obtain ⟨e', he', hte⟩ := travL_mem m1
    obtain ⟨j, hj, rfl⟩ := List.getElem_of_mem he'
    refine absurd ?_ (h j hj)
    rw [← m2]
    rcases hte with rfl | rfl <;> rfl
theorem trvF_tof {g : Grf} (hv : validB g = true) {x : Int} {s : Stp} {t : Trv} (h : trvF g.es x s = some t) : tOf (travG g) s = t := by
  obtain ⟨m1, m2, _⟩ := trvF_mem h
  unfold travG
  rw [if_pos hv, ← m2]
  exact tOf_self ((validB_iff g).1 hv).2.2.2 m1
theorem fol_tof {g : Grf} (hv : validB g = true) {x : Int} {ss : List Stp} {ts : List Trv} (h : fol (trvF g.es) x ss = some ts) : ts = ss.map (tOf (travG g)) := by
  induction ss generalizing x ts with
  | nil => simp [fol] at h; subst h; rfl
  | cons s ss ih =>
    unfold fol at h
    cases h1 : trvF g.es x s with
    | none => rw [h1] at h; cases h
    | some t =>
      rw [h1] at h
      simp only [Option.bind_some] at h
      cases h2 : fol (trvF g.es) t.dst ss with
      | none => rw [h2] at h; cases h
      | some us =>
        rw [h2] at h
        simp only [Option.map_some, Option.some.injEq] at h
        subst h
        rw [List.map_cons, trvF_tof hv h1, ih h2]
theorem fol_st {es : List Edg} {x : Int} {ss : List Stp} {ts : List Trv} (h : fol (trvF es) x ss = some ts) : ts.map Trv.st = ss := by
  induction ss generalizing x ts with
  | nil => simp [fol] at h; subst h; rfl
  | cons s ss ih =>
    unfold fol at h
    cases h1 : trvF es x s with
    | none => rw [h1] at h; cases h
    | some t =>
      rw [h1] at h
      simp only [Option.bind_some] at h
      cases h2 : fol (trvF es) t.dst ss with
      | none => rw [h2] at h; cases h
      | some us =>
        rw [h2] at h
        simp only [Option.map_some, Option.some.injEq] at h
        subst h
        rw [List.map_cons, (trvF_mem h1).2.1, ih h2]
/-- The traversals of a walk, if it is one of the graph. -/
def okW (g : Grf) (x : Wlk) : Bool := validB g && inB x.st 0 ((g.vs.length : Int) - 1) && decide (x.ss.length ≤ 60)
def folG (g : Grf) (x : Wlk) : Option (List Trv) := if okW g x = true then fol (trvF g.es) x.st x.ss else none
theorem folG_inval {g : Grf} {x : Wlk} (h : validB g = false) : folG g x = none := by unfold folG okW; rw [h]; rfl
theorem folG_out {g : Grf} {x : Wlk} (h : inB x.st 0 ((g.vs.length : Int) - 1) = false) : folG g x = none := by unfold folG okW; rw [h, Bool.and_false]; rfl
theorem folG_long {g : Grf} {x : Wlk} (h : 60 < x.ss.length) : folG g x = none := by
  unfold folG okW; rw [decide_eq_false (show ¬ x.ss.length ≤ 60 by omega), Bool.and_false]; rfl
theorem folG_in {g : Grf} {x : Wlk} (h : validB g = true) (h2 : inB x.st 0 ((g.vs.length : Int) - 1) = true) (h3 : x.ss.length ≤ 60) : folG g x = fol (trvF g.es) x.st x.ss := by
  unfold folG okW; rw [h, h2, decide_eq_true h3]; rfl
theorem folG_some {g : Grf} {x : Wlk} {ts : List Trv} (h : folG g x = some ts) : validB g = true ∧ inB x.st 0 ((g.vs.length : Int) - 1) = true ∧ x.ss.length ≤ 60 ∧ fol (trvF g.es) x.st x.ss = some ts := by
  unfold folG at h
  split at h
  · rename_i hk
    unfold okW at hk
    simp only [Bool.and_eq_true, decide_eq_true_eq] at hk
    exact ⟨hk.1.1, hk.1.2, hk.2, h⟩
  · cases h
theorem folG_len {g : Grf} {x : Wlk} {ts : List Trv} (h : folG g x = some ts) : ts.length = x.ss.length ∧ ts.length ≤ 60 := by
  obtain ⟨_, _, h3, h4⟩ := folG_some h
  have := fol_len _ h4
  omega
def validW (g : Grf) (x : Wlk) : Bool := (folG g x).isSome
def nodesW (g : Grf) (x : Wlk) : List Int := match folG g x with | some ts => nodesT x.st ts | none => []
def endW (g : Grf) (x : Wlk) : Int := match folG g x with | some ts => endT x.st ts | none => -1
def wordW (g : Grf) (x : Wlk) : List Int := match folG g x with | some ts => ts.map Trv.le | none => []
def edgesW (x : Wlk) : List Int := x.ss.map Stp.id
def trailW (g : Grf) (x : Wlk) : Bool := validW g x && decide (edgesW x).Nodup
def simpleW (g : Grf) (x : Wlk) : Bool := validW g x && decide (nodesW g x).Nodup
def turnS (s : Stp) : Stp := ⟨s.id, !s.inv⟩
def revX (g : Grf) (x : Wlk) : Wlk := if validW g x = true then ⟨endW g x, (x.ss.map turnS).reverse⟩ else ⟨0, []⟩
end Go.Proofs.Ytilkheclimammaa
