/- Reversed walks, simple paths: the mathematics alone. -/
import Derived.Test.YtilkheclimammaaWkM
import Derived.Test.YtilkheclimammaaWord
namespace Go.Proofs.Ytilkheclimammaa
set_option maxRecDepth 100000
open Go.ChangeShapes Go.WideShapes Go.ChangeAt Go.RowKit
set_option linter.unusedVariables false

def turnT (t : Trv) : Trv := ⟨t.id, !t.inv, t.dst, t.fr, if t.inv = true then t.le - 1 else t.le + 1⟩
theorem turnT_fwd (e : Edg) : turnT (fwdT e) = invT e := rfl
theorem turnT_inv (e : Edg) : turnT (invT e) = fwdT e := by unfold turnT invT fwdT; simp
theorem turnT_mem {es : List Edg} {t : Trv} (h : t ∈ travL es) : turnT t ∈ travL es := by
  unfold travL at h ⊢
  obtain ⟨e, he, ht⟩ := List.mem_flatMap.1 h
  refine List.mem_flatMap.2 ⟨e, he, ?_⟩
  have : t = fwdT e ∨ t = invT e := by simpa [both] using ht
  rcases this with rfl | rfl
  · rw [turnT_fwd]; simp [both]
  · rw [turnT_inv]; simp [both]
theorem trvF_iff {es : List Edg} (hs : es.Pairwise idLt) {x : Int} {s : Stp} {t : Trv} : trvF es x s = some t ↔ t ∈ travL es ∧ t.st = s ∧ t.fr = x := by
  constructor
  · exact trvF_mem
  · rintro ⟨h1, h2, h3⟩
    cases e : trvF es x s with
    | none =>
      have := List.find?_eq_none.1 e _ h1
      simp [h2, h3] at this
    | some u =>
      obtain ⟨m1, m2, _⟩ := trvF_mem e
      have a := tOf_self hs h1
      have b := tOf_self hs m1
      rw [h2] at a; rw [m2] at b
      rw [← a, ← b]
theorem trvF_turn {es : List Edg} (hs : es.Pairwise idLt) {x : Int} {s : Stp} {t : Trv} (h : trvF es x s = some t) : trvF es t.dst (turnS s) = some (turnT t) := by
  obtain ⟨m1, m2, m3⟩ := (trvF_iff hs).1 h
  refine (trvF_iff hs).2 ⟨turnT_mem m1, ?_, rfl⟩
  rw [← m2]; rfl
def backT (ts : List Trv) : List Trv := (ts.map turnT).reverse
def backS (ss : List Stp) : List Stp := (ss.map turnS).reverse
theorem backS_back (ss : List Stp) : backS (backS ss) = ss := by
  unfold backS
  rw [List.map_reverse, List.reverse_reverse, List.map_map]
  have : turnS ∘ turnS = id := by funext s; cases s; simp [turnS]
  rw [this, List.map_id]
theorem backS_length (ss : List Stp) : (backS ss).length = ss.length := by simp [backS]
theorem fol_cons {F : Int → Stp → Option Trv} {x : Int} {s : Stp} {ss : List Stp} {ts : List Trv} (h : fol F x (s :: ss) = some ts) : ∃ t us, ts = t :: us ∧ F x s = some t ∧ fol F t.dst ss = some us := by
  unfold fol at h
  cases h1 : F x s with
  | none => rw [h1] at h; cases h
  | some t =>
    rw [h1] at h
    simp only [Option.bind_some] at h
    cases h2 : fol F t.dst ss with
    | none => rw [h2] at h; cases h
    | some us =>
      rw [h2] at h
      simp only [Option.map_some, Option.some.injEq] at h
      exact ⟨t, us, h.symm, rfl, h2⟩
theorem fol_back {es : List Edg} (hs : es.Pairwise idLt) {x : Int} {ss : List Stp} {ts : List Trv} (h : fol (trvF es) x ss = some ts) : fol (trvF es) (endT x ts) (backS ss) = some (backT ts) ∧ endT (endT x ts) (backT ts) = x := by
  induction ss generalizing x ts with
  | nil => simp [fol] at h; subst h; exact ⟨rfl, rfl⟩
  | cons s ss ih =>
    obtain ⟨t, us, rfl, h1, h2⟩ := fol_cons h
    obtain ⟨a, b⟩ := ih h2
    have e1 : endT x (t :: us) = endT t.dst us := rfl
    have e2 : backS (s :: ss) = backS ss ++ [turnS s] := by simp [backS]
    have e3 : backT (t :: us) = backT us ++ [turnT t] := by simp [backT]
    rw [e1, e2, e3]
    refine ⟨?_, ?_⟩
    · rw [fol_append, a]
      simp only [Option.bind_some]
      rw [b]
      have := trvF_turn hs h1
      simp [fol, this]
    · rw [endT_snoc]
      exact (trvF_mem h1).2.2
theorem ends_mem {F : Int → Stp → Option Trv} (hF : ∀ x s t, F x s = some t → t.fr = x) {x : Int} {ss : List Stp} {ts : List Trv} (h : fol F x ss = some ts) {t : Trv} (ht : t ∈ ts) : t.fr ∈ nodesT x ts ∧ t.dst ∈ nodesT x ts := by
  induction ss generalizing x ts with
  | nil => simp [fol] at h; subst h; cases ht
  | cons s ss ih =>
    obtain ⟨u, us, rfl, h1, h2⟩ := fol_cons h
    have e : nodesT x (u :: us) = x :: nodesT u.dst us := rfl
    rw [e]
    rcases List.mem_cons.1 ht with rfl | ht
    · rw [hF _ _ _ h1]
      exact ⟨List.mem_cons_self, List.mem_cons_of_mem _ (List.mem_cons_self)⟩
    · obtain ⟨a, b⟩ := ih h2 ht
      exact ⟨List.mem_cons_of_mem _ a, List.mem_cons_of_mem _ b⟩
theorem same_edge {es : List Edg} (hs : es.Pairwise idLt) {t u : Trv} (ht : t ∈ travL es) (hu : u ∈ travL es) (h : t.id = u.id) : t.fr = u.fr ∨ t.fr = u.dst := by
  obtain ⟨e, he, ht'⟩ := travL_mem ht
  obtain ⟨f, hf, hu'⟩ := travL_mem hu
  have hid : e.id = f.id := by
    rcases ht' with rfl | rfl <;> rcases hu' with rfl | rfl <;> exact h
  have hef : e = f := by
    obtain ⟨i, hi, rfl⟩ := List.getElem_of_mem he
    obtain ⟨j, hj, rfl⟩ := List.getElem_of_mem hf
    rcases Nat.lt_trichotomy i j with hij | hij | hij
    · have := List.pairwise_iff_getElem.1 hs i j hi hj hij; unfold idLt at this; omega
    · subst hij; rfl
    · have := List.pairwise_iff_getElem.1 hs j i hj hi hij; unfold idLt at this; omega
  subst hef
  rcases ht' with rfl | rfl <;> rcases hu' with rfl | rfl <;> simp [fwdT, invT]
theorem simple_ids {es : List Edg} (hs : es.Pairwise idLt) {x : Int} {ss : List Stp} {ts : List Trv} (h : fol (trvF es) x ss = some ts) (hn : (nodesT x ts).Nodup) : (ts.map Trv.id).Nodup := by
  induction ss generalizing x ts with
  | nil => simp [fol] at h; subst h; exact List.nodup_nil
  | cons s ss ih =>
    obtain ⟨t, us, rfl, h1, h2⟩ := fol_cons h
    have e : nodesT x (t :: us) = x :: nodesT t.dst us := rfl
    rw [e, List.nodup_cons] at hn
    rw [List.map_cons, List.nodup_cons]
    refine ⟨fun hm => ?_, ih h2 hn.2⟩
    obtain ⟨u, hu, hid⟩ := List.mem_map.1 hm
    obtain ⟨a, b⟩ := ends_mem (fun x s t k => (trvF_mem k).2.2) h2 hu
    have hut : u ∈ travL es := by
      have key : ∀ {y : Int} {rr : List Stp} {vs : List Trv}, fol (trvF es) y rr = some vs → ∀ v ∈ vs, v ∈ travL es := by
        intro y rr
        induction rr generalizing y with
        | nil => intro vs k v hv; simp [fol] at k; subst k; cases hv
        | cons r rr ih2 =>
          intro vs k v hv
          obtain ⟨v0, vs0, rfl, k1, k2⟩ := fol_cons k
          rcases List.mem_cons.1 hv with rfl | hv
          · exact (trvF_mem k1).1
          · exact ih2 k2 v hv
      exact key h2 u hu
    obtain ⟨m1, _, m3⟩ := trvF_mem h1
    rcases same_edge hs m1 hut hid.symm with k | k
    · rw [m3] at k; exact hn.1 (by rw [k]; exact a)
    · rw [m3] at k; exact hn.1 (by rw [k]; exact b)
/-- A simple path is a trail. -/
theorem simple_trail (g : Grf) (x : Wlk) (h : simpleW g x = true) : trailW g x = true := by
  unfold simpleW at h
  simp only [Bool.and_eq_true, decide_eq_true_eq] at h
  obtain ⟨h1, h2⟩ := h
  unfold trailW
  rw [h1, Bool.true_and, decide_eq_true_eq]
  unfold validW at h1
  obtain ⟨ts, hts⟩ := Option.isSome_iff_exists.1 h1
  obtain ⟨v1, v2, v3, v4⟩ := folG_some hts
  unfold nodesW at h2
  rw [hts] at h2
  have := simple_ids ((validB_iff g).1 v1).2.2.2 v4 h2
  have e := fol_st v4
  unfold edgesW
  rw [← e, List.map_map]
  exact this
theorem endT_node {g : Grf} (hv : validB g = true) {x : Int} {ss : List Stp} {ts : List Trv} (hx : inB x 0 ((g.vs.length : Int) - 1) = true) (h : fol (trvF g.es) x ss = some ts) : inB (endT x ts) 0 ((g.vs.length : Int) - 1) = true := by
  induction ss generalizing x ts with
  | nil => simp [fol] at h; subst h; exact hx
  | cons s ss ih =>
    obtain ⟨t, us, rfl, h1, h2⟩ := fol_cons h
    have e : endT x (t :: us) = endT t.dst us := rfl
    rw [e]
    refine ih ?_ h2
    obtain ⟨e', he', ht⟩ := travL_mem (trvF_mem h1).1
    have hok := ((validB_iff g).1 hv).2.2.1 e' he'
    unfold EdOk at hok
    rcases ht with rfl | rfl
    · exact inB_true (by show (0 : Int) ≤ e'.to; omega) (by show e'.to ≤ _; omega)
    · exact inB_true (by show (0 : Int) ≤ e'.fr; omega) (by show e'.fr ≤ _; omega)
/-- The reversed walk of a walk: its traversals. -/
theorem folG_rev {g : Grf} {x : Wlk} {ts : List Trv} (h : folG g x = some ts) : revX g x = ⟨endT x.st ts, backS x.ss⟩ ∧ folG g (revX g x) = some (backT ts) ∧ endT (endT x.st ts) (backT ts) = x.st := by
  obtain ⟨v1, v2, v3, v4⟩ := folG_some h
  have hs := ((validB_iff g).1 v1).2.2.2
  obtain ⟨b1, b2⟩ := fol_back hs v4
  have e : revX g x = ⟨endT x.st ts, backS x.ss⟩ := by
    unfold revX validW endW
    rw [h]; rfl
  refine ⟨e, ?_, b2⟩
  rw [e, folG_in v1 (endT_node v1 v2 v4) (by show (backS x.ss).length ≤ 60; rw [backS_length]; exact v3)]
  exact b1
theorem rev_rev {g : Grf} {x : Wlk} (h : validW g x = true) : revX g (revX g x) = x := by
  unfold validW at h
  obtain ⟨ts, hts⟩ := Option.isSome_iff_exists.1 h
  obtain ⟨a, b, c⟩ := folG_rev hts
  obtain ⟨a2, _, _⟩ := folG_rev b
  rw [a2]
  rw [Wlk.eq_iff]
  rw [a]
  exact ⟨c, backS_back _⟩
theorem rev_end {g : Grf} {x : Wlk} (h : validW g x = true) : endW g (revX g x) = x.st ∧ (revX g x).st = endW g x ∧ validW g (revX g x) = true := by
  unfold validW at h
  obtain ⟨ts, hts⟩ := Option.isSome_iff_exists.1 h
  obtain ⟨a, b, c⟩ := folG_rev hts
  refine ⟨?_, ?_, ?_⟩
  · unfold endW; rw [b]; rw [a]; exact c
  · rw [a]; unfold endW; rw [hts]
  · unfold validW; rw [b]; rfl
theorem turn_le {g : Grf} (hv : validB g = true) {t : Trv} (h : t ∈ travL g.es) : (turnT t).le = invL t.le := by
  obtain ⟨e, he, ht⟩ := travL_mem h
  have hok := ((validB_iff g).1 hv).2.2.1 e he
  unfold EdOk at hok
  have h3 : e.lb = 0 ∨ e.lb = 1 ∨ e.lb = 2 := by omega
  rcases ht with rfl | rfl
  · show 2 * e.lb + 1 = invL (2 * e.lb)
    rcases h3 with k | k | k <;> rw [k] <;> decide
  · rw [turnT_inv]
    show 2 * e.lb = invL (2 * e.lb + 1)
    rcases h3 with k | k | k <;> rw [k] <;> decide
theorem fol_mem {es : List Edg} {x : Int} {ss : List Stp} {ts : List Trv} (h : fol (trvF es) x ss = some ts) : ∀ t ∈ ts, t ∈ travL es := by
  induction ss generalizing x ts with
  | nil => intro v hv; simp [fol] at h; subst h; cases hv
  | cons r rr ih =>
    intro v hv
    obtain ⟨v0, vs0, rfl, k1, k2⟩ := fol_cons h
    rcases List.mem_cons.1 hv with rfl | hv
    · exact (trvF_mem k1).1
    · exact ih k2 v hv
theorem rev_word {g : Grf} {x : Wlk} (h : validW g x = true) : wordW g (revX g x) = revW (wordW g x) := by
  unfold validW at h
  obtain ⟨ts, hts⟩ := Option.isSome_iff_exists.1 h
  obtain ⟨a, b, c⟩ := folG_rev hts
  obtain ⟨v1, v2, v3, v4⟩ := folG_some hts
  unfold wordW
  rw [b, hts]
  show (backT ts).map Trv.le = ((ts.map Trv.le).map invL).reverse
  unfold backT
  rw [List.map_reverse, List.map_map, List.map_map]
  congr 1
  apply List.map_congr_left
  intro t ht
  exact turn_le v1 (fol_mem v4 t ht)
end Go.Proofs.Ytilkheclimammaa
