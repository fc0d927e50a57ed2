/- What changes make of a graph, one after the other; what stays of a batch: plain mathematics. -/
import Derived.Test.YtgdeiecbkmhbeaaChg
namespace Go.Proofs.Ytgdeiecbkmhbeaa
set_option maxRecDepth 100000
set_option linter.unusedVariables false
set_option linter.unusedSimpArgs false

theorem canIns_iff (g : Grf) (e : Edg) : canIns g e = true ↔ Valid g ∧ EdOk g.vs.length e ∧ (∀ j (hj : j < g.es.length), (g.es[j]).id ≠ e.id) ∧ g.es.length ≠ 12 := by
  unfold canIns
  simp only [Bool.and_eq_true, validB_iff, edB_iff, decide_eq_true_eq]
  constructor
  · rintro ⟨⟨⟨h1, h2⟩, h3⟩, h4⟩
    refine ⟨h1, h2, ?_, h4⟩
    rcases idxE_cases g.es e.id with ⟨k, hk, a, b, c⟩ | ⟨a, b⟩
    · omega
    · exact b
  · rintro ⟨h1, h2, h3, h4⟩
    exact ⟨⟨⟨h1, h2⟩, by rw [idxE_none h3]; decide⟩, h4⟩
theorem insL_sorted {es : List Edg} (hs : es.Pairwise idLt) {e : Edg} (hn : ∀ j (hj : j < es.length), (es[j]).id ≠ e.id) : (insL es e).Pairwise idLt := by
  unfold insL
  have hle := lbE_le es e.id
  rw [List.pairwise_append]
  have h1 : ∀ a ∈ es.take (lbE es e.id), a.id < e.id := by
    intro a ha
    obtain ⟨i, hi, rfl⟩ := List.getElem_of_mem ha
    rw [List.getElem_take]
    exact lbE_below (by rw [List.length_take] at hi; omega)
  have h2 : ∀ a ∈ es.drop (lbE es e.id), e.id < a.id := by
    intro a ha
    obtain ⟨i, hi, rfl⟩ := List.getElem_of_mem ha
    rw [List.length_drop] at hi
    rw [List.getElem_drop]
    have h3 := lbE_at (es := es) (id := e.id) (by omega)
    have h4 := asc_le hs (i := lbE es e.id) (j := lbE es e.id + i) (by omega) (by omega)
    have h5 := hn (lbE es e.id + i) (by omega)
    omega
  refine ⟨hs.sublist (List.take_sublist _ _), ?_, ?_⟩
  · rw [List.pairwise_cons]
    exact ⟨fun a ha => h2 a ha, hs.sublist (List.drop_sublist _ _)⟩
  · intro a ha b hb
    rcases List.mem_cons.1 hb with rfl | hb
    · exact h1 a ha
    · have := h1 a ha
      have := h2 b hb
      unfold idLt; omega
theorem insL_mem (es : List Edg) (e a : Edg) : a ∈ insL es e ↔ a = e ∨ a ∈ es := by
  unfold insL
  rw [List.mem_append, List.mem_cons]
  constructor
  · rintro (h | h | h)
    · exact .inr (List.mem_of_mem_take h)
    · exact .inl h
    · exact .inr (List.mem_of_mem_drop h)
  · rintro (h | h)
    · exact .inr (.inl h)
    · rw [← List.take_append_drop (lbE es e.id) es] at h
      rcases List.mem_append.1 h with h | h
      · exact .inl h
      · exact .inr (.inr h)
theorem insL_len (es : List Edg) (e : Edg) : (insL es e).length = es.length + 1 := by
  have := lbE_le es e.id
  unfold insL; simp; omega
theorem ins_valid {g : Grf} {e : Edg} (h : canIns g e = true) : Valid ⟨g.vs, insL g.es e⟩ := by
  obtain ⟨⟨⟨a1, a2, a3⟩, a4, a5, a6⟩, b, c, d⟩ := (canIns_iff g e).1 h
  refine ⟨⟨a1, a2, ?_⟩, a4, ?_, insL_sorted a6 c⟩
  · dsimp only; rw [insL_len]; omega
  · intro x hx
    rcases (insL_mem _ _ _).1 hx with rfl | hx
    · exact b
    · exact a5 x hx
theorem delL_sub (es : List Edg) (k : Nat) : (delL es k).Sublist es := by
  unfold delL
  rw [← List.eraseIdx_eq_take_drop_succ]
  exact List.eraseIdx_sublist _ _
theorem del_valid {g : Grf} (hv : Valid g) (k : Nat) : Valid ⟨g.vs, delL g.es k⟩ := by
  obtain ⟨⟨a1, a2, a3⟩, a4, a5, a6⟩ := hv
  exact ⟨⟨a1, a2, Nat.le_trans (delL_sub g.es k).length_le a3⟩, a4, fun x hx => a5 x ((delL_sub g.es k).mem hx), a6.sublist (delL_sub g.es k)⟩
/-- The graph has exactly this edge, where its number says. -/
def hasE (g : Grf) (e : Edg) : Bool := decide (0 ≤ idxE g.es e.id ∧ g.es[(idxE g.es e.id).toNat]? = some e)
theorem hasE_mem {g : Grf} {e : Edg} (h : hasE g e = true) : e ∈ g.es := by
  unfold hasE at h
  exact List.mem_of_getElem? (of_decide_eq_true h).2
theorem mem_hasE {g : Grf} (hs : g.es.Pairwise idLt) {e : Edg} (h : e ∈ g.es) : hasE g e = true := by
  obtain ⟨k, hk, rfl⟩ := List.getElem_of_mem h
  unfold hasE
  have h1 : idxE g.es (g.es[k]).id = k := idxE_at hk rfl fun j hj => by
    have := List.pairwise_iff_getElem.1 hs j k (by omega) hk hj
    unfold idLt at this; omega
  rw [h1]
  simp [hk]
theorem hasE_iff {g : Grf} (hv : validB g = true) (e : Edg) : hasE g e = decide (e ∈ g.es) := by
  have hs := ((validB_iff g).1 hv).2.2.2
  rw [Bool.eq_iff_iff, decide_eq_true_eq]
  exact ⟨hasE_mem, mem_hasE hs⟩
theorem hasE_canDel {g : Grf} (hv : validB g = true) {e : Edg} (h : hasE g e = true) : canDel g e.id = true := by
  unfold hasE at h
  unfold canDel
  rw [hv]
  simpa using (of_decide_eq_true h).1
/-- What one change makes of a graph, if it can be applied. -/
def stepC (g : Grf) (c : Chg) : Option Grf :=
  if c.ins = true then (if canIns g c.ed = true then some (insG g c.ed) else none)
  else (if hasE g c.ed = true ∧ canDel g c.ed.id = true then some (delG g c.ed.id) else none)
def runC (g : Grf) : List Chg → Option Grf
  | [] => some g
  | c :: cs => (stepC g c).bind fun x => runC x cs
theorem stepC_ins {g : Grf} {c : Chg} (h : c.ins = true) (h2 : canIns g c.ed = true) : stepC g c = some (insG g c.ed) := by unfold stepC; rw [if_pos h, if_pos h2]
theorem stepC_noins {g : Grf} {c : Chg} (h : c.ins = true) (h2 : canIns g c.ed = false) : stepC g c = none := by unfold stepC; rw [if_pos h, h2]; rfl
theorem stepC_del {g : Grf} {c : Chg} (h : c.ins = false) (h2 : hasE g c.ed = true) (h3 : canDel g c.ed.id = true) : stepC g c = some (delG g c.ed.id) := by unfold stepC; rw [if_neg (by rw [h]; decide), if_pos ⟨h2, h3⟩]
theorem stepC_nodel {g : Grf} {c : Chg} (h : c.ins = false) (h2 : hasE g c.ed = false ∨ canDel g c.ed.id = false) : stepC g c = none := by
  unfold stepC
  rw [if_neg (by rw [h]; decide), if_neg]
  rintro ⟨a, b⟩
  rcases h2 with h2 | h2
  · rw [a] at h2; cases h2
  · rw [b] at h2; cases h2
theorem stepC_valid {g x : Grf} {c : Chg} (h : stepC g c = some x) : validB x = true := by
  unfold stepC at h
  by_cases hi : c.ins = true
  · rw [if_pos hi] at h
    by_cases h2 : canIns g c.ed = true
    · rw [if_pos h2] at h
      injection h with h
      subst h
      unfold insG
      rw [if_pos h2]
      exact validB_true (ins_valid h2)
    · rw [if_neg h2] at h; cases h
  · rw [if_neg hi] at h
    by_cases h2 : hasE g c.ed = true ∧ canDel g c.ed.id = true
    · rw [if_pos h2] at h
      injection h with h
      subst h
      unfold delG
      rw [if_pos h2.2]
      have hc := h2.2
      unfold canDel at hc
      simp only [Bool.and_eq_true] at hc
      exact validB_true (del_valid ((validB_iff g).1 hc.1) _)
    · rw [if_neg h2] at h; cases h
theorem stepC_vs {g x : Grf} {c : Chg} (h : stepC g c = some x) : x.vs = g.vs := by
  unfold stepC at h
  split at h
  · split at h
    · injection h with h; subst h; unfold insG; split <;> rfl
    · cases h
  · split at h
    · injection h with h; subst h; unfold delG; split <;> rfl
    · cases h
theorem runC_valid {g x : Grf} {cs : List Chg} (hv : validB g = true) (h : runC g cs = some x) : validB x = true := by
  induction cs generalizing g with
  | nil => injection h with h; subst h; exact hv
  | cons c cs ih =>
    unfold runC at h
    cases h1 : stepC g c with
    | none => rw [h1] at h; cases h
    | some y => rw [h1] at h; exact ih (stepC_valid h1) h
theorem runC_append (g : Grf) (cs ds : List Chg) : runC g (cs ++ ds) = (runC g cs).bind fun x => runC x ds := by
  induction cs generalizing g with
  | nil => rfl
  | cons c cs ih =>
    show (stepC g c).bind (fun x => runC x (cs ++ ds)) = ((stepC g c).bind fun x => runC x cs).bind fun x => runC x ds
    cases h1 : stepC g c with
    | none => rfl
    | some y => simp only [Option.bind_some]; exact ih y
theorem runC_step {g x : Grf} {cs : List Chg} {k : Nat} (hk : k < cs.length) (h : runC g (cs.take k) = some x) : runC g (cs.take (k + 1)) = stepC x cs[k] := by
  rw [List.take_succ_eq_append_getElem hk, runC_append, h]
  unfold runC
  simp only [Option.bind_some]
  cases stepC x cs[k] <;> rfl
theorem runC_stop {g x : Grf} {cs : List Chg} {k : Nat} (hk : k < cs.length) (h : runC g (cs.take k) = some x) (hn : stepC x cs[k] = none) : runC g cs = none := by
  have e : cs = cs.take (k + 1) ++ cs.drop (k + 1) := (List.take_append_drop _ _).symm
  rw [e, runC_append, runC_step hk h, hn]; rfl
/-- What ApplyBatch answers. -/
def okB (g : Grf) (cs : List Chg) : Bool := validB g && decide (cs.length ≤ 6)
def appB (g : Grf) (cs : List Chg) : Option Grf := if okB g cs = true then runC g cs else none
def appG (g : Grf) (cs : List Chg) : Grf := (appB g cs).getD g
def appC (g : Grf) (cs : List Chg) : Bool := (appB g cs).isSome
theorem appB_run {g : Grf} {cs : List Chg} (hv : validB g = true) (hl : cs.length ≤ 6) : appB g cs = runC g cs := by
  unfold appB okB; rw [hv, decide_eq_true hl]; rfl
theorem appB_inval {g : Grf} {cs : List Chg} (hv : validB g = false) : appB g cs = none := by
  unfold appB okB; rw [hv]; rfl
theorem appB_long {g : Grf} {cs : List Chg} (hl : 6 < cs.length) : appB g cs = none := by
  unfold appB okB; rw [decide_eq_false (by omega), Bool.and_false]; rfl
theorem app_some {g x : Grf} {cs : List Chg} (h : appB g cs = some x) : appG g cs = x ∧ appC g cs = true := by
  unfold appG appC; rw [h]; exact ⟨rfl, rfl⟩
theorem app_none {g : Grf} {cs : List Chg} (h : appB g cs = none) : appG g cs = g ∧ appC g cs = false := by
  unfold appG appC; rw [h]; exact ⟨rfl, rfl⟩
theorem runC_size {g x : Grf} {cs : List Chg} (hv : validB g = true) (h : runC g cs = some x) : x.vs.length ≤ 5 ∧ x.es.length ≤ 12 := by
  obtain ⟨⟨_, a, b⟩, _⟩ := (validB_iff x).1 (runC_valid hv h)
  exact ⟨a, b⟩
theorem appG_vs (g : Grf) (cs : List Chg) : (appG g cs).vs.length ≤ g.vs.length + 5 := by
  cases h : appB g cs with
  | none => rw [(app_none h).1]; omega
  | some x =>
    rw [(app_some h).1]
    unfold appB okB at h
    split at h
    · rename_i hk
      simp only [Bool.and_eq_true] at hk
      have := runC_size hk.1 h; omega
    · cases h
theorem appG_es (g : Grf) (cs : List Chg) : (appG g cs).es.length ≤ g.es.length + 12 := by
  cases h : appB g cs with
  | none => rw [(app_none h).1]; omega
  | some x =>
    rw [(app_some h).1]
    unfold appB okB at h
    split at h
    · rename_i hk
      simp only [Bool.and_eq_true] at hk
      have := runC_size hk.1 h; omega
    · cases h
/-- A change turned into its opposite; a batch turned back. -/
def turnC (c : Chg) : Chg := ⟨!c.ins, c.ed⟩
def invB (cs : List Chg) : List Chg := (cs.map turnC).reverse
theorem invB_len (cs : List Chg) : (invB cs).length = cs.length := by simp [invB]
theorem invB_in {cs : List Chg} (h : ∀ x ∈ cs, x.ed.In) : ∀ x ∈ invB cs, x.ed.In := by
  intro x hx
  unfold invB at hx
  obtain ⟨y, hy, rfl⟩ := List.mem_map.1 (List.mem_reverse.1 hx)
  exact h y hy
/-- The batch between two graphs. -/
def missB (es fs : List Edg) (b : Bool) : List Chg := (es.filter fun e => !decide (e ∈ fs)).map fun e => ⟨b, e⟩
def betL (g h : Grf) : List Chg := missB g.es h.es false ++ missB h.es g.es true
def betC (g h : Grf) : Bool := validB g && validB h && decide (g.vs = h.vs) && decide ((betL g h).length ≤ 6)
def betB (g h : Grf) : List Chg := if betC g h = true then betL g h else []
end Go.Proofs.Ytgdeiecbkmhbeaa
