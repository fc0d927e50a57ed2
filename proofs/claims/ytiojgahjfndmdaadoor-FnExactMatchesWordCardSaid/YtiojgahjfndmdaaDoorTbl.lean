/- Tables of truth values in memory: rows of the call's own, apart from each other. -/
import Derived.Test.YtiojgahjfndmdaaDoorTbM
import Derived.Test.YtiojgahjfndmdaaDoorXf
namespace Go.Proofs.YtiojgahjfndmdaaDoor
set_option maxRecDepth 100000
open Go.ChangeShapes Go.WideShapes Go.ChangeAt Go.RowKit
set_option linter.unusedVariables false
set_option linter.unusedSimpArgs false

def rowC (N : Nat) (f : Nat → Bool) : List Value := (List.range N).map fun (j : Nat) => .bool (f j)
theorem rowC_len (N : Nat) (f : Nat → Bool) : (rowC N f).length = N := by simp [rowC]
theorem rowC_at (N : Nat) (f : Nat → Bool) (j : Nat) (h : j < N) : (rowC N f)[j]? = some (.bool (f j)) := by simp [rowC, h]
theorem rowC_set (N : Nat) (f g : Nat → Bool) (j : Nat) (x : Bool) (h : ∀ i, i < N → g i = if i = j then x else f i) : (rowC N f).set j (.bool x) = rowC N g := by
  apply List.ext_getElem?
  intro i
  by_cases hi : i < N
  · rw [rowC_at _ _ _ hi, h i hi]
    by_cases e : j = i
    · subst e; rw [List.getElem?_set_self (by rw [rowC_len]; exact hi)]; simp
    · rw [List.getElem?_set_ne e, rowC_at _ _ _ hi]; simp [show ¬ i = j from fun e2 => e e2.symm]
  · rw [List.getElem?_eq_none (by rw [List.length_set, rowC_len]; omega), List.getElem?_eq_none (by rw [rowC_len]; omega)]
theorem rowC_congr {N : Nat} {f g : Nat → Bool} (h : ∀ j, j < N → f j = g j) : rowC N f = rowC N g := by
  unfold rowC
  exact List.map_congr_left fun j hj => by rw [h j (List.mem_range.1 hj)]
abbrev rowV (N b : Nat) : Value := .slice (some ⟨b, 0, none⟩) N N
/-- v is a slice of k rows of N truth values, f tells them; rows and slice lie from base on, the rows apart. -/
def OwnTab (base : Nat) (w : World) (v : Value) (k N : Nat) (f : Tb) : Prop := ∃ bs : List Nat, bs.length = k ∧ bs.Nodup ∧ (∀ b ∈ bs, base ≤ b) ∧ w.ownsRow base 114 1 v k (bs.map (rowV N)) ∧ ∀ i (h : i < bs.length), Blk w bs[i] 4 (rowC N (f i)).toArray
theorem OwnTab.since {base k N : Nat} {w w' : World} {v : Value} {f : Tb} (h : OwnTab base w v k N f) (q : Since w w') : OwnTab base w' v k N f := by
  obtain ⟨bs, h1, h2, h3, h4, h5⟩ := h
  exact ⟨bs, h1, h2, h3, row_since h4 q, fun i hi => (h5 i hi).since q⟩
theorem ownsRow_mono {base base' size n : Nat} {e : TypeId} {w : World} {v : Value} {xs : List Value} (h : w.ownsRow base e size v n xs) (hb : base' ≤ base) : w.ownsRow base' e size v n xs := by
  refine ⟨h.1, ?_⟩
  rcases h.2 with h3 | ⟨g, cap, cur, hv, hg, hr⟩
  · exact .inl h3
  · exact .inr ⟨g, cap, cur, hv, Nat.le_trans hb hg, hr⟩
theorem OwnTab.mono {base base' k N : Nat} {w : World} {v : Value} {f : Tb} (h : OwnTab base w v k N f) (hb : base' ≤ base) : OwnTab base' w v k N f := by
  obtain ⟨bs, h1, h2, h3, h4, h5⟩ := h
  exact ⟨bs, h1, h2, fun b hq => Nat.le_trans hb (h3 b hq), ownsRow_mono h4 hb, h5⟩
theorem OwnTab.congr {base k N : Nat} {w : World} {v : Value} {f g : Tb} (h : OwnTab base w v k N f) (e : ∀ i j, i < k → j < N → f i j = g i j) : OwnTab base w v k N g := by
  obtain ⟨bs, h1, h2, h3, h4, h5⟩ := h
  exact ⟨bs, h1, h2, h3, h4, fun i hi => by rw [← rowC_congr (f := f i) (fun j hj => e i j (by omega) hj)]; exact h5 i hi⟩
/-- Blocks of the types that tables are made of stand. -/
theorem ownsRow_typed {base size n : Nat} {e : TypeId} {w w' : World} {v : Value} {xs : List Value} (h : w.ownsRow base e size v n xs) (k : ∀ g cs, Blk w g e cs → Blk w' g e cs) : w'.ownsRow base e size v n xs := by
  refine ⟨h.1, ?_⟩
  rcases h.2 with h3 | ⟨g, cap, cur, hv, hg, hb, hr⟩
  · exact .inl h3
  · exact .inr ⟨g, cap, cur, hv, hg, k g cur hb, hr⟩
theorem OwnTab.keep {base k N : Nat} {w w' : World} {v : Value} {f : Tb} (h : OwnTab base w v k N f) (q : ∀ g cs t, (t = 4 ∨ t = 114) → Blk w g t cs → Blk w' g t cs) : OwnTab base w' v k N f := by
  obtain ⟨bs, h1, h2, h3, h4, h5⟩ := h
  exact ⟨bs, h1, h2, h3, ownsRow_typed h4 (fun g cs hb => q g cs _ (.inr rfl) hb), fun i hi => q _ _ _ (.inl rfl) (h5 i hi)⟩
/-- Where a table's cells lie. -/
theorem OwnTab.at {base k N : Nat} {w : World} {v : Value} {f : Tb} (h : OwnTab base w v k N f) (i : Nat) (hi : i < k) :
    ∃ g cap b, v = .slice (some ⟨g, 0, none⟩) k cap ∧ w.cell? ⟨g, i, none⟩ = some (rowV N b) ∧ (∀ j, j < N → w.cell? ⟨b, j, none⟩ = some (.bool (f i j)) ∧ w.frozen? ⟨b, j, none⟩ = false) ∧ base ≤ b ∧ b < w.heap.size ∧
      (∀ (j : Nat) (x : Bool), j < N → OwnTab base (w.setCell ⟨b, j, none⟩ (.bool x)) v k N (setT f i j x)) ∧ Blk w b 4 (rowC N (f i)).toArray := by
  obtain ⟨bs, h1, h2, h3, h4, h5⟩ := h
  have hib : i < bs.length := by omega
  rcases h4.2 with ⟨_, h0⟩ | ⟨g, cap, cur, rfl, hgb, hg, hr⟩
  · omega
  have hc := h4.cellAt i (by omega)
  refine ⟨g, cap, bs[i], rfl, ?_, fun j hj => ⟨?_, (h5 i hib).frozen j⟩, h3 _ (List.getElem_mem hib), (h5 i hib).lt, ?_, h5 i hib⟩
  · rw [hc]; simp [hib]
  · rw [(h5 i hib).cell, ← Array.getElem?_toList]; exact rowC_at _ _ _ hj
  · intro j x hj
    have hbg : g ≠ bs[i] := by
      intro e
      have h6 : w.heap[bs[i]]? = some (.cells (rowC N (f i)).toArray 4 (0, 0)) := h5 i hib
      rw [← e, hg] at h6
      injection h6 with h6
      injection h6 with _ h6
      exact absurd h6 (by decide)
    refine ⟨bs, h1, h2, h3, ?_, fun i2 hi2 => ?_⟩
    · refine ⟨h4.1, .inr ⟨g, cap, cur, rfl, hgb, ?_, hr⟩⟩
      exact (Below.heap_setCell w ⟨bs[i], j, none⟩ (.bool x) g hbg).trans hg
    · by_cases e : i2 = i
      · subst e
        have := (h5 i2 hi2).set j (.bool x)
        rw [List.setIfInBounds_toArray, rowC_set N (f i2) (setT f i2 j x i2) j x (fun q _ => by unfold setT; simp)] at this
        exact this
      · have hne : bs[i2] ≠ bs[i] := by
          intro e2
          have hp := List.pairwise_iff_getElem.1 h2
          rcases Nat.lt_or_gt_of_ne e with h | h
          · exact hp i2 i hi2 hib h e2
          · exact hp i i2 hib hi2 h e2.symm
        have hq := (h5 i2 hi2).far (p := ⟨bs[i], j, none⟩) hne (.bool x)
        rw [rowC_congr (f := f i2) (g := setT f i j x i2) (fun q _ => by unfold setT; simp [e])] at hq
        exact hq
/-- One row more. -/
theorem OwnTab.snoc {base k N b : Nat} {w w' : World} {v v' : Value} {f : Tb} (h : OwnTab base w v k N f) (hb : base ≤ b) (hbn : ∀ c t cs, Blk w c t cs → c ≠ b) (hB : Blk w' b 4 (rowC N (f k)).toArray)
    (hk : ∀ g cs, Blk w g 4 cs → Blk w' g 4 cs) (hr : ∀ bs : List Nat, bs.length = k → w.ownsRow base 114 1 v k (bs.map (rowV N)) → w'.ownsRow base 114 1 v' (k + 1) (bs.map (rowV N) ++ [rowV N b])) : OwnTab base w' v' (k + 1) N f := by
  obtain ⟨bs, h1, h2, h3, h4, h5⟩ := h
  refine ⟨bs ++ [b], by simp [h1], ?_, ?_, ?_, ?_⟩
  · rw [List.nodup_append]
    refine ⟨h2, by simp, fun x hx y hy => ?_⟩
    simp at hy; subst hy
    obtain ⟨i, hi, rfl⟩ := List.getElem_of_mem hx
    exact hbn _ _ _ (h5 i hi)
  · intro c hc
    rcases List.mem_append.1 hc with h | h
    · exact h3 c h
    · simp at h; subst h; exact hb
  · rw [List.map_append]; exact hr bs h1 h4
  · intro i hi
    by_cases e : i < bs.length
    · rw [List.getElem_append_left e]; exact hk _ _ (h5 i e)
    · have e2 : i = k := by simp at hi; omega
      subst e2
      have : (bs ++ [b])[i] = b := by rw [List.getElem_append_right (by omega)]; simp
      rw [this]; exact hB
theorem OwnTab.nil0 (base N : Nat) (w : World) (v : Value) (f : Tb) (h : w.ownsRow base 114 1 v 0 []) : OwnTab base w v 0 N f := ⟨[], rfl, List.nodup_nil, fun b hb => by simp at hb, h, fun i hi => by simp at hi⟩
theorem info_sl_bools : (Tryd.prog.info? 114).map (fun i => (i.zero, i.size, i.bytes)) = some (some (.slice none 0 0), 1, 24) := by kernel_rfl
theorem info_sl_bools2 : (Tryd.prog.info? 112).map (fun i => (i.zero, i.size, i.bytes)) = some (some (.slice none 0 0), 1, 24) := by kernel_rfl
theorem info_bool : (Tryd.prog.info? 4).map (fun i => (i.zero, i.size, i.bytes)) = some (some (.bool false), 1, 1) := by kernel_rfl
/-- append of one row. -/
theorem wpList_append_row {w : World} {ops : Array Oper} {rest : List Oper} {o : Oper} {a : Act} {Q : Exit → Act → World → Prop} (hgd : o.guard = none) (s x : Operand)
    (ho : o.op = .call { callee := .builtin .append, args := #[s, x], argTypes := #[112, 112] }) (base : Nat) (v : Value) (n : Nat) (vs : List Value) (hs : a.eval s = v) (hown : w.ownsRow base 114 1 v n vs)
    (z : Value) (hx : a.eval x = .slice (some ⟨w.heap.size, 0, none⟩) 1 1) (hz : z.oneCell' = true) (hlen : n ≤ 4194304) (hb : base ≤ w.heap.size)
    (h : ∀ v' w', w'.ownsRow base 114 1 v' (n + 1) (vs ++ [z]) → (w.alloc (.cells #[z] 114)).grownBy w' v.ownBlock → wpList Tryd.prog ops Q rest (a.put o.dst v') w') : wpList Tryd.prog ops Q (o :: rest) a (w.alloc (.cells #[z] 114)) := by
  obtain ⟨i0, hi, hz0, hz1, hz2⟩ := info_parts info_sl_bools
  have hown' := row_since hown ((Since.refl w).alloc (.cells #[z] 114))
  have hB : Blk (w.alloc (.cells #[z] 114)) w.heap.size 114 #[z] := Blk.new rfl _ _
  refine wpList_append_own _ hgd s x 112 ho base 114 i0 (.slice none 0 0) 1 24 Tryd.underlying112 hi hz0 hz1 hz2 rfl (by decide) v n vs hs hown' ⟨w.heap.size, 0, none⟩ 1 1 [z] hx rfl ?_ (by intro u hu; simp at hu; subst hu; exact hz) (by unfold maxLen; omega) (by omega) (Nat.le_trans hb (by simp)) ?_
  · intro j u hj
    rw [add_plain, Nat.zero_add, hB.cell, ← hj, ← Array.getElem?_toList]
  · intro v' w' h1 h2 _
    exact h v' w' h1 h2
/-- append of one table. -/
theorem wpList_append_tab {w : World} {ops : Array Oper} {rest : List Oper} {o : Oper} {a : Act} {Q : Exit → Act → World → Prop} (hgd : o.guard = none) (s x : Operand)
    (ho : o.op = .call { callee := .builtin .append, args := #[s, x], argTypes := #[111, 111] }) (base : Nat) (v : Value) (n : Nat) (vs : List Value) (hs : a.eval s = v) (hown : w.ownsRow base 112 1 v n vs)
    (z : Value) (hx : a.eval x = .slice (some ⟨w.heap.size, 0, none⟩) 1 1) (hz : z.oneCell' = true) (hlen : n ≤ 4194304) (hb : base ≤ w.heap.size)
    (h : ∀ v' w', w'.ownsRow base 112 1 v' (n + 1) (vs ++ [z]) → (w.alloc (.cells #[z] 112)).grownBy w' v.ownBlock → wpList Tryd.prog ops Q rest (a.put o.dst v') w') : wpList Tryd.prog ops Q (o :: rest) a (w.alloc (.cells #[z] 112)) := by
  obtain ⟨i0, hi, hz0, hz1, hz2⟩ := info_parts info_sl_bools2
  have hown' := row_since hown ((Since.refl w).alloc (.cells #[z] 112))
  have hB : Blk (w.alloc (.cells #[z] 112)) w.heap.size 112 #[z] := Blk.new rfl _ _
  refine wpList_append_own _ hgd s x 111 ho base 112 i0 (.slice none 0 0) 1 24 Tryd.underlying111 hi hz0 hz1 hz2 rfl (by decide) v n vs hs hown' ⟨w.heap.size, 0, none⟩ 1 1 [z] hx rfl ?_ (by intro u hu; simp at hu; subst hu; exact hz) (by unfold maxLen; omega) (by omega) (Nat.le_trans hb (by simp)) ?_
  · intro j u hj
    rw [add_plain, Nat.zero_add, hB.cell, ← hj, ← Array.getElem?_toList]
  · intro v' w' h1 h2 _
    exact h v' w' h1 h2
end Go.Proofs.YtiojgahjfndmdaaDoor
