/- Tbl, TbG, TbJ, TbX: small words and contracts that the other texts use. -/
import Derived.Test.YtiojgahjfndmdaaDoorL0
import Derived.Test.YtiojgahjfndmdaaDoorXf
import Derived.Deep.DeepCutAuto
import Derived.Test.YtiojgahjfndmdaaDoorL5
/- Tables of truth values in memory: rows of the call's own, apart from each other. -/
namespace Go.Proofs.YtiojgahjfndmdaaDoor
set_option maxRecDepth 100000
open Go.ChangeShapes Go.WideShapes Go.ChangeAt Go.RowKit
set_option linter.unusedVariables false
set_option linter.unusedSimpArgs false

def rowC (N : Nat) (f : Nat → Bool) : List Value := (List.range N).map fun (j : Nat) => .bool (f j)
theorem rowC_len (N : Nat) (f : Nat → Bool) : (rowC N f).length = N := by simp [rowC]
theorem rowC_at (N : Nat) (f : Nat → Bool) (j : Nat) (h : j < N) : (rowC N f)[j]? = some (.bool (f j)) := by simp [rowC, h]
theorem rowC_set (N : Nat) (f g : Nat → Bool) (j : Nat) (x : Bool) (h : ∀ i, i < N → g i = if i = j then x else f i) : (rowC N f).set j (.bool x) = rowC N g := by
  apply List.ext_getElem?
  intro i
  by_cases hi : i < N
  · rw [rowC_at _ _ _ hi, h i hi]
    by_cases e : j = i
    · subst e; rw [List.getElem?_set_self (by rw [rowC_len]; exact hi)]; simp
    · rw [List.getElem?_set_ne e, rowC_at _ _ _ hi]; simp [show ¬ i = j from fun e2 => e e2.symm]
  · rw [List.getElem?_eq_none (by rw [List.length_set, rowC_len]; omega), List.getElem?_eq_none (by rw [rowC_len]; omega)]
theorem rowC_congr {N : Nat} {f g : Nat → Bool} (h : ∀ j, j < N → f j = g j) : rowC N f = rowC N g := by
  unfold rowC
  exact List.map_congr_left fun j hj => by rw [h j (List.mem_range.1 hj)]
abbrev rowV (N b : Nat) : Value := .slice (some ⟨b, 0, none⟩) N N
/-- v is a slice of k rows of N truth values, f tells them; rows and slice lie from base on, the rows apart. -/
def OwnTab (base : Nat) (w : World) (v : Value) (k N : Nat) (f : Tb) : Prop := ∃ bs : List Nat, bs.length = k ∧ bs.Nodup ∧ (∀ b ∈ bs, base ≤ b) ∧ w.ownsRow base 114 1 v k (bs.map (rowV N)) ∧ ∀ i (h : i < bs.length), Blk w bs[i] 4 (rowC N (f i)).toArray
theorem OwnTab.since {base k N : Nat} {w w' : World} {v : Value} {f : Tb} (h : OwnTab base w v k N f) (q : Since w w') : OwnTab base w' v k N f := by
  obtain ⟨bs, h1, h2, h3, h4, h5⟩ := h
  exact ⟨bs, h1, h2, h3, row_since h4 q, fun i hi => (h5 i hi).since q⟩
theorem ownsRow_mono {base base' size n : Nat} {e : TypeId} {w : World} {v : Value} {xs : List Value} (h : w.ownsRow base e size v n xs) (hb : base' ≤ base) : w.ownsRow base' e size v n xs := by
  refine ⟨h.1, ?_⟩
  rcases h.2 with h3 | ⟨g, cap, cur, hv, hg, hr⟩
  · exact .inl h3
  · exact .inr ⟨g, cap, cur, hv, Nat.le_trans hb hg, hr⟩
theorem OwnTab.mono {base base' k N : Nat} {w : World} {v : Value} {f : Tb} (h : OwnTab base w v k N f) (hb : base' ≤ base) : OwnTab base' w v k N f := by
  obtain ⟨bs, h1, h2, h3, h4, h5⟩ := h
  exact ⟨bs, h1, h2, fun b hq => Nat.le_trans hb (h3 b hq), ownsRow_mono h4 hb, h5⟩
theorem OwnTab.congr {base k N : Nat} {w : World} {v : Value} {f g : Tb} (h : OwnTab base w v k N f) (e : ∀ i j, i < k → j < N → f i j = g i j) : OwnTab base w v k N g := by
  obtain ⟨bs, h1, h2, h3, h4, h5⟩ := h
  exact ⟨bs, h1, h2, h3, h4, fun i hi => by rw [← rowC_congr (f := f i) (fun j hj => e i j (by omega) hj)]; exact h5 i hi⟩
/-- Blocks of the types that tables are made of stand. -/
theorem ownsRow_typed {base size n : Nat} {e : TypeId} {w w' : World} {v : Value} {xs : List Value} (h : w.ownsRow base e size v n xs) (k : ∀ g cs, Blk w g e cs → Blk w' g e cs) : w'.ownsRow base e size v n xs := by
  refine ⟨h.1, ?_⟩
  rcases h.2 with h3 | ⟨g, cap, cur, hv, hg, hb, hr⟩
  · exact .inl h3
  · exact .inr ⟨g, cap, cur, hv, hg, k g cur hb, hr⟩
theorem OwnTab.keep {base k N : Nat} {w w' : World} {v : Value} {f : Tb} (h : OwnTab base w v k N f) (q : ∀ g cs t, (t = 4 ∨ t = 114) → Blk w g t cs → Blk w' g t cs) : OwnTab base w' v k N f := by
  obtain ⟨bs, h1, h2, h3, h4, h5⟩ := h
  exact ⟨bs, h1, h2, h3, ownsRow_typed h4 (fun g cs hb => q g cs _ (.inr rfl) hb), fun i hi => q _ _ _ (.inl rfl) (h5 i hi)⟩
/-- Where a table's cells lie. -/
theorem OwnTab.at {base k N : Nat} {w : World} {v : Value} {f : Tb} (h : OwnTab base w v k N f) (i : Nat) (hi : i < k) :
    ∃ g cap b, v = .slice (some ⟨g, 0, none⟩) k cap ∧ w.cell? ⟨g, i, none⟩ = some (rowV N b) ∧ (∀ j, j < N → w.cell? ⟨b, j, none⟩ = some (.bool (f i j)) ∧ w.frozen? ⟨b, j, none⟩ = false) ∧ base ≤ b ∧ b < w.heap.size ∧
      (∀ (j : Nat) (x : Bool), j < N → OwnTab base (w.setCell ⟨b, j, none⟩ (.bool x)) v k N (setT f i j x)) ∧ Blk w b 4 (rowC N (f i)).toArray := by
  obtain ⟨bs, h1, h2, h3, h4, h5⟩ := h
  have hib : i < bs.length := by omega
  rcases h4.2 with ⟨_, h0⟩ | ⟨g, cap, cur, rfl, hgb, hg, hr⟩
  · omega
  have hc := h4.cellAt i (by omega)
  refine ⟨g, cap, bs[i], rfl, ?_, fun j hj => ⟨?_, (h5 i hib).frozen j⟩, h3 _ (List.getElem_mem hib), (h5 i hib).lt, ?_, h5 i hib⟩
  · rw [hc]; simp [hib]
  · rw [(h5 i hib).cell, ← Array.getElem?_toList]; exact rowC_at _ _ _ hj
  · intro j x hj
    have hbg : g ≠ bs[i] := by
      intro e
      have h6 : w.heap[bs[i]]? = some (.cells (rowC N (f i)).toArray 4 (0, 0)) := h5 i hib
      rw [← e, hg] at h6
      injection h6 with h6
      injection h6 with _ h6
      exact absurd h6 (by decide)
    refine ⟨bs, h1, h2, h3, ?_, fun i2 hi2 => ?_⟩
    · refine ⟨h4.1, .inr ⟨g, cap, cur, rfl, hgb, ?_, hr⟩⟩
      exact (Below.heap_setCell w ⟨bs[i], j, none⟩ (.bool x) g hbg).trans hg
    · by_cases e : i2 = i
      · subst e
        have := (h5 i2 hi2).set j (.bool x)
        rw [List.setIfInBounds_toArray, rowC_set N (f i2) (setT f i2 j x i2) j x (fun q _ => by unfold setT; simp)] at this
        exact this
      · have hne : bs[i2] ≠ bs[i] := by
          intro e2
          have hp := List.pairwise_iff_getElem.1 h2
          rcases Nat.lt_or_gt_of_ne e with h | h
          · exact hp i2 i hi2 hib h e2
          · exact hp i i2 hib hi2 h e2.symm
        have hq := (h5 i2 hi2).far (p := ⟨bs[i], j, none⟩) hne (.bool x)
        rw [rowC_congr (f := f i2) (g := setT f i j x i2) (fun q _ => by unfold setT; simp [e])] at hq
        exact hq
/-- One row more. -/
theorem OwnTab.snoc {base k N b : Nat} {w w' : World} {v v' : Value} {f : Tb} (h : OwnTab base w v k N f) (hb : base ≤ b) (hbn : ∀ c t cs, Blk w c t cs → c ≠ b) (hB : Blk w' b 4 (rowC N (f k)).toArray)
    (hk : ∀ g cs, Blk w g 4 cs → Blk w' g 4 cs) (hr : ∀ bs : List Nat, bs.length = k → w.ownsRow base 114 1 v k (bs.map (rowV N)) → w'.ownsRow base 114 1 v' (k + 1) (bs.map (rowV N) ++ [rowV N b])) : OwnTab base w' v' (k + 1) N f := by
  obtain ⟨bs, h1, h2, h3, h4, h5⟩ := h
  refine ⟨bs ++ [b], by simp [h1], ?_, ?_, ?_, ?_⟩
  · rw [List.nodup_append]
    refine ⟨h2, by simp, fun x hx y hy => ?_⟩
    simp at hy; subst hy
    obtain ⟨i, hi, rfl⟩ := List.getElem_of_mem hx
    exact hbn _ _ _ (h5 i hi)
  · intro c hc
    rcases List.mem_append.1 hc with h | h
    · exact h3 c h
    · simp at h; subst h; exact hb
  · rw [List.map_append]; exact hr bs h1 h4
  · intro i hi
    by_cases e : i < bs.length
    · rw [List.getElem_append_left e]; exact hk _ _ (h5 i e)
    · have e2 : i = k := by simp at hi; omega
      subst e2
      have : (bs ++ [b])[i] = b := by rw [List.getElem_append_right (by omega)]; simp
      rw [this]; exact hB
theorem OwnTab.nil0 (base N : Nat) (w : World) (v : Value) (f : Tb) (h : w.ownsRow base 114 1 v 0 []) : OwnTab base w v 0 N f := ⟨[], rfl, List.nodup_nil, fun b hb => by simp at hb, h, fun i hi => by simp at hi⟩
theorem info_sl_bools : (Tryd.prog.info? 114).map (fun i => (i.zero, i.size, i.bytes)) = some (some (.slice none 0 0), 1, 24) := by kernel_rfl
theorem info_sl_bools2 : (Tryd.prog.info? 112).map (fun i => (i.zero, i.size, i.bytes)) = some (some (.slice none 0 0), 1, 24) := by kernel_rfl
theorem info_bool : (Tryd.prog.info? 4).map (fun i => (i.zero, i.size, i.bytes)) = some (some (.bool false), 1, 1) := by kernel_rfl
/-- append of one row. -/
theorem wpList_append_row {w : World} {ops : Array Oper} {rest : List Oper} {o : Oper} {a : Act} {Q : Exit → Act → World → Prop} (hgd : o.guard = none) (s x : Operand)
    (ho : o.op = .call { callee := .builtin .append, args := #[s, x], argTypes := #[112, 112] }) (base : Nat) (v : Value) (n : Nat) (vs : List Value) (hs : a.eval s = v) (hown : w.ownsRow base 114 1 v n vs)
    (z : Value) (hx : a.eval x = .slice (some ⟨w.heap.size, 0, none⟩) 1 1) (hz : z.oneCell' = true) (hlen : n ≤ 4194304) (hb : base ≤ w.heap.size)
    (h : ∀ v' w', w'.ownsRow base 114 1 v' (n + 1) (vs ++ [z]) → (w.alloc (.cells #[z] 114)).grownBy w' v.ownBlock → wpList Tryd.prog ops Q rest (a.put o.dst v') w') : wpList Tryd.prog ops Q (o :: rest) a (w.alloc (.cells #[z] 114)) := by
  obtain ⟨i0, hi, hz0, hz1, hz2⟩ := info_parts info_sl_bools
  have hown' := row_since hown ((Since.refl w).alloc (.cells #[z] 114))
  have hB : Blk (w.alloc (.cells #[z] 114)) w.heap.size 114 #[z] := Blk.new rfl _ _
  refine wpList_append_own _ hgd s x 112 ho base 114 i0 (.slice none 0 0) 1 24 Tryd.underlying112 hi hz0 hz1 hz2 rfl (by decide) v n vs hs hown' ⟨w.heap.size, 0, none⟩ 1 1 [z] hx rfl ?_ (by intro u hu; simp at hu; subst hu; exact hz) (by unfold maxLen; omega) (by omega) (Nat.le_trans hb (by simp)) ?_
  · intro j u hj
    rw [add_plain, Nat.zero_add, hB.cell, ← hj, ← Array.getElem?_toList]
  · intro v' w' h1 h2 _
    exact h v' w' h1 h2
/-- append of one table. -/
theorem wpList_append_tab {w : World} {ops : Array Oper} {rest : List Oper} {o : Oper} {a : Act} {Q : Exit → Act → World → Prop} (hgd : o.guard = none) (s x : Operand)
    (ho : o.op = .call { callee := .builtin .append, args := #[s, x], argTypes := #[111, 111] }) (base : Nat) (v : Value) (n : Nat) (vs : List Value) (hs : a.eval s = v) (hown : w.ownsRow base 112 1 v n vs)
    (z : Value) (hx : a.eval x = .slice (some ⟨w.heap.size, 0, none⟩) 1 1) (hz : z.oneCell' = true) (hlen : n ≤ 4194304) (hb : base ≤ w.heap.size)
    (h : ∀ v' w', w'.ownsRow base 112 1 v' (n + 1) (vs ++ [z]) → (w.alloc (.cells #[z] 112)).grownBy w' v.ownBlock → wpList Tryd.prog ops Q rest (a.put o.dst v') w') : wpList Tryd.prog ops Q (o :: rest) a (w.alloc (.cells #[z] 112)) := by
  obtain ⟨i0, hi, hz0, hz1, hz2⟩ := info_parts info_sl_bools2
  have hown' := row_since hown ((Since.refl w).alloc (.cells #[z] 112))
  have hB : Blk (w.alloc (.cells #[z] 112)) w.heap.size 112 #[z] := Blk.new rfl _ _
  refine wpList_append_own _ hgd s x 111 ho base 112 i0 (.slice none 0 0) 1 24 Tryd.underlying111 hi hz0 hz1 hz2 rfl (by decide) v n vs hs hown' ⟨w.heap.size, 0, none⟩ 1 1 [z] hx rfl ?_ (by intro u hu; simp at hu; subst hu; exact hz) (by unfold maxLen; omega) (by omega) (Nat.le_trans hb (by simp)) ?_
  · intro j u hj
    rw [add_plain, Nat.zero_add, hB.cell, ← hj, ← Array.getElem?_toList]
  · intro v' w' h1 h2 _
    exact h v' w' h1 h2
end Go.Proofs.YtiojgahjfndmdaaDoor

/- The model's tables: an empty or diagonal one, either of two. -/
namespace Go.Proofs.YtiojgahjfndmdaaDoor
set_option maxRecDepth 100000
open Go.ChangeShapes Go.WideShapes Go.ChangeAt Go.RowKit
set_option linter.unusedVariables false
set_option linter.unusedSimpArgs false

/-- What a function answers that gives a table. -/
def TabOut (w : World) (N : Nat) (f : Tb) (e : Ending) (w' : World) : Prop := ∃ v, e = .returned v ∧ OwnTab w.heap.size w' v N N f ∧ Since w w'
theorem tab_snoc {base k N b : Nat} {w' : World} {v' : Value} {f : Tb} {bs : List Nat} (h1 : bs.length = k) (h2 : bs.Nodup) (h3 : ∀ b ∈ bs, base ≤ b) (h5 : ∀ i (h : i < bs.length), Blk w' bs[i] 4 (rowC N (f i)).toArray)
    (hb : base ≤ b) (hne : ∀ c ∈ bs, c ≠ b) (hB : Blk w' b 4 (rowC N (f k)).toArray) (hr : w'.ownsRow base 114 1 v' (k + 1) (bs.map (rowV N) ++ [rowV N b])) : OwnTab base w' v' (k + 1) N f := by
  refine ⟨bs ++ [b], by simp [h1], ?_, ?_, ?_, ?_⟩
  · rw [List.nodup_append]
    refine ⟨h2, by simp, fun x hx y hy => ?_⟩
    simp at hy; subst hy
    exact hne x hx
  · intro c hc
    rcases List.mem_append.1 hc with h | h
    · exact h3 c h
    · simp at h; subst h; exact hb
  · rw [List.map_append]; exact hr
  · intro i hi
    by_cases e : i < bs.length
    · rw [List.getElem_append_left e]; exact h5 i e
    · have e2 : i = k := by simp at hi; omega
      subst e2
      have : (bs ++ [b])[i] = b := by rw [List.getElem_append_right (by omega)]; simp
      rw [this]; exact hB
/-- A row just made, as a block. -/
theorem made_row {w w1 : World} {N g : Nat} (hN : 0 < N) (h : w1.ownsRow w.heap.size 4 1 (.slice (some ⟨g, 0, none⟩) N N) N (madeCells (Value.bool false).cells (N * 1)).toList) : Blk w1 g 4 (List.replicate N (.bool false)).toArray := by
  rw [Nat.mul_one, show (Value.bool false).cells = #[.bool false] from rfl, toList_madeCells_one] at h
  rcases h.2 with ⟨_, h0⟩ | ⟨g', cap, cur, hv, _, hg, hc, hm, hs, ht⟩
  · omega
  · injection hv with hv1 hv2 hv3
    injection hv1 with hv1; injection hv1 with hv1
    subst hv1; subst hv3
    have : cur = (List.replicate N (.bool false)).toArray := by
      apply Array.toList_inj.1
      rw [List.take_of_length_le (by simp [hs])] at ht
      simpa using ht
    rw [← this]; exact hg
theorem rowC_false (N : Nat) : rowC N (fun _ => false) = List.replicate N (Value.bool false) := by
  apply List.ext_getElem?
  intro i
  by_cases hi : i < N
  · rw [rowC_at _ _ _ hi, List.getElem?_replicate, if_pos hi]
  · rw [List.getElem?_eq_none (by rw [rowC_len]; omega), List.getElem?_eq_none (by rw [List.length_replicate]; omega)]
theorem gridF_row (same : Bool) (k i : Nat) : gridF same k i = if i = k then same else false := by
  unfold gridF
  by_cases e : i = k
  · subst e; simp
  · rw [if_neg e, show (k == i) = false from by simp; omega, Bool.and_false]
theorem rowC_grid (N : Nat) (same : Bool) (k : Nat) : (List.replicate N (Value.bool false)).set k (.bool same) = rowC N (gridF same k) := by
  rw [← rowC_false]
  exact rowC_set N (fun _ => false) (gridF same k) k same (fun i _ => gridF_row same k i)
set_option maxHeartbeats 2000000 in
set_option maxRecDepth 100000 in
theorem l9Grid_any (N : Nat) (same : Bool) (w : World) (h1 : 1 ≤ N) (h9 : N ≤ 9) : Calls Tryd.prog 103 #[.int .i64 (N : Int), .bool same] w (TabOut w N (gridF same)) := by
  obtain ⟨i0, hi, hz0, hz1, hz2⟩ := info_parts info_bool
  have HZ2 := Lib.hid hz2
  clear hz2
  have hnil : (w.alloc (.cells #[] 114)).ownsRow w.heap.size 114 1 (.slice (some ⟨w.heap.size, 0, none⟩) 0 0) 0 [] := World.ownsRow_lit w #[] 0 (Nat.le_refl _) (Nat.zero_le _) rfl
  have hs0 := (Since.refl w).alloc (.cells #[] 114)
  go_enter Tryd.func103, Tryd.ntmps103
  go_wp2
  go_loopw [5, 6] (fun out i wr => ∃ k : Nat, k ≤ N ∧ i = .int .i64 k ∧ Hid (OwnTab w.heap.size wr out k N (gridF same)) ∧ Hid (Since w wr)) (fun _ i _ => N - (intOf i).toNat)
  case atStart => exact ⟨0, Nat.zero_le _, rfl, OwnTab.nil0 _ _ _ _ _ hnil, hs0⟩
  case round =>
    obtain ⟨k, hk, rfl, HT, HW⟩ := hrel
    obtain ⟨bs, b1, b2, b3, b4, b5⟩ := HT.out
    have B1 := Lib.hid b1
    have B2 := Lib.hid b2
    have B3 := Lib.hid b3
    have B4 := Lib.hid b4
    have B5 := Lib.hid b5
    have hw0 := HW.out
    have hwz := hw0.size
    clear b1 b2 b3 b4 b5 HT HW
    by_cases hlt : k < N
    · have hki : (k : Int) < (N : Int) := by omega
      have hk0 : (0 : Int) ≤ (k : Int) := by omega
      go_upto_region 6 with (at_make; go_must (refine wpList_make_full _ rfl _ _ 114 rfl w.heap.size 4 i0 (.bool false) 1 Tryd.underlying114 hi hz0 hz1 .i64 .i64 _ _ N rfl rfl rfl rfl (by rw [HZ2.out]; omega) (by unfold maxLen; omega) hwz ?_); intro w1 hown hgrow)
      have hs1 : Since wr w1 := (Since.refl wr).grown hgrow (fun _ h => by simp at h)
      have HB := Lib.hid (made_row (w := w) h1 hown)
      have hRlt : wr.heap.size < w1.heap.size := HB.out.lt
      have c0 : w1.cell? ⟨wr.heap.size, k, none⟩ = some (.bool false) := by
        rw [HB.out.cell, ← Array.getElem?_toList]; simp [hlt]
      have c1 : w1.frozen? ⟨wr.heap.size, k, none⟩ = false := HB.out.frozen k
      have HB2 := Lib.hid (HB.out.set k (.bool same))
      have hs2 : Since wr (w1.setCell ⟨wr.heap.size, k, none⟩ (.bool same)) := hs1.setCell (Nat.le_refl _) _
      clear hown hgrow
      go_upto_region 7 with fail
      clear c0 c1
      generalize w1.setCell ⟨wr.heap.size, k, none⟩ (.bool same) = w2 at HB2 hs2 ⊢
      have HB3 : Hid (Blk w2 wr.heap.size 4 (rowC N (gridF same k)).toArray) := by
        have := HB2.out
        rw [List.setIfInBounds_toArray, rowC_grid] at this
        exact this
      have HROW := Lib.hid (row_since B4.out hs2)
      have h02 := hw0.trans hs2
      clear HB2 HB
      go_wp2_with (at_builtin; go_must (refine wpList_append_row rfl (.tmp 20) (.tmp 22) rfl w.heap.size _ k (bs.map (rowV N)) (by first | rfl | simp [Act.eval]) HROW.out (rowV N wr.heap.size) (by first | rfl | simp [Act.eval]) rfl (by omega) h02.size ?_); intro v3 w3 ho3 hg3; have HO3 := Lib.hid ho3; have HG3 := Lib.hid hg3; clear ho3 hg3)
      have hal : Since w2 (w2.alloc (.cells #[rowV N wr.heap.size] 114)) := (Since.refl _).alloc _
      have HKB : Hid (∀ g cs, Blk w2 g 4 cs → Blk w3 g 4 cs) := fun g cs hb => by
        have hb2 := hb.since hal
        exact (HG3.out.block g hb2.lt (fun e => other_type (row_since HROW.out hal) hb2 (by decide) e.symm)).trans hb2
      have HT3 : Hid (OwnTab w.heap.size w3 v3 (k + 1) N (gridF same)) := by
        refine tab_snoc B1.out B2.out B3.out (fun i hi => HKB.out _ _ ((B5.out i hi).since hs2)) hwz (fun c hc e => ?_) (HKB.out _ _ HB3.out) HO3.out
        obtain ⟨i, hi, rfl⟩ := List.getElem_of_mem hc
        have := (B5.out i hi).lt
        omega
      have HS3 : Hid (Since w w3) := (h02.trans hal).grown HG3.out fun q hq => (row_since HROW.out hal).lt q hq |>.1
      go_roundw
      case rel => exact ⟨k + 1, by omega, by go_num, HT3.out, HS3.out⟩
      case measure => simp [intOf]; omega
    · obtain rfl : k = N := by omega
      have HT : Hid (OwnTab w.heap.size wr u5 k k (gridF same)) := ⟨bs, B1.out, B2.out, B3.out, B4.out, B5.out⟩
      go_wp2
      go_ret
      exact ⟨_, rfl, HT.out, hw0⟩
set_option maxHeartbeats 4000000 in
set_option maxRecDepth 100000 in
theorem l9Either_any (N : Nat) (a b : Tb) (va vb : Value) (w : World) (h1 : 1 ≤ N) (h9 : N ≤ 9) (ha : OwnTab 0 w va N N a) (hb : OwnTab 0 w vb N N b) (la : LowT N a) (lb : LowT N b) :
    Calls Tryd.prog 105 #[va, vb] w (TabOut w N fun i j => a i j || b i j) := by
  have HA := Lib.hid ha
  have HB := Lib.hid hb
  obtain ⟨ga, ca, _, rfl, _⟩ := ha.at 0 h1
  obtain ⟨gb, cb, _, rfl, _⟩ := hb.at 0 h1
  have LA := Lib.hid la
  have LB := Lib.hid lb
  clear ha hb la lb
  go_enter Tryd.func105, Tryd.ntmps105
  go_wp2_with fail
  refine (l9Grid_any N false _ h1 h9).mono ?_
  rintro e w1 ⟨v1, rfl, ho1, hs1⟩
  obtain ⟨go, co, _, rfl, _⟩ := ho1.at 0 h1
  have HO1 := Lib.hid (ho1.congr (g := eitF a b 0 0) (fun i j _ _ => (eitF_zero a b i j).symm))
  clear ho1
  go_wp2
  go_loopw [6] (fun i wr => ∃ k : Nat, k ≤ N ∧ i = .int .i64 k ∧ Hid (OwnTab w.heap.size wr (.slice (some ⟨go, 0, none⟩) N co) N N (eitF a b k k)) ∧ Hid (Since w wr)) (fun i _ => N - (intOf i).toNat)
  case atStart => exact ⟨0, Nat.zero_le _, rfl, HO1.out, hs1⟩
  case round =>
    obtain ⟨k, hk, rfl, HT, HW⟩ := hrel
    have hw0 := HW.out
    clear HW
    by_cases hlt : k < N
    · have hki : (k : Int) < (N : Int) := by omega
      have hk0 : (0 : Int) ≤ (k : Int) := by omega
      go_wp2
      go_loopw [7] (fun j wr => ∃ q : Nat, k ≤ q ∧ q ≤ N ∧ j = .int .i64 q ∧ Hid (OwnTab w.heap.size wr (.slice (some ⟨go, 0, none⟩) N co) N N (eitF a b k q)) ∧ Hid (Since w wr)) (fun j _ => N - (intOf j).toNat)
      case atStart => exact ⟨k, Nat.le_refl _, by omega, rfl, HT.out, hw0⟩
      case round =>
        obtain ⟨q, hkq, hq, rfl, HT, HW⟩ := hrel
        have hw0 := HW.out
        clear HW
        by_cases hlq : q < N
        · have hqi : (q : Int) < (N : Int) := by omega
          have hq0 : (0 : Int) ≤ (q : Int) := by omega
          obtain ⟨g1, p1, bo, e1, o0, o1, obase, _, oset, _⟩ := HT.out.at k hlt
          injection e1 with e1 _ _
          injection e1 with e1; injection e1 with e1
          subst e1
          obtain ⟨g2, p2, ba, e2, a0, a1, _, abl, _, _⟩ := (HA.out.since hw0).at k hlt
          injection e2 with e2 _ _
          injection e2 with e2; injection e2 with e2
          subst e2
          obtain ⟨g3, p3, bb, e3, b0, b1, _, bbl, _, _⟩ := (HB.out.since hw0).at k hlt
          injection e3 with e3 _ _
          injection e3 with e3; injection e3 with e3
          subst e3
          obtain ⟨oc, of⟩ := o1 q hlq
          obtain ⟨ac, _⟩ := a1 q hlq
          obtain ⟨bc, _⟩ := b1 q hlq
          have HST := Lib.hid (oset q (a k q || b k q) hlq)
          have HSTEP := Lib.hid (eitF_step a b hkq)
          obtain ⟨x, hx⟩ : ∃ x, x = a k q := ⟨_, rfl⟩
          obtain ⟨z, hz⟩ : ∃ z, z = b k q := ⟨_, rfl⟩
          rw [← hx] at ac HST HSTEP
          rw [← hz] at bc HST HSTEP
          have hsn : Since w (wr.setCell ⟨bo, q, none⟩ (.bool (x || z))) := hw0.setCell obase _
          have HSN := Lib.hid hsn
          clear o1 a1 b1 oset hx hz hsn abl bbl
          cases x with
          | true =>
            go_upto_region 8 with fail
            go_region
            go_wp2
            go_roundw
            case rel => exact ⟨q + 1, by omega, by omega, by go_num, ((HST.out.congr (fun i j _ _ => HSTEP.out i j)).since (Since.refl _).drew), HSN.out.drew⟩
            case measure => simp [intOf]; omega
          | false =>
            go_upto_region 8 with fail
            go_region
            go_wp2
            go_roundw
            case rel => exact ⟨q + 1, by omega, by omega, by go_num, ((HST.out.congr (fun i j _ _ => HSTEP.out i j)).since (Since.refl _).drew), HSN.out.drew⟩
            case measure => simp [intOf]; omega
        · obtain rfl : q = N := by omega
          have HT2 := Lib.hid (HT.out.congr (g := eitF a b (k + 1) (k + 1)) (fun i j _ hj => eitF_row a b i j hj))
          go_wp2
          go_roundw
          case rel => exact ⟨k + 1, by omega, by go_num, HT2.out, hw0⟩
          case measure => simp [intOf]; omega
    · obtain rfl : k = N := by omega
      have HT2 := Lib.hid (HT.out.congr (g := fun i j => a i j || b i j) (fun i j hi hj => eitF_all LA.out LB.out i j hi hj))
      go_wp2
      go_ret
      exact ⟨_, rfl, HT2.out, hw0⟩
end Go.Proofs.YtiojgahjfndmdaaDoor

/- The model's tables: two joined, one repeated. -/
namespace Go.Proofs.YtiojgahjfndmdaaDoor
set_option maxRecDepth 100000
open Go.ChangeShapes Go.WideShapes Go.ChangeAt Go.RowKit
set_option linter.unusedVariables false
set_option linter.unusedSimpArgs false

set_option maxHeartbeats 4000000 in
set_option maxRecDepth 100000 in
theorem l9Joined_any (N : Nat) (a b : Tb) (va vb : Value) (w : World) (h1 : 1 ≤ N) (h9 : N ≤ 9) (ha : OwnTab 0 w va N N a) (hb : OwnTab 0 w vb N N b) :
    Calls Tryd.prog 104 #[va, vb] w (TabOut w N (joinG a b)) := by
  have HA := Lib.hid ha
  have HB := Lib.hid hb
  obtain ⟨ga, ca, _, rfl, _⟩ := ha.at 0 h1
  obtain ⟨gb, cb, _, rfl, _⟩ := hb.at 0 h1
  clear ha hb
  go_enter Tryd.func104, Tryd.ntmps104
  go_wp2_with fail
  refine (l9Grid_any N false _ h1 h9).mono ?_
  rintro e w1 ⟨v1, rfl, ho1, hs1⟩
  obtain ⟨go, co, _, rfl, _⟩ := ho1.at 0 h1
  have HO1 := Lib.hid (ho1.congr (g := joiF a b 0 0 0) (fun i j _ _ => (joiF_zero a b i j).symm))
  clear ho1
  go_wp2
  go_loopw [6] (fun i wr => ∃ k : Nat, k ≤ N ∧ i = .int .i64 k ∧ Hid (OwnTab w.heap.size wr (.slice (some ⟨go, 0, none⟩) N co) N N (joiF a b k k k)) ∧ Hid (Since w wr)) (fun i _ => N - (intOf i).toNat)
  case atStart => exact ⟨0, Nat.zero_le _, rfl, HO1.out, hs1⟩
  case round =>
    obtain ⟨k, hk, rfl, HT, HW⟩ := hrel
    have hw0 := HW.out
    clear HW
    by_cases hlt : k < N
    · have hki : (k : Int) < (N : Int) := by omega
      have hk0 : (0 : Int) ≤ (k : Int) := by omega
      go_wp2
      go_loopw [7] (fun j wr => ∃ m : Nat, k ≤ m ∧ m ≤ N ∧ j = .int .i64 m ∧ Hid (OwnTab w.heap.size wr (.slice (some ⟨go, 0, none⟩) N co) N N (joiF a b k m m)) ∧ Hid (Since w wr)) (fun j _ => N - (intOf j).toNat)
      case atStart => exact ⟨k, Nat.le_refl _, by omega, rfl, HT.out, hw0⟩
      case round =>
        obtain ⟨m, hkm, hm, rfl, HT, HW⟩ := hrel
        have hw0 := HW.out
        clear HW
        by_cases hlm : m < N
        · have hmi : (m : Int) < (N : Int) := by omega
          have hm0 : (0 : Int) ≤ (m : Int) := by omega
          go_wp2
          go_loopw [8] (fun j wr => ∃ q : Nat, m ≤ q ∧ q ≤ N ∧ (a k m = true ∨ q = m) ∧ j = .int .i64 q ∧ Hid (OwnTab w.heap.size wr (.slice (some ⟨go, 0, none⟩) N co) N N (joiF a b k m q)) ∧ Hid (Since w wr)) (fun j _ => N - (intOf j).toNat)
          case atStart => exact ⟨m, Nat.le_refl _, by omega, .inr rfl, rfl, HT.out, hw0⟩
          case round =>
            obtain ⟨q, hmq, hq, hor, rfl, HT, HW⟩ := hrel
            have hw0 := HW.out
            clear HW
            by_cases hlq : q < N
            · have hqi : (q : Int) < (N : Int) := by omega
              have hq0 : (0 : Int) ≤ (q : Int) := by omega
              obtain ⟨g2, p2, ba, e2, a0, a1, _, abl, _, _⟩ := (HA.out.since hw0).at k hlt
              injection e2 with e2 _ _
              injection e2 with e2; injection e2 with e2
              subst e2
              obtain ⟨ac, _⟩ := a1 m hlm
              have HOR := Lib.hid hor
              obtain ⟨x, hx⟩ : ∃ x, x = a k m := ⟨_, rfl⟩
              rw [← hx] at ac
              have HX := Lib.hid hx
              clear a1 hx hor abl
              cases x with
              | true =>
                obtain ⟨g1, p1, bo, e1, o0, o1, obase, _, oset, _⟩ := HT.out.at k hlt
                injection e1 with e1 _ _
                injection e1 with e1; injection e1 with e1
                subst e1
                obtain ⟨g3, p3, bb, e3, b0, b1, _, bbl, _, _⟩ := (HB.out.since hw0).at m hlm
                injection e3 with e3 _ _
                injection e3 with e3; injection e3 with e3
                subst e3
                obtain ⟨oc, of⟩ := o1 q hlq
                obtain ⟨bc, _⟩ := b1 q hlq
                have HST := Lib.hid (oset q (joiF a b k m q k q || b m q) hlq)
                have HSTEP := Lib.hid (joiF_step a b hmq HX.out.symm)
                obtain ⟨y, hy⟩ : ∃ y, y = joiF a b k m q k q := ⟨_, rfl⟩
                obtain ⟨z, hz⟩ : ∃ z, z = b m q := ⟨_, rfl⟩
                rw [← hy] at oc HST HSTEP
                rw [← hz] at bc HST HSTEP
                have HSN : Hid (Since w (wr.setCell ⟨bo, q, none⟩ (.bool (y || z)))) := hw0.setCell obase _
                clear o1 b1 oset hy hz bbl
                cases y with
                | true =>
                  go_upto_region 11 with fail
                  go_region
                  go_wp2
                  go_roundw
                  case rel => exact ⟨q + 1, by omega, by omega, .inl HX.out.symm, by go_num, ((HST.out.congr (fun i j _ _ => HSTEP.out i j)).since (Since.refl _).drew), HSN.out.drew⟩
                  case measure => simp [intOf]; omega
                | false =>
                  go_upto_region 11 with fail
                  go_region
                  go_wp2
                  go_roundw
                  case rel => exact ⟨q + 1, by omega, by omega, .inl HX.out.symm, by go_num, ((HST.out.congr (fun i j _ _ => HSTEP.out i j)).since (Since.refl _).drew), HSN.out.drew⟩
                  case measure => simp [intOf]; omega
              | false =>
                have hqm : q = m := by
                  rcases HOR.out with h | h
                  · rw [← HX.out] at h; cases h
                  · exact h
                have HT2 : Hid (OwnTab w.heap.size wr (.slice (some ⟨go, 0, none⟩) N co) N N (joiF a b k (m + 1) (m + 1))) := HT.out.congr (fun i j _ _ => by rw [hqm]; exact joiF_skip hkm HX.out.symm i j)
                clear hqm
                go_wp2
                go_roundw
                case rel => exact ⟨m + 1, by omega, by omega, by go_num, HT2.out, hw0⟩
                case measure => simp [intOf]; omega
            · obtain rfl : q = N := by omega
              have HT2 := Lib.hid (HT.out.congr (g := joiF a b k (m + 1) (m + 1)) (fun i j _ hj => joiF_mid hkm i j hj))
              clear hor
              go_wp2
              go_roundw
              case rel => exact ⟨m + 1, by omega, by omega, by go_num, HT2.out, hw0⟩
              case measure => simp [intOf]; omega
        · obtain rfl : m = N := by omega
          have HT2 := Lib.hid (HT.out.congr (g := joiF a b (k + 1) (k + 1) (k + 1)) (fun i j hi hj => joiF_row i j hi hj))
          go_wp2
          go_roundw
          case rel => exact ⟨k + 1, by omega, by go_num, HT2.out, hw0⟩
          case measure => simp [intOf]; omega
    · obtain rfl : k = N := by omega
      have HT2 := Lib.hid (HT.out.congr (g := joinG a b) (fun i j hi hj => joiF_all i j hi hj k k))
      go_wp2
      go_ret
      exact ⟨_, rfl, HT2.out, hw0⟩
set_option maxHeartbeats 4000000 in
set_option maxRecDepth 100000 in
theorem l9Repeated_any (N : Nat) (a : Tb) (va : Value) (lo hi : Nat) (w : World) (h1 : 1 ≤ N) (h9 : N ≤ 9) (hlo : lo ≤ 9) (hhi : hi ≤ 9) (ha : OwnTab 0 w va N N a) :
    Calls Tryd.prog 106 #[va, .int .i64 (lo : Int), .int .i64 (hi : Int)] w (TabOut w N (repG a lo hi)) := by
  have HA := Lib.hid ha
  obtain ⟨ga, ca, _, rfl, _⟩ := ha.at 0 h1
  clear ha
  go_enter Tryd.func106, Tryd.ntmps106
  go_wp2_with fail
  refine (l9Grid_any N false _ h1 h9).mono ?_
  rintro e w1 ⟨v1, rfl, ho1, hs1⟩
  obtain ⟨go, co, _, rfl, _⟩ := ho1.at 0 h1
  have HO1 := Lib.hid ho1
  clear ho1
  go_wp2_with fail
  refine (l9Grid_any N true _ h1 h9).mono ?_
  rintro e w2 ⟨v2, rfl, ho2, hs2⟩
  obtain ⟨gp, cp, _, rfl, _⟩ := ho2.at 0 h1
  have HP2 : Hid (OwnTab w.heap.size w2 (.slice (some ⟨gp, 0, none⟩) N cp) N N (powG a 0)) := (ho2.mono hs1.size).congr (fun i j _ _ => by unfold gridF powG sameG; simp)
  have HO2 : Hid (OwnTab w.heap.size w2 (.slice (some ⟨go, 0, none⟩) N co) N N (repK a lo 0)) := (HO1.out.since hs2).congr (fun i j _ _ => by unfold gridF repK; simp)
  have h02 := hs1.trans hs2
  clear ho2 HO1
  go_wp2
  go_loopw [7, 8, 9] (fun ov pv i wr => ∃ (k go co gp cp : Nat), k ≤ hi + 1 ∧ i = .int .i64 k ∧ ov = .slice (some ⟨go, 0, none⟩) N co ∧ pv = .slice (some ⟨gp, 0, none⟩) N cp ∧ Hid (OwnTab w.heap.size wr (.slice (some ⟨go, 0, none⟩) N co) N N (repK a lo k)) ∧ Hid (OwnTab w.heap.size wr (.slice (some ⟨gp, 0, none⟩) N cp) N N (powG a k)) ∧ Hid (Since w wr)) (fun _ _ i _ => hi + 1 - (intOf i).toNat)
  case atStart => exact ⟨0, go, co, gp, cp, Nat.zero_le _, rfl, rfl, rfl, HO2.out, HP2.out, h02⟩
  case round =>
    clear HO2 HP2 h02 hs1 hs2
    obtain ⟨k, go, co, gp, cp, hk, rfl, rfl, rfl, HO, HP, HW⟩ := hrel
    have hw0 := HW.out
    clear HW
    by_cases hlt : k < hi + 1
    · have hki : (k : Int) ≤ (hi : Int) := by omega
      have hk0 : (0 : Int) ≤ (k : Int) := by omega
      have HSC := Lib.hid (repK_succ a lo k)
      by_cases hlk : lo ≤ k
      · have hlki : (lo : Int) ≤ (k : Int) := by omega
        have HLK := Lib.hid hlk
        clear hlk
        go_wp2_with fail
        refine (l9Either_any N _ _ _ _ _ h1 h9 (HO.out.mono (Nat.zero_le _)) (HP.out.mono (Nat.zero_le _)) (low_rep lo k) (low_pow k)).mono ?_
        rintro e w3 ⟨v3, rfl, ho3, hs3⟩
        obtain ⟨g3, c3, _, rfl, _⟩ := ho3.at 0 h1
        have HO3 : Hid (OwnTab w.heap.size w3 (.slice (some ⟨g3, 0, none⟩) N c3) N N (repK a lo (k + 1))) := (ho3.mono hw0.size).congr (fun i j _ _ => by rw [HSC.out, if_pos HLK.out])
        have HP3 := Lib.hid (HP.out.since hs3)
        have h03 := hw0.trans hs3
        clear ho3 hs3
        go_wp2_with fail
        refine (l9Joined_any N _ _ _ _ _ h1 h9 (HP3.out.mono (Nat.zero_le _)) (HA.out.since h03)).mono ?_
        rintro e w4 ⟨v4, rfl, ho4, hs4⟩
        obtain ⟨g4, c4, _, rfl, _⟩ := ho4.at 0 h1
        have HP4 : Hid (OwnTab w.heap.size w4 (.slice (some ⟨g4, 0, none⟩) N c4) N N (powG a (k + 1))) := ho4.mono h03.size
        have HO4 := Lib.hid (HO3.out.since hs4)
        have h04 := h03.trans hs4
        clear ho4 hs4
        go_wp2
        go_roundw
        case rel => exact ⟨k + 1, _, _, _, _, by omega, by go_num, rfl, rfl, HO4.out, HP4.out, h04⟩
        case measure => simp [intOf]; omega
      · have hlki : ¬ ((lo : Int) ≤ (k : Int)) := by omega
        have HO3 : Hid (OwnTab w.heap.size wr (.slice (some ⟨go, 0, none⟩) N co) N N (repK a lo (k + 1))) := HO.out.congr (fun i j _ _ => by rw [HSC.out, if_neg hlk])
        clear hlk
        go_wp2_with fail
        refine (l9Joined_any N _ _ _ _ _ h1 h9 (HP.out.mono (Nat.zero_le _)) (HA.out.since hw0)).mono ?_
        rintro e w4 ⟨v4, rfl, ho4, hs4⟩
        obtain ⟨g4, c4, _, rfl, _⟩ := ho4.at 0 h1
        have HP4 : Hid (OwnTab w.heap.size w4 (.slice (some ⟨g4, 0, none⟩) N c4) N N (powG a (k + 1))) := ho4.mono hw0.size
        have HO4 := Lib.hid (HO3.out.since hs4)
        have h04 := hw0.trans hs4
        clear ho4 hs4
        go_wp2
        go_roundw
        case rel => exact ⟨k + 1, _, _, _, _, by omega, by go_num, rfl, rfl, HO4.out, HP4.out, h04⟩
        case measure => simp [intOf]; omega
    · obtain rfl : k = hi + 1 := by omega
      have HR : Hid (OwnTab w.heap.size wr (.slice (some ⟨go, 0, none⟩) N co) N N (repG a lo hi)) := HO.out
      clear HO
      go_wp2
      go_ret
      exact ⟨_, rfl, HR.out, hw0⟩
end Go.Proofs.YtiojgahjfndmdaaDoor

/- l9Match and MatchesWord, the model's. -/
namespace Go.Proofs.YtiojgahjfndmdaaDoor
set_option maxRecDepth 100000
open Go.ChangeShapes Go.WideShapes Go.ChangeAt Go.RowKit
set_option linter.unusedVariables false
set_option linter.unusedSimpArgs false

theorem row_len1 {base n : Nat} {e : TypeId} {w : World} {v : Value} {xs : List Value} (h : w.ownsRow base e 1 v n xs) : ∃ ao cap, v = .slice ao n cap ∧ n ≤ cap := by
  rcases h.2 with ⟨hv, hn⟩ | ⟨g, cap, cur, rfl, hb, hg, hc, _⟩
  · exact ⟨none, 0, by rw [hv, hn], by omega⟩
  · exact ⟨_, cap, rfl, hc⟩
theorem row_take1B {w : World} {base r a : Nat} {e : TypeId} {fo : Option Addr} {fc : Nat} {vs : List Value} (h : w.ownsRow base e 1 (.slice fo (r + a) fc) (r + a) vs) : w.ownsRow base e 1 (.slice fo r fc) r (vs.take r) := by
  obtain ⟨h1, h2⟩ := h
  refine ⟨by rw [List.length_take]; omega, ?_⟩
  rcases h2 with ⟨hv, hn⟩ | ⟨g, cap, cur, hv, hb, hg, hc, hm, hs, ht⟩
  · injection hv with hv1 hv2 hv3
    subst hv1; subst hv3
    exact .inl ⟨by rw [show r = 0 from by omega], by omega⟩
  · injection hv with hv1 hv2 hv3
    subst hv1; subst hv3
    refine .inr ⟨g, fc, cur, rfl, hb, hg, by omega, hm, hs, ?_⟩
    rw [← ht, List.take_take]
    congr 1
    omega
theorem push_0 {s s' : List Tr} {t : Tok} (h : pushT s t = some s') (h0 : opN t = 0) : s' = s ++ [.node t .nil .nil] := by
  unfold pushT at h
  split at h
  · injection h with h; rw [← h, h0]; simp [mkT]
  · cases h
theorem push_1 {s s' : List Tr} {t : Tok} {r : Nat} (h : pushT s t = some s') (h1 : opN t = 1) (hr : s.length = r + 1) : s' = s.take r ++ [.node t (s[r]'(by omega)) .nil] := by
  unfold pushT at h
  split at h
  · injection h with h
    have e : s.length - 1 = r := by omega
    rw [← h, h1, e, List.drop_eq_getElem_cons (by omega), List.drop_of_length_le (by omega)]
    simp [mkT]
  · cases h
theorem push_2 {s s' : List Tr} {t : Tok} {r : Nat} (h : pushT s t = some s') (h2 : opN t = 2) (hr : s.length = r + 2) : s' = s.take r ++ [.node t (s[r]'(by omega)) (s[r + 1]'(by omega))] := by
  unfold pushT at h
  split at h
  · injection h with h
    have e : s.length - 2 = r := by omega
    rw [← h, h2, e, List.drop_eq_getElem_cons (by omega), List.drop_eq_getElem_cons (by omega), List.drop_of_length_le (by omega)]
    simp [mkT]
  · cases h
/-- The stack of tables. -/
def StG (W : List Int) (w : World) (N : Nat) (vs : List Value) (s : List Tr) : Prop := vs.length = s.length ∧ ∀ i (h : i < s.length), ∃ g cap, vs[i]? = some (.slice (some ⟨g, 0, none⟩) N cap) ∧ OwnTab 0 w (.slice (some ⟨g, 0, none⟩) N cap) N N (gT W s[i])
theorem StG.since {W : List Int} {w w' : World} {N : Nat} {vs : List Value} {s : List Tr} (h : StG W w N vs s) (k : Since w w') : StG W w' N vs s := ⟨h.1, fun i hi => by obtain ⟨g, c, h1, h2⟩ := h.2 i hi; exact ⟨g, c, h1, h2.since k⟩⟩
theorem StG.keep {W : List Int} {w w' : World} {N : Nat} {vs : List Value} {s : List Tr} (h : StG W w N vs s) (k : ∀ g cs t, (t = 4 ∨ t = 114) → Blk w g t cs → Blk w' g t cs) : StG W w' N vs s := ⟨h.1, fun i hi => by obtain ⟨g, c, h1, h2⟩ := h.2 i hi; exact ⟨g, c, h1, h2.keep k⟩⟩
theorem StG.take {W : List Int} {w : World} {N : Nat} {vs : List Value} {s : List Tr} (h : StG W w N vs s) (r : Nat) : StG W w N (vs.take r) (s.take r) := by
  refine ⟨by rw [List.length_take, List.length_take, h.1], fun i hi => ?_⟩
  rw [List.length_take] at hi
  obtain ⟨g, c, h1, h2⟩ := h.2 i (by omega)
  exact ⟨g, c, by rw [List.getElem?_take, if_pos (by omega)]; exact h1, by rw [List.getElem_take]; exact h2⟩
theorem StG.snoc {W : List Int} {w : World} {N g c : Nat} {vs : List Value} {s : List Tr} {T : Tr} {f : Tb} (h : StG W w N vs s) (hT : OwnTab 0 w (.slice (some ⟨g, 0, none⟩) N c) N N f) (hf : ∀ i j, i < N → j < N → f i j = gT W T i j) : StG W w N (vs ++ [.slice (some ⟨g, 0, none⟩) N c]) (s ++ [T]) := by
  refine ⟨by simp [h.1], fun i hi => ?_⟩
  by_cases e : i < s.length
  · obtain ⟨g, c, h1, h2⟩ := h.2 i e
    exact ⟨g, c, by rw [List.getElem?_append_left (by rw [h.1]; exact e)]; exact h1, by rw [List.getElem_append_left e]; exact h2⟩
  · have e2 : i = s.length := by simp at hi; omega
    subst e2
    refine ⟨g, c, by rw [List.getElem?_append_right (by rw [h.1]; exact Nat.le_refl _), h.1, Nat.sub_self]; rfl, ?_⟩
    have : (s ++ [T])[s.length] = T := by rw [List.getElem_append_right (Nat.le_refl _)]; simp
    rw [this]; exact hT.congr hf
/-- What the loop's round needs of an append: the tables stand. -/
theorem keep_grown {w w' : World} {base n : Nat} {v : Value} {vs : List Value} (hr : w.ownsRow base 112 1 v n vs) (hg : w.grownBy w' v.ownBlock) : ∀ g cs t, (t = 4 ∨ t = 114) → Blk w g t cs → Blk w' g t cs := fun g cs t ht hb =>
  (hg.block g hb.lt (fun e => other_type hr hb (by rcases ht with rfl | rfl <;> decide) e.symm)).trans hb
theorem keep_since {w w' : World} (h : Since w w') : ∀ g cs t, (t = 4 ∨ t = 114) → Blk w g t cs → Blk w' g t cs := fun g cs t _ hb => hb.since h
theorem gT_none (W : List Int) (a b c : Int) (i j : Nat) : gridF false i j = gT W (.node ⟨1, a, b, c⟩ .nil .nil) i j := by simp [gridF, gT]
theorem gT_empty (W : List Int) (a b c : Int) (i j : Nat) : gridF true i j = gT W (.node ⟨2, a, b, c⟩ .nil .nil) i j := by simp [gridF, gT, sameG]
theorem gT_letter (W : List Int) (a b c : Int) (i j : Nat) : letF W a W.length i j = gT W (.node ⟨3, a, b, c⟩ .nil .nil) i j := by rw [letF_all]; simp [gT]
theorem gT_cat (W : List Int) (a b c : Int) (l r : Tr) (i j : Nat) : joinG (gT W l) (gT W r) i j = gT W (.node ⟨4, a, b, c⟩ l r) i j := by simp [gT]
theorem gT_uni (W : List Int) (a b c : Int) (l r : Tr) (i j : Nat) : (gT W l i j || gT W r i j) = gT W (.node ⟨5, a, b, c⟩ l r) i j := by simp [gT]
theorem gT_star (W : List Int) (a b c : Int) (l r : Tr) (i j : Nat) : repG (gT W l) 0 W.length i j = gT W (.node ⟨6, a, b, c⟩ l r) i j := by simp [gT]
theorem gT_rep (W : List Int) (a b c : Int) (l r : Tr) (i j : Nat) : repG (gT W l) b.toNat c.toNat i j = gT W (.node ⟨7, a, b, c⟩ l r) i j := by simp [gT]
set_option maxHeartbeats 16000000 in
set_option maxRecDepth 100000 in
theorem l9Match_any (v u : Value) (xs : List Tok) (W : List Int) (w : World) (hv : isXB xs = true) (h : ToksAt w v xs) (hl : xs.length ≤ 24) (hu : IntsAt w u W) (hW : W.length ≤ 8) :
    Calls Tryd.prog 76 #[v, u] w fun e w' => e = .returned (.bool (matX xs W)) ∧ Since w w' := by
  obtain ⟨ao, ac, rfl, HC⟩ := h.row
  obtain ⟨uo, uc, rfl, HUC⟩ := hu.row
  have HTI := Lib.hid h.1
  obtain ⟨T, hT⟩ : ∃ T, treeO xs = some T := by unfold isXB at hv; exact Option.isSome_iff_exists.1 hv
  have HMX : Hid (matX xs W = gT W T 0 W.length) := by unfold Hid matX; rw [hT]
  have HST1 : Hid (stk [] xs = some [T]) := by
    unfold Hid
    obtain ⟨hok, hp⟩ := treeO_some hT
    rw [hp, stk_post T [] hok]; rfl
  obtain ⟨n, hn⟩ : ∃ n, n = xs.length := ⟨_, rfl⟩
  rw [← hn] at hl ⊢
  have HN := Lib.hid hn
  obtain ⟨M, hM⟩ : ∃ M, M = W.length := ⟨_, rfl⟩
  rw [← hM] at hW ⊢
  have HM := Lib.hid hM
  clear hn hM hT hv h hu
  have hnil : (w.alloc (.cells #[] 112)).ownsRow w.heap.size 112 1 (.slice (some ⟨w.heap.size, 0, none⟩) 0 0) 0 [] := World.ownsRow_lit w #[] 0 (Nat.le_refl _) (Nat.zero_le _) rfl
  have hs0 := (Since.refl w).alloc (.cells #[] 112)
  go_enter Tryd.func76, Tryd.ntmps76
  go_wp2
  go_loopw [6, 7] (fun fv i wr => ∃ (k : Nat) (s : List Tr) (vs : List Value), k ≤ n ∧ i = .int .i64 k ∧ Hid (wr.ownsRow w.heap.size 112 1 fv vs.length vs) ∧ Hid (StG W wr (M + 1) vs s) ∧ Hid (stk [] (xs.take k) = some s) ∧ Hid (Since w wr)) (fun _ i _ => n - (intOf i).toNat)
  case atStart => exact ⟨0, [], [], Nat.zero_le _, rfl, hnil, ⟨rfl, fun i hi => by simp at hi⟩, rfl, hs0⟩
  case round =>
    obtain ⟨k, s, vs, hk, rfl, HR, HG, HS, HW⟩ := hrel
    obtain ⟨fo, fc, rfl, hfc⟩ := row_len1 HR.out
    obtain ⟨m, hm⟩ : ∃ m, m = s.length := ⟨_, rfl⟩
    have HMS := Lib.hid hm
    have HVL : Hid (vs.length = m) := by rw [hm]; exact HG.out.1
    rw [HVL.out] at hfc ⊢
    have HRM : Hid (wr.ownsRow w.heap.size 112 1 (.slice fo m fc) m vs) := by have := HR.out; rwa [HVL.out] at this
    have hw0 := HW.out
    clear HR hm HW
    by_cases hlt : k < n
    · have hx : k < xs.length := by have := HN.out; omega
      obtain ⟨b, off, rfl, hbb, c0, c1, c2, c3⟩ := HC.out k hx
      have s2 := since_cells hw0 hbb
      rw [← s2] at c0 c1 c2 c3
      clear s2
      have hki : (k : Int) < (n : Int) := by omega
      have hk0 : (0 : Int) ≤ (k : Int) := by omega
      have hstep := stk_step hx HS.out
      have hnn : pushT s xs[k] ≠ none := fun h => by have := stk_stop hx HS.out h; rw [HST1.out] at this; cases this
      obtain ⟨s', hs'⟩ := Option.ne_none_iff_exists'.1 hnn
      rw [hs'] at hstep
      obtain ⟨hok, hop, _⟩ := pushT_len hs'
      have HST := Lib.hid hstep
      have HPU := Lib.hid hs'
      obtain ⟨t, ht⟩ : ∃ t, t = xs[k] := ⟨_, rfl⟩
      rw [← ht] at c0 c1 c2 c3 HPU hok hop
      clear ht hnn hs' hstep
      have hm24 : m ≤ 24 := by
        have := stk_len HS.out
        have h2 := HMS.out
        rw [List.length_take] at this
        have h3 := HN.out
        simp at this; omega
      rw [← HMS.out] at hop
      obtain ⟨y, hy⟩ : ∃ y, y = wr.alloc (.cells #[.int .i64 t.kd, .int .i64 t.lr, .int .i64 t.lo, .int .i64 t.hi] 65) := ⟨_, rfl⟩
      have hsy : Since wr y := by rw [hy]; exact (Since.refl wr).alloc _
      have BT : Hid (Blk y wr.heap.size 65 #[.int .i64 t.kd, .int .i64 t.lr, .int .i64 t.lo, .int .i64 t.hi]) := by rw [hy]; exact Blk.new rfl _ _
      have HRY := Lib.hid (row_since HRM.out hsy)
      have HGY := Lib.hid (HG.out.since hsy)
      have hwy := hw0.trans hsy
      have HY := Lib.hid hy
      obtain ⟨d0, d1, d2, d3, _⟩ := BT.out.four
      rw [hy] at d0 d1 d2 d3
      clear hy HG HRM
      obtain ⟨kd, lr, lo, hi⟩ := t
      have hk17 := okT_kd hok
      rw [opN_of] at hop
      dsimp only at hk17 c0 c1 c2 c3 d0 d1 d2 d3 BT HPU HY
      have hm0 : (0 : Int) ≤ (m : Int) := by omega
      have hMi : ((M + 1 : Nat) : Int) = (M : Int) + 1 := by omega
      rcases (by omega : kd = 1 ∨ kd = 2 ∨ kd = 3 ∨ kd = 4 ∨ kd = 5 ∨ kd = 6 ∨ kd = 7) with rfl | rfl | rfl | rfl | rfl | rfl | rfl
      · have HSN := Lib.hid (push_0 HPU.out rfl)
        clear hop
        go_wp2_with fail
        rw [← HY.out]
        clear c0 c1 c2 c3 d0 d1 d2 d3
        try rw [← hMi]
        refine (l9Grid_any (M + 1) false _ (by omega) (by omega)).mono ?_
        rintro e w2 ⟨v2, rfl, ho2, hs2⟩
        obtain ⟨g2, c2, _, rfl, _⟩ := ho2.at 0 (by omega)
        have HT2 := Lib.hid (ho2.mono (Nat.zero_le _))
        have HR2 := Lib.hid (row_since HRY.out hs2)
        have HG2 := Lib.hid (HGY.out.since hs2)
        have h02 := hwy.trans hs2
        clear ho2 hs2
        go_wp2_with (at_builtin; go_must (refine wpList_append_tab rfl (.tmp 32) (.tmp 35) rfl w.heap.size _ m (vs) (by first | rfl | simp [Act.eval]) HR2.out (.slice (some ⟨g2, 0, none⟩) (M + 1) c2) (by first | rfl | simp [Act.eval]) rfl (by omega) h02.size ?_); intro v5 w5 ho5 hg5; have HO5 := Lib.hid ho5; have HG5 := Lib.hid hg5; clear ho5 hg5)
        have hal5 : Since w2 (w2.alloc (.cells #[.slice (some ⟨g2, 0, none⟩) (M + 1) c2] 112)) := (Since.refl _).alloc _
        have hkp5 := keep_grown (row_since HR2.out hal5) HG5.out
        have HGN : Hid (StG W w5 (M + 1) (vs ++ [.slice (some ⟨g2, 0, none⟩) (M + 1) c2]) (s ++ [Tr.node ⟨1, lr, lo, hi⟩ .nil .nil])) := StG.snoc ((HG2.out.since hal5).keep hkp5) ((HT2.out.since hal5).keep hkp5) (fun i j _ _ => gT_none W _ _ _ i j)
        have HS5 : Hid (Since w w5) := (h02.trans hal5).grown HG5.out fun q hq => ((row_since HR2.out hal5).lt q hq).1
        have HLN : Hid ((vs ++ [Value.slice (some ⟨g2, 0, none⟩) (M + 1) c2]).length = m + 1) := by unfold Hid; rw [List.length_append]; have := HVL.out; simp; omega
        clear hkp5 hal5
        go_roundw
        case rel =>
          refine ⟨k + 1, s ++ [Tr.node ⟨1, lr, lo, hi⟩ .nil .nil], vs ++ [Value.slice (some ⟨g2, 0, none⟩) (M + 1) c2], by omega, by go_num, ?_, HGN.out, ?_, HS5.out⟩
          · unfold Hid; rw [HLN.out]; exact HO5.out
          · unfold Hid; rw [HST.out, HSN.out]
        case measure => simp [intOf]; omega
      · have HSN := Lib.hid (push_0 HPU.out rfl)
        clear hop
        go_wp2_with fail
        rw [← HY.out]
        clear c0 c1 c2 c3 d0 d1 d2 d3
        try rw [← hMi]
        refine (l9Grid_any (M + 1) true _ (by omega) (by omega)).mono ?_
        rintro e w2 ⟨v2, rfl, ho2, hs2⟩
        obtain ⟨g2, c2, _, rfl, _⟩ := ho2.at 0 (by omega)
        have HT2 := Lib.hid (ho2.mono (Nat.zero_le _))
        have HR2 := Lib.hid (row_since HRY.out hs2)
        have HG2 := Lib.hid (HGY.out.since hs2)
        have h02 := hwy.trans hs2
        clear ho2 hs2
        go_wp2_with (at_builtin; go_must (refine wpList_append_tab rfl (.tmp 39) (.tmp 42) rfl w.heap.size _ m (vs) (by first | rfl | simp [Act.eval]) HR2.out (.slice (some ⟨g2, 0, none⟩) (M + 1) c2) (by first | rfl | simp [Act.eval]) rfl (by omega) h02.size ?_); intro v5 w5 ho5 hg5; have HO5 := Lib.hid ho5; have HG5 := Lib.hid hg5; clear ho5 hg5)
        have hal5 : Since w2 (w2.alloc (.cells #[.slice (some ⟨g2, 0, none⟩) (M + 1) c2] 112)) := (Since.refl _).alloc _
        have hkp5 := keep_grown (row_since HR2.out hal5) HG5.out
        have HGN : Hid (StG W w5 (M + 1) (vs ++ [.slice (some ⟨g2, 0, none⟩) (M + 1) c2]) (s ++ [Tr.node ⟨2, lr, lo, hi⟩ .nil .nil])) := StG.snoc ((HG2.out.since hal5).keep hkp5) ((HT2.out.since hal5).keep hkp5) (fun i j _ _ => gT_empty W _ _ _ i j)
        have HS5 : Hid (Since w w5) := (h02.trans hal5).grown HG5.out fun q hq => ((row_since HR2.out hal5).lt q hq).1
        have HLN : Hid ((vs ++ [Value.slice (some ⟨g2, 0, none⟩) (M + 1) c2]).length = m + 1) := by unfold Hid; rw [List.length_append]; have := HVL.out; simp; omega
        clear hkp5 hal5
        go_roundw
        case rel =>
          refine ⟨k + 1, s ++ [Tr.node ⟨2, lr, lo, hi⟩ .nil .nil], vs ++ [Value.slice (some ⟨g2, 0, none⟩) (M + 1) c2], by omega, by go_num, ?_, HGN.out, ?_, HS5.out⟩
          · unfold Hid; rw [HLN.out]; exact HO5.out
          · unfold Hid; rw [HST.out, HSN.out]
        case measure => simp [intOf]; omega
      · have HSN := Lib.hid (push_0 HPU.out rfl)
        clear hop
        go_wp2_with fail
        rw [← HY.out]
        clear c0 c1 c2 c3 d0 d1 d2 d3
        try rw [← hMi]
        refine (l9Grid_any (M + 1) false _ (by omega) (by omega)).mono ?_
        rintro e w2 ⟨v2, rfl, ho2, hs2⟩
        obtain ⟨g2, c2, _, rfl, _⟩ := ho2.at 0 (by omega)
        have HT0 : Hid (OwnTab y.heap.size w2 (.slice (some ⟨g2, 0, none⟩) (M + 1) c2) (M + 1) (M + 1) (letF W lr 0)) := ho2.congr (fun i j _ _ => (letF_zero W lr i j).symm)
        clear ho2
        go_wp2
        go_loopw [11] (fun i wz => ∃ q : Nat, q ≤ M ∧ i = .int .i64 q ∧ Hid (OwnTab y.heap.size wz (.slice (some ⟨g2, 0, none⟩) (M + 1) c2) (M + 1) (M + 1) (letF W lr q)) ∧ Hid (Since y wz)) (fun i _ => M - (intOf i).toNat)
        case atStart => exact ⟨0, Nat.zero_le _, rfl, HT0.out, hs2⟩
        case round =>
          obtain ⟨q, hq, rfl, HT, HWz⟩ := hrel
          have hz0 := HWz.out
          clear HWz
          by_cases hlq : q < M
          · have hqi : (q : Int) < (M : Int) := by omega
            have hq0 : (0 : Int) ≤ (q : Int) := by omega
            have hqW : q < W.length := by have := HM.out; omega
            obtain ⟨g1, p1, bo, e1, o0, o1, obase, _, oset, _⟩ := HT.out.at q (by omega)
            injection e1 with e1 _ _
            injection e1 with e1; injection e1 with e1
            subst e1
            obtain ⟨oc, of⟩ := o1 (q + 1) (by omega)
            obtain ⟨wb, woff, rfl, hwb, wc0⟩ := HUC.out q hqW
            have wc1 := (since_cells (hwy.trans hz0) hwb (woff + q)).trans wc0
            have HST2 := Lib.hid (oset (q + 1) (W[q] == lr) (by omega))
            have HSTEP := Lib.hid (letF_step (w := W) (c := lr) hqW)
            obtain ⟨c, hc⟩ : ∃ c, c = W[q] := ⟨_, rfl⟩
            rw [← hc] at wc1 HST2 HSTEP
            obtain ⟨t0, t1, t2, t3, _⟩ := (BT.out.since hz0).four
            have HSZ : Hid (Since y (wr.setCell ⟨bo, q + 1, none⟩ (.bool (c == lr)))) := hz0.setCell obase _
            have hq1 : (q : Int) + 1 < ((M + 1 : Nat) : Int) := by omega
            have hq1b : (0 : Int) ≤ (q : Int) + 1 := by omega
            clear o1 oset wc0 hc
            go_upto_region 17 with fail
            go_region
            go_wp2
            go_roundw
            case rel => exact ⟨q + 1, by omega, by go_num, ((HST2.out.congr (fun i j _ _ => HSTEP.out i j)).since (Since.refl _).drew), HSZ.out.drew⟩
            case measure => simp [intOf]; omega
          · obtain rfl : q = M := by omega
            have HT2 : Hid (OwnTab 0 wr (.slice (some ⟨g2, 0, none⟩) (q + 1) c2) (q + 1) (q + 1) (letF W lr W.length)) := by rw [← HM.out]; exact HT.out.mono (Nat.zero_le _)
            have HR2 := Lib.hid (row_since HRY.out hz0)
            have HG2 := Lib.hid (HGY.out.since hz0)
            have h02 := hwy.trans hz0
            clear HT
            go_wp2_with (at_builtin; go_must (refine wpList_append_tab rfl (.tmp 68) (.tmp 70) rfl w.heap.size _ m (vs) (by first | rfl | simp [Act.eval]) HR2.out (.slice (some ⟨g2, 0, none⟩) (q + 1) c2) (by first | rfl | simp [Act.eval]) rfl (by omega) h02.size ?_); intro v5 w5 ho5 hg5; have HO5 := Lib.hid ho5; have HG5 := Lib.hid hg5; clear ho5 hg5)
            have hal5 : Since wr (wr.alloc (.cells #[.slice (some ⟨g2, 0, none⟩) (q + 1) c2] 112)) := (Since.refl _).alloc _
            have hkp5 := keep_grown (row_since HR2.out hal5) HG5.out
            have HGN : Hid (StG W w5 (q + 1) (vs ++ [.slice (some ⟨g2, 0, none⟩) (q + 1) c2]) (s ++ [Tr.node ⟨3, lr, lo, hi⟩ .nil .nil])) := StG.snoc ((HG2.out.since hal5).keep hkp5) ((HT2.out.since hal5).keep hkp5) (fun i j _ _ => gT_letter W _ _ _ i j)
            have HS5 : Hid (Since w w5) := (h02.trans hal5).grown HG5.out fun q hq => ((row_since HR2.out hal5).lt q hq).1
            have HLN : Hid ((vs ++ [Value.slice (some ⟨g2, 0, none⟩) (q + 1) c2]).length = m + 1) := by unfold Hid; rw [List.length_append]; have := HVL.out; simp; omega
            clear hkp5 hal5
            go_roundw
            case rel =>
              refine ⟨k + 1, s ++ [Tr.node ⟨3, lr, lo, hi⟩ .nil .nil], vs ++ [Value.slice (some ⟨g2, 0, none⟩) (q + 1) c2], by omega, by go_num, ?_, HGN.out, ?_, HS5.out⟩
              · unfold Hid; rw [HLN.out]; exact HO5.out
              · unfold Hid; rw [HST.out, HSN.out]
            case measure => simp [intOf]; omega
      · have hm2 : 2 ≤ m := by simp at hop; exact hop
        obtain ⟨r, rfl⟩ : ∃ r, m = r + 2 := ⟨m - 2, by omega⟩
        have hrs : s.length = r + 2 := HMS.out.symm
        have HSN := Lib.hid (push_2 HPU.out rfl hrs)
        obtain ⟨ga, ca, ea, hta⟩ := HGY.out.2 r (by omega)
        obtain ⟨gb, cb, eb, htb⟩ := HGY.out.2 (r + 1) (by omega)
        obtain ⟨fg, fcap, e1, hfg⟩ := own_block HRY.out (by omega)
        injection e1 with e1 e2 e3
        subst e1; subst e3
        clear e2
        have HTA := Lib.hid hta
        have HTB := Lib.hid htb
        obtain ⟨A, hA⟩ : ∃ A, A = s[r]'(by omega) := ⟨_, rfl⟩
        obtain ⟨B, hB⟩ : ∃ B, B = s[r + 1]'(by omega) := ⟨_, rfl⟩
        rw [← hA] at HTA HSN
        rw [← hB] at HTB HSN
        have HKC : Hid (∀ w', Since y w' → w'.cell? ⟨fg, r, none⟩ = some (.slice (some ⟨ga, 0, none⟩) (M + 1) ca) ∧ w'.cell? ⟨fg, r + 1, none⟩ = some (.slice (some ⟨gb, 0, none⟩) (M + 1) cb)) := fun w' hs => ⟨((row_since HRY.out hs).cellAt r (by omega)).trans ea, ((row_since HRY.out hs).cellAt (r + 1) (by omega)).trans eb⟩
        have hr0 : (0 : Int) ≤ (r : Int) := by omega
        have hne : ¬ (fc = r) := by omega
        have hM1 : 1 ≤ M + 1 := by omega
        have hM9 : M + 1 ≤ 9 := by omega
        have ew1 : IntKind.i64.wrap (r : Int) = (r : Int) := by rw [IntKind.wrap_i64]; omega
        have ew2 : IntKind.i64.wrap ((r : Int) + 2 - 1) = (r : Int) + 1 := by rw [IntKind.wrap_i64]; omega
        have hr2 : (r : Int) < (r : Int) + 2 := by omega
        have hr3 : (r : Int) + 1 < (r : Int) + 2 := by omega
        have hr4 : (0 : Int) ≤ (r : Int) + 1 := by omega
        have hr5 : ((r : Int) + 1).toNat = r + 1 := by omega
        clear hop hta htb hA hB hm2 hrs ea eb
        go_upto_region 20 with fail
        rw [← HY.out]
        clear c0 c1 c2 c3 d0 d1 d2 d3
        refine wp_region_held_drew (S := (fun w' => w'.cell? ⟨fg, r, none⟩ = some (.slice (some ⟨ga, 0, none⟩) (M + 1) ca) ∧ w'.cell? ⟨fg, r + 1, none⟩ = some (.slice (some ⟨gb, 0, none⟩) (M + 1) cb))) (by kernel_rfl) (HKC.out _ (Since.refl _).drew) (fun hHeld => ?_)
        refine take_yes 0 (some 74) (v := ?_) rfl (by kernel_rfl) (by kernel_rfl) (by kernel_rfl) (by kernel_rfl) (fun _ _ _ h => h) (by rfl) (by assumption) ?_ ?_
        rotate_left
        · (intro w' hSw; (try dsimp only at hSw); go_simp; try with_reducible rfl)
        try simp only [Act.put, List.setIfInBounds_toArray, List.set_cons_zero, List.set_cons_succ]
        refine take_yes 1 (some 75) (v := ?_) rfl (by kernel_rfl) (by kernel_rfl) (by kernel_rfl) (by kernel_rfl) (fun _ _ _ h => h) (by rfl) (by assumption) ?_ ?_
        rotate_left
        · (intro w' hSw; (try dsimp only at hSw); go_simp; try with_reducible rfl)
        try simp only [Act.put, List.setIfInBounds_toArray, List.set_cons_zero, List.set_cons_succ]
        refine take_yes 2 (some 76) (v := ?_) rfl (by kernel_rfl) (by kernel_rfl) (by kernel_rfl) (by kernel_rfl) (fun _ _ _ h => h) (by rfl) (by assumption) ?_ ?_
        rotate_left
        · (intro w' hSw; (try dsimp only at hSw); go_simp; try with_reducible rfl)
        try simp only [Act.put, List.setIfInBounds_toArray, List.set_cons_zero, List.set_cons_succ]
        refine take_yes 3 (some 77) (v := ?_) rfl (by kernel_rfl) (by kernel_rfl) (by kernel_rfl) (by kernel_rfl) (fun _ _ _ h => h) (by rfl) (by assumption) ?_ ?_
        rotate_left
        · (intro w' hSw; (try dsimp only at hSw); go_simp; try with_reducible rfl)
        try simp only [Act.put, List.setIfInBounds_toArray, List.set_cons_zero, List.set_cons_succ]
        refine take_yes 4 (some 78) (v := ?_) rfl (by kernel_rfl) (by kernel_rfl) (by kernel_rfl) (by kernel_rfl) (fun _ _ _ h => h) (by rfl) (by assumption) ?_ ?_
        rotate_left
        · (intro w' hSw; (try dsimp only at hSw); go_simp; try with_reducible rfl)
        try simp only [Act.put, List.setIfInBounds_toArray, List.set_cons_zero, List.set_cons_succ]
        refine take_yes 5 (some 79) (v := ?_) rfl (by kernel_rfl) (by kernel_rfl) (by kernel_rfl) (by kernel_rfl) (fun _ _ _ h => h) (by rfl) (by assumption) ?_ ?_
        rotate_left
        · (intro w' hSw; (try dsimp only at hSw); go_simp; try with_reducible rfl)
        try simp only [Act.put, List.setIfInBounds_toArray, List.set_cons_zero, List.set_cons_succ]
        refine take_yes 6 (some 80) (v := ?_) rfl (by kernel_rfl) (by kernel_rfl) (by kernel_rfl) (by kernel_rfl) (fun _ _ _ h => h) (by rfl) (by assumption) ?_ ?_
        rotate_left
        · (intro w' hSw; (try dsimp only at hSw); go_simp; try with_reducible rfl)
        try simp only [Act.put, List.setIfInBounds_toArray, List.set_cons_zero, List.set_cons_succ]
        refine take_yes 7 (some 81) (v := ?_) rfl (by kernel_rfl) (by kernel_rfl) (by kernel_rfl) (by kernel_rfl) (fun _ _ _ h => h) (by rfl) (by assumption) ?_ ?_
        rotate_left
        · (intro w' hSw; (try dsimp only at hSw); go_simp; try with_reducible rfl)
        try simp only [Act.put, List.setIfInBounds_toArray, List.set_cons_zero, List.set_cons_succ]
        refine take_yes 8 (some 82) (v := ?_) rfl (by kernel_rfl) (by kernel_rfl) (by kernel_rfl) (by kernel_rfl) (fun _ _ _ h => h) (by rfl) (by assumption) ?_ ?_
        rotate_left
        · (intro w' hSw; (try dsimp only at hSw); go_simp; try with_reducible rfl)
        try simp only [Act.put, List.setIfInBounds_toArray, List.set_cons_zero, List.set_cons_succ]
        refine take_yes 9 (some 83) (v := ?_) rfl (by kernel_rfl) (by kernel_rfl) (by kernel_rfl) (by kernel_rfl) (fun _ _ _ h => h) (by rfl) (by assumption) ?_ ?_
        rotate_left
        · (intro w' hSw; (try dsimp only at hSw); go_simp; try with_reducible rfl)
        try simp only [Act.put, List.setIfInBounds_toArray, List.set_cons_zero, List.set_cons_succ]
        refine take_run 10 rfl (by kernel_rfl) (by rfl) (fun K hK => ?_)
        go_simp
        refine (l9Joined_any (M + 1) (gT W A) (gT W B) _ _ _ hM1 hM9 (HTA.out.since (Since.refl y).drew) (HTB.out.since (Since.refl y).drew)).mono ?_
        rintro en w2 ⟨v2, rfl, ho2, hs2⟩
        have hs2 := Since.of_drew hs2
        obtain ⟨g2, c2, _, rfl, _⟩ := ho2.at 0 (Nat.succ_pos M)
        have HT2 := Lib.hid (ho2.mono (Nat.zero_le _))
        refine hK.out _ _ (HKC.out _ hs2) (fun hHeld2 => ?_)
        clear hK K hHeld ho2
        try simp only [Act.put, List.setIfInBounds_toArray, List.set_cons_zero, List.set_cons_succ]
        refine take_yes 11 (some 12) (v := ?_) rfl (by kernel_rfl) (by kernel_rfl) (by kernel_rfl) (by kernel_rfl) (fun _ _ _ h => h) (by rfl) (by assumption) ?_ ?_
        rotate_left
        · (intro w' hSw; (try dsimp only at hSw); go_simp; try with_reducible rfl)
        try simp only [Act.put, List.setIfInBounds_toArray, List.set_cons_zero, List.set_cons_succ]
        refine wpAnyH_done (by kernel_rfl) ?_ _
        clear hHeld2 HKC ew1 ew2 hr5
        have HR2 : Hid (w2.ownsRow w.heap.size 112 1 (.slice (some ⟨fg, 0, none⟩) r fc) r (vs.take r)) := row_take1B (row_since HRY.out hs2)
        have HG2 := Lib.hid ((HGY.out.since hs2).take r)
        have h02 := hwy.trans hs2
        clear hs2

        go_wp2_with (at_builtin; go_must (refine wpList_append_tab rfl (.tmp 88) (.tmp 90) rfl w.heap.size _ r (vs.take r) (by first | rfl | simp [Act.eval]) HR2.out (.slice (some ⟨g2, 0, none⟩) (M + 1) c2) (by first | rfl | simp [Act.eval]) rfl (by omega) h02.size ?_); intro v5 w5 ho5 hg5; have HO5 := Lib.hid ho5; have HG5 := Lib.hid hg5; clear ho5 hg5)
        have hal5 : Since w2 (w2.alloc (.cells #[.slice (some ⟨g2, 0, none⟩) (M + 1) c2] 112)) := (Since.refl _).alloc _
        have hkp5 := keep_grown (row_since HR2.out hal5) HG5.out
        have HGN : Hid (StG W w5 (M + 1) (vs.take r ++ [.slice (some ⟨g2, 0, none⟩) (M + 1) c2]) (s.take r ++ [Tr.node ⟨4, lr, lo, hi⟩ A B])) := StG.snoc ((HG2.out.since hal5).keep hkp5) ((HT2.out.since hal5).keep hkp5) (fun i j _ _ => gT_cat W _ _ _ A B i j)
        have HS5 : Hid (Since w w5) := (h02.trans hal5).grown HG5.out fun q hq => ((row_since HR2.out hal5).lt q hq).1
        have HLN : Hid ((vs.take r ++ [Value.slice (some ⟨g2, 0, none⟩) (M + 1) c2]).length = r + 1) := by unfold Hid; rw [List.length_append]; have := HVL.out; rw [List.length_take]; simp; omega
        clear hkp5 hal5
        go_roundw
        case rel =>
          refine ⟨k + 1, s.take r ++ [Tr.node ⟨4, lr, lo, hi⟩ A B], vs.take r ++ [Value.slice (some ⟨g2, 0, none⟩) (M + 1) c2], by omega, by go_num, ?_, HGN.out, ?_, HS5.out⟩
          · unfold Hid; rw [HLN.out]; exact HO5.out
          · unfold Hid; rw [HST.out, HSN.out]
        case measure => simp [intOf]; omega
      · have hm2 : 2 ≤ m := by simp at hop; exact hop
        obtain ⟨r, rfl⟩ : ∃ r, m = r + 2 := ⟨m - 2, by omega⟩
        have hrs : s.length = r + 2 := HMS.out.symm
        have HSN := Lib.hid (push_2 HPU.out rfl hrs)
        obtain ⟨ga, ca, ea, hta⟩ := HGY.out.2 r (by omega)
        obtain ⟨gb, cb, eb, htb⟩ := HGY.out.2 (r + 1) (by omega)
        obtain ⟨fg, fcap, e1, hfg⟩ := own_block HRY.out (by omega)
        injection e1 with e1 e2 e3
        subst e1; subst e3
        clear e2
        have HTA := Lib.hid hta
        have HTB := Lib.hid htb
        obtain ⟨A, hA⟩ : ∃ A, A = s[r]'(by omega) := ⟨_, rfl⟩
        obtain ⟨B, hB⟩ : ∃ B, B = s[r + 1]'(by omega) := ⟨_, rfl⟩
        rw [← hA] at HTA HSN
        rw [← hB] at HTB HSN
        have HKC : Hid (∀ w', Since y w' → w'.cell? ⟨fg, r, none⟩ = some (.slice (some ⟨ga, 0, none⟩) (M + 1) ca) ∧ w'.cell? ⟨fg, r + 1, none⟩ = some (.slice (some ⟨gb, 0, none⟩) (M + 1) cb)) := fun w' hs => ⟨((row_since HRY.out hs).cellAt r (by omega)).trans ea, ((row_since HRY.out hs).cellAt (r + 1) (by omega)).trans eb⟩
        have hr0 : (0 : Int) ≤ (r : Int) := by omega
        have hne : ¬ (fc = r) := by omega
        have hM1 : 1 ≤ M + 1 := by omega
        have hM9 : M + 1 ≤ 9 := by omega
        have ew1 : IntKind.i64.wrap (r : Int) = (r : Int) := by rw [IntKind.wrap_i64]; omega
        have ew2 : IntKind.i64.wrap ((r : Int) + 2 - 1) = (r : Int) + 1 := by rw [IntKind.wrap_i64]; omega
        have hr2 : (r : Int) < (r : Int) + 2 := by omega
        have hr3 : (r : Int) + 1 < (r : Int) + 2 := by omega
        have hr4 : (0 : Int) ≤ (r : Int) + 1 := by omega
        have hr5 : ((r : Int) + 1).toNat = r + 1 := by omega
        clear hop hta htb hA hB hm2 hrs ea eb
        go_upto_region 23 with fail
        rw [← HY.out]
        clear c0 c1 c2 c3 d0 d1 d2 d3
        refine wp_region_held_drew (S := (fun w' => w'.cell? ⟨fg, r, none⟩ = some (.slice (some ⟨ga, 0, none⟩) (M + 1) ca) ∧ w'.cell? ⟨fg, r + 1, none⟩ = some (.slice (some ⟨gb, 0, none⟩) (M + 1) cb))) (by kernel_rfl) (HKC.out _ (Since.refl _).drew) (fun hHeld => ?_)
        refine take_yes 0 (some 94) (v := ?_) rfl (by kernel_rfl) (by kernel_rfl) (by kernel_rfl) (by kernel_rfl) (fun _ _ _ h => h) (by rfl) (by assumption) ?_ ?_
        rotate_left
        · (intro w' hSw; (try dsimp only at hSw); go_simp; try with_reducible rfl)
        try simp only [Act.put, List.setIfInBounds_toArray, List.set_cons_zero, List.set_cons_succ]
        refine take_yes 1 (some 95) (v := ?_) rfl (by kernel_rfl) (by kernel_rfl) (by kernel_rfl) (by kernel_rfl) (fun _ _ _ h => h) (by rfl) (by assumption) ?_ ?_
        rotate_left
        · (intro w' hSw; (try dsimp only at hSw); go_simp; try with_reducible rfl)
        try simp only [Act.put, List.setIfInBounds_toArray, List.set_cons_zero, List.set_cons_succ]
        refine take_yes 2 (some 96) (v := ?_) rfl (by kernel_rfl) (by kernel_rfl) (by kernel_rfl) (by kernel_rfl) (fun _ _ _ h => h) (by rfl) (by assumption) ?_ ?_
        rotate_left
        · (intro w' hSw; (try dsimp only at hSw); go_simp; try with_reducible rfl)
        try simp only [Act.put, List.setIfInBounds_toArray, List.set_cons_zero, List.set_cons_succ]
        refine take_yes 3 (some 97) (v := ?_) rfl (by kernel_rfl) (by kernel_rfl) (by kernel_rfl) (by kernel_rfl) (fun _ _ _ h => h) (by rfl) (by assumption) ?_ ?_
        rotate_left
        · (intro w' hSw; (try dsimp only at hSw); go_simp; try with_reducible rfl)
        try simp only [Act.put, List.setIfInBounds_toArray, List.set_cons_zero, List.set_cons_succ]
        refine take_yes 4 (some 98) (v := ?_) rfl (by kernel_rfl) (by kernel_rfl) (by kernel_rfl) (by kernel_rfl) (fun _ _ _ h => h) (by rfl) (by assumption) ?_ ?_
        rotate_left
        · (intro w' hSw; (try dsimp only at hSw); go_simp; try with_reducible rfl)
        try simp only [Act.put, List.setIfInBounds_toArray, List.set_cons_zero, List.set_cons_succ]
        refine take_yes 5 (some 99) (v := ?_) rfl (by kernel_rfl) (by kernel_rfl) (by kernel_rfl) (by kernel_rfl) (fun _ _ _ h => h) (by rfl) (by assumption) ?_ ?_
        rotate_left
        · (intro w' hSw; (try dsimp only at hSw); go_simp; try with_reducible rfl)
        try simp only [Act.put, List.setIfInBounds_toArray, List.set_cons_zero, List.set_cons_succ]
        refine take_yes 6 (some 100) (v := ?_) rfl (by kernel_rfl) (by kernel_rfl) (by kernel_rfl) (by kernel_rfl) (fun _ _ _ h => h) (by rfl) (by assumption) ?_ ?_
        rotate_left
        · (intro w' hSw; (try dsimp only at hSw); go_simp; try with_reducible rfl)
        try simp only [Act.put, List.setIfInBounds_toArray, List.set_cons_zero, List.set_cons_succ]
        refine take_yes 7 (some 101) (v := ?_) rfl (by kernel_rfl) (by kernel_rfl) (by kernel_rfl) (by kernel_rfl) (fun _ _ _ h => h) (by rfl) (by assumption) ?_ ?_
        rotate_left
        · (intro w' hSw; (try dsimp only at hSw); go_simp; try with_reducible rfl)
        try simp only [Act.put, List.setIfInBounds_toArray, List.set_cons_zero, List.set_cons_succ]
        refine take_yes 8 (some 102) (v := ?_) rfl (by kernel_rfl) (by kernel_rfl) (by kernel_rfl) (by kernel_rfl) (fun _ _ _ h => h) (by rfl) (by assumption) ?_ ?_
        rotate_left
        · (intro w' hSw; (try dsimp only at hSw); go_simp; try with_reducible rfl)
        try simp only [Act.put, List.setIfInBounds_toArray, List.set_cons_zero, List.set_cons_succ]
        refine take_yes 9 (some 103) (v := ?_) rfl (by kernel_rfl) (by kernel_rfl) (by kernel_rfl) (by kernel_rfl) (fun _ _ _ h => h) (by rfl) (by assumption) ?_ ?_
        rotate_left
        · (intro w' hSw; (try dsimp only at hSw); go_simp; try with_reducible rfl)
        try simp only [Act.put, List.setIfInBounds_toArray, List.set_cons_zero, List.set_cons_succ]
        refine take_run 10 rfl (by kernel_rfl) (by rfl) (fun K hK => ?_)
        go_simp
        refine (l9Either_any (M + 1) (gT W A) (gT W B) _ _ _ hM1 hM9 (HTA.out.since (Since.refl y).drew) (HTB.out.since (Since.refl y).drew) (low_gT W A _) (low_gT W B _)).mono ?_
        rintro en w2 ⟨v2, rfl, ho2, hs2⟩
        have hs2 := Since.of_drew hs2
        obtain ⟨g2, c2, _, rfl, _⟩ := ho2.at 0 (Nat.succ_pos M)
        have HT2 := Lib.hid (ho2.mono (Nat.zero_le _))
        refine hK.out _ _ (HKC.out _ hs2) (fun hHeld2 => ?_)
        clear hK K hHeld ho2
        try simp only [Act.put, List.setIfInBounds_toArray, List.set_cons_zero, List.set_cons_succ]
        refine take_yes 11 (some 13) (v := ?_) rfl (by kernel_rfl) (by kernel_rfl) (by kernel_rfl) (by kernel_rfl) (fun _ _ _ h => h) (by rfl) (by assumption) ?_ ?_
        rotate_left
        · (intro w' hSw; (try dsimp only at hSw); go_simp; try with_reducible rfl)
        try simp only [Act.put, List.setIfInBounds_toArray, List.set_cons_zero, List.set_cons_succ]
        refine wpAnyH_done (by kernel_rfl) ?_ _
        clear hHeld2 HKC ew1 ew2 hr5
        have HR2 : Hid (w2.ownsRow w.heap.size 112 1 (.slice (some ⟨fg, 0, none⟩) r fc) r (vs.take r)) := row_take1B (row_since HRY.out hs2)
        have HG2 := Lib.hid ((HGY.out.since hs2).take r)
        have h02 := hwy.trans hs2
        clear hs2

        go_wp2_with (at_builtin; go_must (refine wpList_append_tab rfl (.tmp 108) (.tmp 110) rfl w.heap.size _ r (vs.take r) (by first | rfl | simp [Act.eval]) HR2.out (.slice (some ⟨g2, 0, none⟩) (M + 1) c2) (by first | rfl | simp [Act.eval]) rfl (by omega) h02.size ?_); intro v5 w5 ho5 hg5; have HO5 := Lib.hid ho5; have HG5 := Lib.hid hg5; clear ho5 hg5)
        have hal5 : Since w2 (w2.alloc (.cells #[.slice (some ⟨g2, 0, none⟩) (M + 1) c2] 112)) := (Since.refl _).alloc _
        have hkp5 := keep_grown (row_since HR2.out hal5) HG5.out
        have HGN : Hid (StG W w5 (M + 1) (vs.take r ++ [.slice (some ⟨g2, 0, none⟩) (M + 1) c2]) (s.take r ++ [Tr.node ⟨5, lr, lo, hi⟩ A B])) := StG.snoc ((HG2.out.since hal5).keep hkp5) ((HT2.out.since hal5).keep hkp5) (fun i j _ _ => gT_uni W _ _ _ A B i j)
        have HS5 : Hid (Since w w5) := (h02.trans hal5).grown HG5.out fun q hq => ((row_since HR2.out hal5).lt q hq).1
        have HLN : Hid ((vs.take r ++ [Value.slice (some ⟨g2, 0, none⟩) (M + 1) c2]).length = r + 1) := by unfold Hid; rw [List.length_append]; have := HVL.out; rw [List.length_take]; simp; omega
        clear hkp5 hal5
        go_roundw
        case rel =>
          refine ⟨k + 1, s.take r ++ [Tr.node ⟨5, lr, lo, hi⟩ A B], vs.take r ++ [Value.slice (some ⟨g2, 0, none⟩) (M + 1) c2], by omega, by go_num, ?_, HGN.out, ?_, HS5.out⟩
          · unfold Hid; rw [HLN.out]; exact HO5.out
          · unfold Hid; rw [HST.out, HSN.out]
        case measure => simp [intOf]; omega
      · have hm1 : 1 ≤ m := by simp at hop; exact hop
        obtain ⟨r, rfl⟩ : ∃ r, m = r + 1 := ⟨m - 1, by omega⟩
        have hrs : s.length = r + 1 := HMS.out.symm
        have HSN := Lib.hid (push_1 HPU.out rfl hrs)
        obtain ⟨ga, ca, ea, hta⟩ := HGY.out.2 r (by omega)
        obtain ⟨fg, fcap, e1, hfg⟩ := own_block HRY.out (by omega)
        injection e1 with e1 e2 e3
        subst e1; subst e3
        clear e2
        have HTA := Lib.hid hta
        obtain ⟨A, hA⟩ : ∃ A, A = s[r]'(by omega) := ⟨_, rfl⟩
        rw [← hA] at HTA HSN
        have HKF : Hid (∀ w', Since y w' → w'.cell? ⟨fg, r, none⟩ = some (.slice (some ⟨ga, 0, none⟩) (M + 1) ca) ∧ w'.frozen? ⟨fg, r, none⟩ = false) := fun w' hs => ⟨((row_since HRY.out hs).cellAt r (by omega)).trans ea, (row_since HRY.out hs).frozenAt r⟩
        have hr0 : (0 : Int) ≤ (r : Int) := by omega
        have ew1 : IntKind.i64.wrap (r : Int) = (r : Int) := by rw [IntKind.wrap_i64]; omega
        have hr2 : (r : Int) < (r : Int) + 1 := by omega
        clear hop hta hA hm1 hrs ea
        have q0 := (HKF.out _ (Since.refl y)).1
        rw [HY.out] at q0
        go_wp2_with fail
        rw [← HY.out]
        clear c0 c1 c2 c3 d0 d1 d2 d3 q0
        refine (show Calls Tryd.prog 106 #[_, .int .i64 0, .int .i64 (M : Int)] y _ from l9Repeated_any (M + 1) (gT W A) _ 0 M _ (by omega) (by omega) (by omega) (by omega) HTA.out).mono ?_
        rintro e w2 ⟨v2, rfl, ho2, hs2⟩
        obtain ⟨g2, c2, _, rfl, _⟩ := ho2.at 0 (by omega)
        have HT2 := Lib.hid (ho2.mono (Nat.zero_le _))
        clear ho2
        obtain ⟨q0, q1⟩ := HKF.out _ hs2
        have hst := ((row_since HRY.out hs2).stored r (.slice (some ⟨g2, 0, none⟩) (M + 1) c2)).1
        have HSTO := Lib.hid hst
        have hkb : ∀ g cs t, (t = 4 ∨ t = 114) → Blk w2 g t cs → Blk (w2.setCell ⟨fg, r, none⟩ (.slice (some ⟨g2, 0, none⟩) (M + 1) c2)) g t cs := fun g cs t ht hb => hb.far (p := ⟨fg, r, none⟩) (fun e => other_type (row_since HRY.out hs2) hb (by rcases ht with rfl | rfl <;> decide) (by rw [show g = fg from e]; rfl)) _
        have HGN : Hid (StG W (w2.setCell ⟨fg, r, none⟩ (.slice (some ⟨g2, 0, none⟩) (M + 1) c2)) (M + 1) (vs.take r ++ [.slice (some ⟨g2, 0, none⟩) (M + 1) c2]) (s.take r ++ [Tr.node ⟨6, lr, lo, hi⟩ A .nil])) := StG.snoc (((HGY.out.since hs2).take r).keep hkb) (HT2.out.keep hkb) (fun i j _ _ => by rw [← gT_star W lr lo hi A .nil i j, ← HM.out])
        have HVS : Hid (vs.set r (.slice (some ⟨g2, 0, none⟩) (M + 1) c2) = vs.take r ++ [.slice (some ⟨g2, 0, none⟩) (M + 1) c2]) := by
          unfold Hid
          rw [List.set_eq_take_append_cons_drop, if_pos (by have := HVL.out; omega), List.drop_of_length_le (by have := HVL.out; omega)]
        have HLN : Hid ((vs.take r ++ [Value.slice (some ⟨g2, 0, none⟩) (M + 1) c2]).length = r + 1) := by unfold Hid; rw [List.length_append]; have := HVL.out; rw [List.length_take]; simp; omega
        have HS5 : Hid (Since w (w2.setCell ⟨fg, r, none⟩ (.slice (some ⟨g2, 0, none⟩) (M + 1) c2))) := (hwy.trans hs2).setCell (show w.heap.size ≤ fg from (HRY.out.lt fg rfl).1) _
        clear hst hkb
        go_wp2
        go_roundw
        case rel =>
          refine ⟨k + 1, s.take r ++ [Tr.node ⟨6, lr, lo, hi⟩ A .nil], vs.take r ++ [Value.slice (some ⟨g2, 0, none⟩) (M + 1) c2], by omega, by go_num, ?_, HGN.out, ?_, HS5.out⟩
          · unfold Hid; rw [HLN.out, ← HVS.out]; exact HSTO.out
          · unfold Hid; rw [HST.out, HSN.out]
        case measure => simp [intOf]; omega
      · have hm1 : 1 ≤ m := by simp at hop; exact hop
        obtain ⟨r, rfl⟩ : ∃ r, m = r + 1 := ⟨m - 1, by omega⟩
        have hrs : s.length = r + 1 := HMS.out.symm
        have HSN := Lib.hid (push_1 HPU.out rfl hrs)
        obtain ⟨ga, ca, ea, hta⟩ := HGY.out.2 r (by omega)
        obtain ⟨fg, fcap, e1, hfg⟩ := own_block HRY.out (by omega)
        injection e1 with e1 e2 e3
        subst e1; subst e3
        clear e2
        have HTA := Lib.hid hta
        obtain ⟨A, hA⟩ : ∃ A, A = s[r]'(by omega) := ⟨_, rfl⟩
        rw [← hA] at HTA HSN
        have HKF : Hid (∀ w', Since y w' → w'.cell? ⟨fg, r, none⟩ = some (.slice (some ⟨ga, 0, none⟩) (M + 1) ca) ∧ w'.frozen? ⟨fg, r, none⟩ = false) := fun w' hs => ⟨((row_since HRY.out hs).cellAt r (by omega)).trans ea, (row_since HRY.out hs).frozenAt r⟩
        have hr0 : (0 : Int) ≤ (r : Int) := by omega
        have ew1 : IntKind.i64.wrap (r : Int) = (r : Int) := by rw [IntKind.wrap_i64]; omega
        have hr2 : (r : Int) < (r : Int) + 1 := by omega
        clear hop hta hA hm1 hrs ea
        obtain ⟨k0, k1, k2, k3⟩ := okT_repD hok rfl
        dsimp only at k0 k1 k2 k3
        obtain ⟨ln, rfl⟩ : ∃ ln : Nat, lo = (ln : Int) := ⟨lo.toNat, by omega⟩
        obtain ⟨hn, rfl⟩ : ∃ hn : Nat, hi = (hn : Int) := ⟨hi.toNat, by omega⟩
        have HKC : Hid (∀ w', Since y w' → w'.cell? ⟨wr.heap.size, 2, none⟩ = some (.int .i64 (ln : Int)) ∧ w'.cell? ⟨wr.heap.size, 3, none⟩ = some (.int .i64 (hn : Int))) := by
          intro w' hs
          obtain ⟨_, _, t2, t3, _⟩ := (BT.out.since hs).four
          exact ⟨t2, t3⟩
        go_upto_region 28 with fail
        rw [← HY.out]
        clear c0 c1 c2 c3 d0 d1 d2 d3
        refine wp_region_held_drew (S := (fun w' => w'.cell? ⟨wr.heap.size, 2, none⟩ = some (.int .i64 (ln : Int)) ∧ w'.cell? ⟨wr.heap.size, 3, none⟩ = some (.int .i64 (hn : Int)))) (by kernel_rfl) (HKC.out _ (Since.refl _).drew) (fun hHeld => ?_)
        refine take_yes 0 (some 128) (v := ?_) rfl (by kernel_rfl) (by kernel_rfl) (by kernel_rfl) (by kernel_rfl) (fun _ _ _ h => h) (by rfl) (by assumption) ?_ ?_
        rotate_left
        · (intro w' hSw; (try dsimp only at hSw); go_simp; try with_reducible rfl)
        try simp only [Act.put, List.setIfInBounds_toArray, List.set_cons_zero, List.set_cons_succ]
        refine take_yes 1 (some 129) (v := ?_) rfl (by kernel_rfl) (by kernel_rfl) (by kernel_rfl) (by kernel_rfl) (fun _ _ _ h => h) (by rfl) (by assumption) ?_ ?_
        rotate_left
        · (intro w' hSw; (try dsimp only at hSw); go_simp; try with_reducible rfl)
        try simp only [Act.put, List.setIfInBounds_toArray, List.set_cons_zero, List.set_cons_succ]
        refine take_yes 2 (some 130) (v := ?_) rfl (by kernel_rfl) (by kernel_rfl) (by kernel_rfl) (by kernel_rfl) (fun _ _ _ h => h) (by rfl) (by assumption) ?_ ?_
        rotate_left
        · (intro w' hSw; (try dsimp only at hSw); go_simp; try with_reducible rfl)
        try simp only [Act.put, List.setIfInBounds_toArray, List.set_cons_zero, List.set_cons_succ]
        refine take_yes 3 (some 131) (v := ?_) rfl (by kernel_rfl) (by kernel_rfl) (by kernel_rfl) (by kernel_rfl) (fun _ _ _ h => h) (by rfl) (by assumption) ?_ ?_
        rotate_left
        · (intro w' hSw; (try dsimp only at hSw); go_simp; try with_reducible rfl)
        try simp only [Act.put, List.setIfInBounds_toArray, List.set_cons_zero, List.set_cons_succ]
        refine take_yes 4 (some 132) (v := ?_) rfl (by kernel_rfl) (by kernel_rfl) (by kernel_rfl) (by kernel_rfl) (fun _ _ _ h => h) (by rfl) (by assumption) ?_ ?_
        rotate_left
        · (intro w' hSw; (try dsimp only at hSw); go_simp; try with_reducible rfl)
        try simp only [Act.put, List.setIfInBounds_toArray, List.set_cons_zero, List.set_cons_succ]
        refine take_yes 5 (some 133) (v := ?_) rfl (by kernel_rfl) (by kernel_rfl) (by kernel_rfl) (by kernel_rfl) (fun _ _ _ h => h) (by rfl) (by assumption) ?_ ?_
        rotate_left
        · (intro w' hSw; (try dsimp only at hSw); go_simp; try with_reducible rfl)
        try simp only [Act.put, List.setIfInBounds_toArray, List.set_cons_zero, List.set_cons_succ]
        refine take_yes 6 (some 134) (v := ?_) rfl (by kernel_rfl) (by kernel_rfl) (by kernel_rfl) (by kernel_rfl) (fun _ _ _ h => h) (by rfl) (by assumption) ?_ ?_
        rotate_left
        · (intro w' hSw; (try dsimp only at hSw); go_simp; try with_reducible rfl)
        try simp only [Act.put, List.setIfInBounds_toArray, List.set_cons_zero, List.set_cons_succ]
        refine take_yes 8 (some 136) (v := ?_) rfl (by kernel_rfl) (by kernel_rfl) (by kernel_rfl) (by kernel_rfl) (fun _ _ _ h => h) (by rfl) (by assumption) ?_ ?_
        rotate_left
        · (intro w' hSw; (try dsimp only at hSw); go_simp; try with_reducible rfl)
        try simp only [Act.put, List.setIfInBounds_toArray, List.set_cons_zero, List.set_cons_succ]
        refine take_yes 9 (some 137) (v := ?_) rfl (by kernel_rfl) (by kernel_rfl) (by kernel_rfl) (by kernel_rfl) (fun _ _ _ h => h) (by rfl) (by assumption) ?_ ?_
        rotate_left
        · (intro w' hSw; (try dsimp only at hSw); go_simp; try with_reducible rfl)
        try simp only [Act.put, List.setIfInBounds_toArray, List.set_cons_zero, List.set_cons_succ]
        refine take_yes 10 (some 138) (v := ?_) rfl (by kernel_rfl) (by kernel_rfl) (by kernel_rfl) (by kernel_rfl) (fun _ _ _ h => h) (by rfl) (by assumption) ?_ ?_
        rotate_left
        · (intro w' hSw; (try dsimp only at hSw); go_simp; try with_reducible rfl)
        try simp only [Act.put, List.setIfInBounds_toArray, List.set_cons_zero, List.set_cons_succ]
        refine take_yes 11 (some 139) (v := ?_) rfl (by kernel_rfl) (by kernel_rfl) (by kernel_rfl) (by kernel_rfl) (fun _ _ _ h => h) (by rfl) (by assumption) ?_ ?_
        rotate_left
        · (intro w' hSw; (try dsimp only at hSw); go_simp; try with_reducible rfl)
        try simp only [Act.put, List.setIfInBounds_toArray, List.set_cons_zero, List.set_cons_succ]
        refine take_run 7 rfl (by kernel_rfl) (by rfl) (fun K hK => ?_)
        obtain ⟨q0, _⟩ := HKF.out _ (Since.refl y).drew
        go_simp
        refine hK.out _ _ (HKC.out _ (Since.refl _).drew) (fun hHeldL => ?_)
        clear hK K hHeld q0
        have hHeld := hHeldL
        clear hHeldL
        try simp only [Act.put, List.setIfInBounds_toArray, List.set_cons_zero, List.set_cons_succ]
        refine take_run 12 rfl (by kernel_rfl) (by rfl) (fun K hK => ?_)
        go_simp
        refine (l9Repeated_any (M + 1) (gT W A) _ ln hn _ (by omega) (by omega) (by omega) (by omega) (HTA.out.since (Since.refl y).drew)).mono ?_
        rintro en w2 ⟨v2, rfl, ho2, hs2⟩
        have hs2 := Since.of_drew hs2
        obtain ⟨g2, c2, _, rfl, _⟩ := ho2.at 0 (by omega)
        have HT2 := Lib.hid (ho2.mono (Nat.zero_le _))
        refine hK.out _ _ (HKC.out _ hs2) (fun hHeld2 => ?_)
        clear hK K hHeld ho2
        try simp only [Act.put, List.setIfInBounds_toArray, List.set_cons_zero, List.set_cons_succ]
        refine take_yes 13 (some 141) (v := ?_) rfl (by kernel_rfl) (by kernel_rfl) (by kernel_rfl) (by kernel_rfl) (fun _ _ _ h => h) (by rfl) (by assumption) ?_ ?_
        rotate_left
        · (intro w' hSw; (try dsimp only at hSw); go_simp; try with_reducible rfl)
        try simp only [Act.put, List.setIfInBounds_toArray, List.set_cons_zero, List.set_cons_succ]
        refine take_run 14 rfl (by kernel_rfl) (by rfl) (fun K hK => ?_)
        obtain ⟨q0, q1⟩ := HKF.out _ hs2
        have hS2 : (w2.setCell ⟨fg, r, none⟩ (.slice (some ⟨g2, 0, none⟩) (M + 1) c2)).cell? ⟨wr.heap.size, 2, none⟩ = some (.int .i64 (ln : Int)) ∧ (w2.setCell ⟨fg, r, none⟩ (.slice (some ⟨g2, 0, none⟩) (M + 1) c2)).cell? ⟨wr.heap.size, 3, none⟩ = some (.int .i64 (hn : Int)) := by
          have hb := (BT.out.since hs2).far (p := ⟨fg, r, none⟩) (fun e => other_type (row_since HRY.out hs2) (BT.out.since hs2) (by decide) (by rw [show wr.heap.size = fg from e]; rfl)) (.slice (some ⟨g2, 0, none⟩) (M + 1) c2)
          obtain ⟨_, _, t2, t3, _⟩ := hb.four
          exact ⟨t2, t3⟩
        go_simp
        clear q0 q1
        have hst := ((row_since HRY.out hs2).stored r (.slice (some ⟨g2, 0, none⟩) (M + 1) c2)).1
        have HSTO := Lib.hid hst
        have hkb : ∀ g cs t, (t = 4 ∨ t = 114) → Blk w2 g t cs → Blk (w2.setCell ⟨fg, r, none⟩ (.slice (some ⟨g2, 0, none⟩) (M + 1) c2)) g t cs := fun g cs t ht hb => hb.far (p := ⟨fg, r, none⟩) (fun e => other_type (row_since HRY.out hs2) hb (by rcases ht with rfl | rfl <;> decide) (by rw [show g = fg from e]; rfl)) _
        have HGN : Hid (StG W (w2.setCell ⟨fg, r, none⟩ (.slice (some ⟨g2, 0, none⟩) (M + 1) c2)) (M + 1) (vs.take r ++ [.slice (some ⟨g2, 0, none⟩) (M + 1) c2]) (s.take r ++ [Tr.node ⟨7, lr, ln, hn⟩ A .nil])) := StG.snoc (((HGY.out.since hs2).take r).keep hkb) (HT2.out.keep hkb) (fun i j _ _ => by rw [← gT_rep W lr (ln : Int) (hn : Int) A .nil i j]; simp)
        have HVS : Hid (vs.set r (.slice (some ⟨g2, 0, none⟩) (M + 1) c2) = vs.take r ++ [.slice (some ⟨g2, 0, none⟩) (M + 1) c2]) := by
          unfold Hid
          rw [List.set_eq_take_append_cons_drop, if_pos (by have := HVL.out; omega), List.drop_of_length_le (by have := HVL.out; omega)]
        have HLN : Hid ((vs.take r ++ [Value.slice (some ⟨g2, 0, none⟩) (M + 1) c2]).length = r + 1) := by unfold Hid; rw [List.length_append]; have := HVL.out; rw [List.length_take]; simp; omega
        have HS5 : Hid (Since w (w2.setCell ⟨fg, r, none⟩ (.slice (some ⟨g2, 0, none⟩) (M + 1) c2))) := (hwy.trans hs2).setCell (show w.heap.size ≤ fg from (HRY.out.lt fg rfl).1) _
        clear hst hkb
        refine hK.out _ _ ?_ (fun hHeld3 => ?_)
        · exact hS2
        clear hK K hHeld2 hS2
        try simp only [Act.put, List.setIfInBounds_toArray, List.set_cons_zero, List.set_cons_succ]
        refine wpAnyH_done (by kernel_rfl) ?_ _
        clear hHeld3 HKC ew1
        go_wp2
        go_roundw
        case rel =>
          refine ⟨k + 1, s.take r ++ [Tr.node ⟨7, lr, ln, hn⟩ A .nil], vs.take r ++ [Value.slice (some ⟨g2, 0, none⟩) (M + 1) c2], by omega, by go_num, ?_, HGN.out, ?_, HS5.out⟩
          · unfold Hid; rw [HLN.out, ← HVS.out]; exact HSTO.out
          · unfold Hid; rw [HST.out, HSN.out]
        case measure => simp [intOf]; omega
    · obtain rfl : k = n := by omega
      have hs1 : s = [T] := by
        have h2 := HS.out
        rw [List.take_of_length_le (by have := HN.out; omega), HST1.out] at h2
        exact (Option.some.inj h2).symm
      subst hs1
      obtain rfl : m = 1 := HMS.out
      obtain ⟨ga, ca, ea, hta⟩ := HG.out.2 0 (by simp)
      obtain ⟨fg, fcap, e1, hfg⟩ := own_block HRM.out (by omega)
      injection e1 with e1 e2 e3
      subst e1; subst e3
      clear e2
      have q0 := (HRM.out.cellAt 0 (by omega)).trans ea
      obtain ⟨g1, p1, bo, e1, o0, o1, _⟩ := hta.at 0 (by omega)
      injection e1 with e1 _ _
      injection e1 with e1; injection e1 with e1
      subst e1
      obtain ⟨oc, _⟩ := o1 M (by omega)
      have HV : Hid (matX xs W = gT W T 0 M) := by unfold Hid; rw [HMX.out, HM.out]
      have hMM : (M : Int) < ((M + 1 : Nat) : Int) := by omega
      have hM0 : (0 : Int) ≤ (M : Int) := by omega
      obtain ⟨z, hz⟩ : ∃ z, z = gT W T 0 M := ⟨_, rfl⟩
      rw [show ([T] : List Tr)[0] = T from rfl, ← hz] at oc
      have HZ := Lib.hid hz
      clear o1 hta ea hz
      go_wp2
      go_ret
      exact ⟨ret_bool (by rw [HV.out, HZ.out]), hw0⟩
set_option maxHeartbeats 2000000 in
set_option maxRecDepth 100000 in
theorem specMW_any (v u : Value) (xs : List Tok) (W : List Int) (w : World) (h : ExC w v xs) (hl : xs.length ≤ 1048577) (hu : IntsAt w u W) (hl2 : W.length ≤ 1048577) :
    Calls Tryd.prog 28 #[v, u] w fun e w' => e = .returned (.bool (mtX xs W)) ∧ Since w w' := by
  obtain ⟨a, rfl, ha⟩ := h.1
  have HA := Lib.hid ha
  obtain ⟨ao, ac, rfl⟩ := ha.len
  have HU := Lib.hid hu
  obtain ⟨uo, uc, rfl, _⟩ := hu.row
  obtain ⟨m, hm⟩ : ∃ m, m = W.length := ⟨_, rfl⟩
  rw [← hm] at HU ⊢
  obtain ⟨n, hn⟩ : ∃ n, n = xs.length := ⟨_, rfl⟩
  rw [← hn] at HA ⊢
  clear hm hn ha hu h
  obtain ⟨y, hy⟩ : ∃ y, y = w.alloc (.cells #[.slice ao n ac] 26) := ⟨_, rfl⟩
  have hsy : Since w y := by rw [hy]; exact (Since.refl w).alloc _
  have BE : Hid (Blk y w.heap.size 26 #[.slice ao n ac]) := by rw [hy]; exact Blk.new rfl _ _
  have HY := Lib.hid hy
  clear hy
  go_enter Tryd.func28, Tryd.ntmps28
  go_wp2_with fail
  rw [← HY.out]
  refine (specVX_any _ xs _ ⟨_, rfl, HA.out.since hsy⟩ hl).mono ?_
  rintro e w1 ⟨rfl, hs1⟩
  have hyw := hsy.trans hs1
  cases hv : validXB xs with
  | false =>
    have HV : Hid (mtX xs W = false) := by unfold Hid mtX; rw [hv]; rfl
    clear hv
    go_wp2
    go_ret
    exact ⟨ret_bool HV.out.symm, hyw⟩
  | true =>
    obtain ⟨hx1, hx2⟩ := valid_is hv
    have HVT : Hid (mtX xs W = (isWordB W && matX xs W)) := by unfold Hid mtX; rw [hv]; rfl
    have HX1 := Lib.hid hx1
    clear hv hx1
    go_wp2_with fail
    refine (specIW_any _ W _ (HU.out.since hyw) hl2).mono ?_
    rintro e w2 ⟨rfl, rfl⟩
    cases hw : isWordB W with
    | false =>
      have HV : Hid (mtX xs W = false) := by unfold Hid; rw [HVT.out, hw]; rfl
      clear hw
      go_wp2
      go_ret
      exact ⟨ret_bool HV.out.symm, hyw⟩
    | true =>
      have hW8 := isWordB_len hw
      have HV : Hid (mtX xs W = matX xs W) := by unfold Hid; rw [HVT.out, hw]; rfl
      obtain ⟨p0, p1⟩ := (BE.out.since hs1).one
      clear hw
      go_wp2_with fail
      clear p0 p1
      refine (l9Match_any _ _ xs W _ HX1.out (HA.out.since hyw) hx2 (HU.out.since hyw) hW8).mono ?_
      rintro e w4 ⟨rfl, hs4⟩
      obtain ⟨z, hz⟩ : ∃ z, z = matX xs W := ⟨_, rfl⟩
      rw [← hz]
      have HZ := Lib.hid hz
      clear hz
      go_wp2
      go_ret
      exact ⟨ret_bool (by rw [HV.out, HZ.out]), hyw.trans hs4⟩
end Go.Proofs.YtiojgahjfndmdaaDoor
