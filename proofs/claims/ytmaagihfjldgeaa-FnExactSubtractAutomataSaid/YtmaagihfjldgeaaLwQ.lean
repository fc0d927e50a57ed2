/- The words of the pairs found: rows of pairs, a map from pairs to words; the difference machine itself. -/
import Derived.Test.YtmaagihfjldgeaaLwN
import Derived.Test.YtmaagihfjldgeaaSgA
import Derived.Test.YtmaagihfjldgeaaK1
import Derived.Test.YtmaagihfjldgeaaLwR
import Derived.Test.YtmaagihfjldgeaaClR
import Derived.Test.YtmaagihfjldgeaaA1
import Derived.Laws.EntriesVeiled
namespace Go.Proofs.Ytmaagihfjldgeaa
set_option maxRecDepth 100000
open Go.ChangeShapes Go.WideShapes Go.ChangeAt Go.RowKit Go.Maps
set_option linter.unusedVariables false
set_option linter.unusedSimpArgs false

theorem arrP : ArrT 100 2 := ⟨Try.underlying100, by kernel_rfl, by kernel_rfl, keyed_arr (by decide +kernel) (by kernel_rfl) Try.underlying100, by kernel_rfl, by kernel_rfl⟩
def pcs (x : List Int) : List Value := [.int .i64 (x[0]?.getD 0), .int .i64 (x[1]?.getD 0)]
theorem pcs_len (x : List Int) : (pcs x).length = 2 := rfl
theorem pcs_one (xs : List (List Int)) : ∀ u ∈ xs.flatMap pcs, u.oneCell' = true := by
  intro u hu
  simp [pcs] at hu
  obtain ⟨e, _, h⟩ := hu
  rcases h with h | h <;> subst h <;> rfl
/-- v is a slice of pairs of the call's own. -/
def OwnFp (base : Nat) (w : World) (v : Value) (xs : List (List Int)) : Prop := w.ownsRow base 100 2 v xs.length (xs.flatMap pcs)
theorem OwnFp.since {base : Nat} {w w' : World} {v : Value} {xs : List (List Int)} (h : OwnFp base w v xs) (k : Since w w') : OwnFp base w' v xs := row_since h k
theorem OwnFp.len {base : Nat} {w : World} {v : Value} {xs : List (List Int)} (h : OwnFp base w v xs) (hn : 0 < xs.length) : ∃ g cap, v = .slice (some ⟨g, 0, none⟩) xs.length cap ∧ base ≤ g ∧ g < w.heap.size := by
  obtain ⟨g, cap, e1, hg⟩ := own_block h hn
  exact ⟨g, cap, e1, hg, (h.lt g (by rw [e1]; rfl)).2⟩
theorem ownFp_cells {w : World} {base g n cap : Nat} {xs : List (List Int)} (h : OwnFp base w (.slice (some ⟨g, 0, none⟩) n cap) xs) (hn : n = xs.length) (i : Nat) (a b : Int) (hi : xs[i]? = some [a, b]) :
    w.cell? ⟨g, i * 2, none⟩ = some (.int .i64 a) ∧ w.cell? ⟨g, i * 2 + 1, none⟩ = some (.int .i64 b) := by
  subst hn
  obtain ⟨hi2, e⟩ := List.getElem?_eq_some_iff.1 hi
  have h0 := fcells_at pcs_len xs i 0 hi2 (by omega)
  have h1 := fcells_at pcs_len xs i 1 hi2 (by omega)
  rw [Nat.add_zero] at h0
  rw [e] at h0 h1
  exact ⟨(h.cellAt _ (by omega)).trans h0, (h.cellAt _ (by omega)).trans h1⟩
theorem info_fp : (Try.prog.info? 100).map (fun i => (i.zero, i.size, i.bytes)) = some (some (.agg #[.int .i64 0, .int .i64 0]), 2, 16) := by kernel_rfl
theorem wpList_append_fp {base : Nat} {wr : World} {ops : Array Oper} {rest : List Oper} {o : Oper} {a : Act} {Q : Exit → Act → World → Prop} (hgd : o.guard = none) (s x : Operand)
    (ho : o.op = .call { callee := .builtin .append, args := #[s, x], argTypes := #[147, 147] }) (v : Value) (xs : List (List Int)) (hs : a.eval s = v) (hown : OwnFp base wr v xs)
    (p q : Int) (hx : a.eval x = .slice (some ⟨wr.heap.size, 0, none⟩) 1 1) (hlen : xs.length ≤ 2000000) (hb : base ≤ wr.heap.size)
    (h : ∀ v' w', OwnFp base w' v' (xs ++ [[p, q]]) → wr.grownBy w' v.ownBlock → wpList Try.prog ops Q rest (a.put o.dst v') w') : wpList Try.prog ops Q (o :: rest) a (wr.alloc (.cells #[.int .i64 p, .int .i64 q] 100)) := by
  obtain ⟨i0, hi, hz0, hz1, hz2⟩ := info_parts info_fp
  have hown' : OwnFp base (wr.alloc (.cells #[.int .i64 p, .int .i64 q] 100)) v xs := hown.since ((Since.refl wr).alloc _)
  have hB : Blk (wr.alloc (.cells #[.int .i64 p, .int .i64 q] 100)) wr.heap.size 100 #[.int .i64 p, .int .i64 q] := Blk.new rfl _ _
  refine wpList_append_own _ hgd s x 147 ho base 100 i0 (.agg #[.int .i64 0, .int .i64 0]) 2 16 Try.underlying147 hi hz0 hz1 hz2 rfl (by decide) v xs.length (xs.flatMap pcs) hs hown' ⟨wr.heap.size, 0, none⟩ 1 1 ([[p, q]].flatMap pcs) hx rfl ?_ (pcs_one _) (by unfold maxLen; omega) (by omega) (by simp; omega) ?_
  · intro j u hj
    rw [add_plain, Nat.zero_add, hB.cell, ← hj, ← Array.getElem?_toList]; rfl
  · intro v' w' h1 h2 _
    refine h v' w' ?_ ?_
    · show w'.ownsRow _ _ _ _ (xs ++ [[p, q]]).length ((xs ++ [[p, q]]).flatMap pcs)
      rw [List.length_append, List.flatMap_append]
      exact h1
    · refine ⟨h2.os, h2.tape, h2.output, Nat.le_trans (by simp) h2.size, fun i hi2 hn2 => ?_⟩
      exact (h2.block i (by simp; omega) hn2).trans (Below.heap_alloc wr _ i hi2)
abbrev DV := DataW Value
/-- How a word lies in the map: as the value that it is. -/
def HV (v : Value) : Option (DV × List MemPlace) := some (.held v, [])
/-- D holds the states of ks, each with its value. -/
structure WdM (D : DV) (ks : List (List Int)) (vs : List Value) : Prop where
  ok : ∀ x ∈ ks, OkS 2 x
  tidy : Maps.Tidy D
  has : ∀ x, OkS 2 x → Maps.has D (kyG 100 x) = decide (x ∈ ks)
  len : vs.length = ks.length
  at' : ∀ i (h : i < ks.length) (h2 : i < vs.length) z, D.atKey (kyG 100 ks[i]) z = .held vs[i]
theorem WdM.nil : WdM (.map [] : DV) [] [] := ⟨fun x hx => by simp at hx, Maps.tidy_empty, fun x _ => rfl, rfl, fun i h => by simp at h⟩
theorem WdM.snoc {D : DV} {ks : List (List Int)} {vs : List Value} (h : WdM D ks vs) {x : List Int} (hok : OkS 2 x) (hx : x ∉ ks) (v : Value) : WdM (D.put (kyG 100 x) (.held v)) (ks ++ [x]) (vs ++ [v]) := by
  have hne : ∀ {y : List Int}, OkS 2 y → y ≠ x → kyG 100 y ≠ kyG 100 x := fun hy e k => e (arrP.inj hy hok k)
  have hl := h.len
  refine ⟨fun y hy => ?_, h.tidy.put (arrP.isKey hok) _, fun y hy => ?_, by simp [hl], fun i hi h2 z => ?_⟩
  · rcases List.mem_append.1 hy with hy | hy
    · exact h.ok y hy
    · simp at hy; subst hy; exact hok
  · by_cases e : y = x
    · subst e; rw [Maps.has_put_same h.tidy.isMap (arrP.isKey hok)]; simp
    · rw [Maps.has_put_other (hne hy e), h.has y hy]; simp [e]
  · by_cases e : i < ks.length
    · rw [List.getElem_append_left e, List.getElem_append_left (by omega)]
      have hne2 : ks[i] ≠ x := fun k => hx (by rw [← k]; exact List.getElem_mem e)
      rw [Maps.atKey_put_other (hne (h.ok _ (List.getElem_mem e)) hne2), h.at' i e (by omega) z]
    · have e2 : i = ks.length := by simp at hi; omega
      subst e2
      have h3 : (ks ++ [x])[ks.length] = x := by rw [List.getElem_append_right (Nat.le_refl _)]; simp
      have h4 : (vs ++ [v])[ks.length]'h2 = v := by rw [List.getElem_append_right (by omega)]; simp [hl]
      rw [h3, h4, Maps.atKey_put_same h.tidy.isMap (arrP.isKey hok)]
structure WdA (base : Nat) (wr : World) (L : List (List Int × List Int)) (D : DV) (vs : List Value) : Prop where
  wd : WdM D (L.map (·.1)) vs
  own : ∀ i (h1 : i < vs.length) (h2 : i < L.length), Own base wr vs[i] L[i].2
theorem WdA.since {base : Nat} {wr w2 : World} {L : List (List Int × List Int)} {D : DV} {vs : List Value} (h : WdA base wr L D vs) (k : Since wr w2) : WdA base w2 L D vs := ⟨h.wd, fun i h1 h2 => (h.own i h1 h2).since k⟩
/-- Of a search: the row of the pairs found, the map of their words, the machine's box. -/
structure LwW (w : World) (cs : Array Value) (wr : World) (v : Value) (L : List (List Int × List Int)) : Prop where
  own : OwnFp (w.heap.size + 2) wr v (L.map (·.1))
  map : ∃ n D vs, wr.ownsMap Try.prog 100 HV (w.heap.size + 1) n D ∧ WdA (w.heap.size + 2) wr L D vs ∧ n ≤ L.length
  box : Blk wr w.heap.size 104 cs
  since : Since w wr
theorem keptMapV {w w' : World} {k : TypeId} {b n : Nat} {D : DV} (h : w.ownsMap Try.prog k HV b n D) (s : Since w w') : w'.ownsMap Try.prog k HV b n D :=
  h.kept (row := none) ⟨s.os, s.tape, s.output, s.size, fun i hi _ => s.block i hi⟩ (by simp)
theorem LwW.since' {w wr w2 : World} {cs : Array Value} {v : Value} {L : List (List Int × List Int)} (h : LwW w cs wr v L) (k : Since wr w2) : LwW w cs w2 v L := by
  obtain ⟨n, D, vs, h1, h2, h3⟩ := h.map
  exact ⟨h.own.since k, ⟨n, D, vs, keptMapV h1 k, h2.since k, h3⟩, h.box.since k, h.since.trans k⟩
theorem LwW.snoc {w wF w5 w6 w7 : World} {cs : Array Value} {v v5 v7 : Value} {L : List (List Int × List Int)} {n : Nat} {D : DV} {vs : List Value} {x ws : List Int} (h : LwW w cs wF v L)
    (hmF : wF.ownsMap Try.prog 100 HV (w.heap.size + 1) n D) (HD : WdA (w.heap.size + 2) wF L D vs) (hn : n ≤ L.length) (hok : OkS 2 x) (hx : x ∉ L.map (·.1)) (hc5 : Since wF w5) (ho5 : Own wF.heap.size w5 v5 ws)
    (hm6 : w6.ownsMap Try.prog 100 HV (w.heap.size + 1) (n + 1) (D.put (kyG 100 x) (.held v5))) (hg6 : w5.grownBy w6 (some (w.heap.size + 1)))
    (ho7 : OwnFp (w.heap.size + 2) w7 v7 (L.map (·.1) ++ [x])) (hg7 : w6.grownBy w7 v.ownBlock) : LwW w cs w7 v7 (L ++ [(x, ws)]) := by
  have hlt := hmF.lt
  have hrow5 := h.own.since hc5
  have hvb : ∀ j, v.ownBlock = some j → w.heap.size + 2 ≤ j := fun j hj => (h.own.lt j hj).1
  have hval : ∀ (u : Value) (ys : List Int), Own (w.heap.size + 2) w5 u ys → Own (w.heap.size + 2) w7 u ys := by
    intro u ys hu
    have hap : Apart u v := Apart.symm (apart_types hrow5 hu.2 (by decide))
    have h6 : Own (w.heap.size + 2) w6 u ys := ⟨hu.1, hu.2.kept hg6 (.inr (fun e => by have := (hu.2.lt _ e).1; omega))⟩
    exact ⟨h6.1, h6.2.kept hg7 hap⟩
  have hl := HD.wd.len
  refine ⟨by rw [List.map_append]; exact ho7, ⟨n + 1, _, vs ++ [v5], hm6.kept hg7 (fun e => by have := hvb _ e.symm; omega), ⟨?_, fun i h1 h2 => ?_⟩, by simp; omega⟩, ?_, ?_⟩
  · rw [List.map_append]; exact HD.wd.snoc hok hx v5
  · have hl2 : vs.length = L.length := by simpa using hl
    by_cases e : i < L.length
    · rw [List.getElem_append_left (by omega), List.getElem_append_left e]
      exact hval _ _ ((HD.own i (by omega) e).since hc5)
    · have e2 : i = L.length := by simp at h2; omega
      subst e2
      have h3 : (vs ++ [v5])[L.length]'h1 = v5 := by rw [List.getElem_append_right (by omega)]; simp [hl2]
      have h4 : (L ++ [(x, ws)])[L.length] = (x, ws) := by rw [List.getElem_append_right (Nat.le_refl _)]; simp
      rw [h3, h4]
      exact hval _ _ (ho5.mono (by omega))
  · have b5 := h.box.since hc5
    have b6 : Blk w6 w.heap.size 104 cs := (hg6.block _ b5.lt (by intro e; injection e with e; omega)).trans b5
    exact (hg7.block _ b6.lt (by intro e; have := hvb _ e.symm; omega)).trans b6
  · exact ((h.since.trans hc5).grown hg6 (fun j hj => by injection hj with hj; omega)).grown hg7 (fun j hj => by have := hvb j hj; omega)
theorem LwW.keepOwn {w wF w5 w6 w7 : World} {cs : Array Value} {v u : Value} {L : List (List Int × List Int)} {ys : List Int} (h : LwW w cs wF v L) (hc5 : Since wF w5) (hg6 : w5.grownBy w6 (some (w.heap.size + 1))) (hg7 : w6.grownBy w7 v.ownBlock) (hu0 : Own (w.heap.size + 2) wF u ys) : Own (w.heap.size + 2) w7 u ys := by
  have hu := hu0.since hc5
  have hap : Apart u v := Apart.symm (apart_types (h.own.since hc5) hu.2 (by decide))
  have h6 : Own (w.heap.size + 2) w6 u ys := ⟨hu.1, hu.2.kept hg6 (.inr (fun e => by have := (hu.2.lt _ e).1; omega))⟩
  exact ⟨h6.1, h6.2.kept hg7 hap⟩
theorem wp_mapUpdate_own {H : Type} {P : Program} {w : World} {o : Oper} {a : Act} {K : Act → World → Prop} {Q : Exit → Act → World → Prop}
    (m x v : Operand) (t : TypeId) (hop : o.op = Op.mapUpdate t m x v)
    (k e : TypeId) (KY : Keyed P k) (ht : P.underlying t = some (.map k e)) (R : Value → Option (DataW H × List MemPlace)) (b n : Nat) (D : DataW H)
    (hm : a.eval m = .map (some b)) (hown : w.ownsMap P k R b n D) (hn : n < maxLen) (key val : Value) (kl : Lit) (hx : a.eval x = key) (hv : a.eval v = val) (hkey : keyOf P k key = some kl)
    (d : DataW H) (ps : List MemPlace) (hval : R val = some (d, ps))
    (hK : ∀ w', w'.ownsMap P k R b (n + 1) (D.put kl d) → w.grownBy w' (some b) → K (a.put o.dst undef) w') : o.wp P a w K Q := by
  obtain ⟨w', hrun, r1, r2⟩ := hown.update KY ht hn hkey hval
  unfold Oper.wp
  simp [execOp, hop, hm, hx, hv, hrun, Result.andThen]
  exact hK w' r1 r2
theorem zeroIs (w : World) : (zeroValue 24).run Try.prog w = .ok (.slice none 0 0) w := by kernel_rfl
end Go.Proofs.Ytmaagihfjldgeaa
