/- slices.Insert of one edge into a slice that is full. -/
import Derived.Test.YtpmkpeclfhmhlaaK3
import Derived.Test.YtpmkpeclfhmhlaaK1
import Derived.Test.YtpmkpeclfhmhlaaCopyLaw
namespace Go.Proofs.Ytpmkpeclfhmhlaa
set_option maxRecDepth 100000
open Go.ChangeShapes Go.WideShapes Go.ChangeAt Go.RowKit
set_option linter.unusedVariables false
set_option linter.unusedSimpArgs false

def InsOut (w : World) (base : Nat) (ys : List Edg) (e : Ending) (w' : World) : Prop := ∃ v, e = .returned v ∧ OwnE base w' v ys ∧ Since w w'
set_option maxHeartbeats 1000000 in
set_option maxRecDepth 100000 in
/-- At the end: an append. -/
theorem slicesInsertEnd_any (xs : List Edg) (base n : Nat) (o : Option Addr) (c : Nat) (e : Edg) (b2 : Nat) (w : World) (hn : n = xs.length) (h : OwnE base w (.slice o n c) xs) (hb : base ≤ w.heap.size) (he : EdgesAt w (.slice (some ⟨b2, 0, none⟩) 1 1) [e]) (hl : n ≤ 1048577)
    (hnc : n ≤ c) :
    Calls Try.prog 62 #[.slice o n c, .int .i64 n, .slice (some ⟨b2, 0, none⟩) 1 1] w
      fun en w' => ∃ v, en = .returned v ∧ OwnE base w' v (xs ++ [e]) ∧ w.grownBy w' (Value.slice o n c).ownBlock ∧ (v.ownBlock = (Value.slice o n c).ownBlock ∨ v.ownBlock = some w.heap.size) := by
  have H := Lib.hid h
  have HE := Lib.hid he
  have HN := Lib.hid hn
  have HB := Lib.hid hb
  have hneq : ((n : Int) == (n : Int)) = true := by simp
  have ik0 : (0 : Int) ≤ (n : Int) := by omega
  obtain ⟨A, hA⟩ : ∃ A, (if c = n then o else Option.map (fun x => x.add (n * 4)) o) = A := ⟨_, rfl⟩
  clear h he hn hb
  go_enter Try.func62, Try.ntmps62
  go_wp2_with (at_builtin; go_must (refine wpList_append_edges rfl (.tmp 23) (.tmp 24) rfl base (.slice o n c) xs rfl H.out (some ⟨b2, 0, none⟩) 1 1 rfl [e] HE.out (by have := HN.out; simp; omega) HB.out ?_); intro v3 w3 ho3 hg3 hb3)
  go_ret
  exact ⟨_, rfl, ho3, hg3, hb3⟩
set_option maxRecDepth 100000 in
/-- append of m zero values, where there is no room. -/
theorem run_append_zeros (w : World) (t tn e : TypeId) (i : TypeInfo) (z : Value) (kn : IntKind) (ht : Try.prog.underlying t = some (.slice e)) (htn : Try.prog.underlying tn = some (.int kn)) (hi : Try.prog.info? e = some i) (hz : i.zero = some z) (hzc : z.cells.size = i.size)
    (b : Addr) (sLen sCap : Nat) (olds : List Value) (hlo : olds.length = sLen * i.size) (holds : ∀ j v, olds[j]? = some v → w.cell? (b.add j) = some v)
    (n : Nat) (h0 : 0 < n * i.size) (hg : sCap < sLen + n) (hn9 : sLen + n ≤ 1048578) (hb : i.bytes ≤ 64) :
    ∃ C, sLen + n ≤ C ∧ C ≤ maxLen ∧ ∀ ty, (Builtin.append_ #[t, tn] ty #[.slice (some b) sLen sCap, .int kn n]).run Try.prog w =
      .ok (.slice (some ⟨w.heap.size, 0, none⟩) (sLen + n) C)
        (w.drew.alloc (.cells (olds.toArray ++ Builtin.zeroCells z.cells n ++ Builtin.zeroCells z.cells (C - (sLen + n))) e)) := by
  refine ⟨grownCap w (sLen + n) sCap e, grownCap_ge w _ _ e, grownCap_le_maxLen w _ _ e (by unfold maxLen; omega), fun ty => ?_⟩
  have hn : ¬ (sLen + n ≤ sCap) := by omega
  have hbn : n * i.bytes ≤ 1048578 * 64 := Nat.mul_le_mul (by omega) hb
  have hfit : Builtin.nextslicecap (sLen + n) sCap * i.bytes ≤ 281474976710656 := growslice_fits (by omega) (by have : (sLen + n) * i.bytes ≤ 1048578 * 64 := Nat.mul_le_mul (by omega) hb; omega)
  have h63' : ¬ (9223372036854775807 < ((sLen : Int) + (n : Int))) := by omega
  have h48' : ¬ (281474976710656 < Builtin.nextslicecap (sLen + n) sCap * i.bytes) := by omega
  have hw : IntKind.i64.wrap (n : Int) = (n : Int) := by rw [IntKind.wrap_i64]; omega
  have hl0 : ¬ ((n : Int) < 0) := by omega
  have hlb : ¬ (281474976710656 < (n : Int) * (i.bytes : Int)) := by
    rw [← Int.natCast_mul]
    obtain ⟨q, hq⟩ : ∃ q, q = n * i.bytes := ⟨_, rfl⟩
    rw [← hq] at hbn ⊢
    omega
  have hne : n * i.size ≠ 0 := by omega
  have hai : ∀ w, (asInt (.int kn (n : Int))).run Try.prog w = .ok (n : Int) w := fun w => by simp [asInt, asIntOf]
  have hfo := run_firstCells_some (P := Try.prog) w.drew i.size sLen b sLen sCap olds hlo (by simpa using holds)
  simp [Builtin.append_, run_underlying ht, run_underlying htn, sizeOf, typeInfo, zeroValue, hi, hz, hai, hw, hl0, hlb, hn, h63', h48', Question.forced, hfo, newRow, grownCap, hne]
theorem run_copy_at (w : World) (ty : TypeId) (G o a c : Nat) (ad : Addr) (b c2 q : Nat) (cs : List Value) (hq : Nat.min b a = q) (hl : cs.length = q * 4) (hc : ∀ j u, cs[j]? = some u → w.cell? (ad.add j) = some u) (h1 : ∀ u ∈ cs, u.oneCell' = true)
    (hd : ∀ j, j < cs.length → (w.cell? ⟨G, o + j, none⟩).isSome = true) (hf : ∀ j, j < cs.length → w.frozen? ⟨G, o + j, none⟩ = false) :
    (Builtin.copy_ #[28, 28] ty #[.slice (some ⟨G, o, none⟩) a c, .slice (some ad) b c2]).run Try.prog w = .ok (goInt q) (w.setCells G o cs) := by
  obtain ⟨i, hi, hz0, hz1, hz2⟩ := info_parts info_edge
  have hld := run_loadCells_list (P := Try.prog) w ad cs hc
  rw [hl] at hld
  have hst := run_storeCells_cells (P := Try.prog) G o cs 0 w (by simpa using hd) (by simpa using hf) h1
  simp only [Nat.add_zero] at hst
  subst hq
  have hld' := hld
  simp [Builtin.copy_, run_underlying Try.underlying28, sizeOf, typeInfo, hi, hz1, Builtin.lenOf, Builtin.firstCells, hld, hst]
theorem wpList_of_run_append2 {w : World} {ops : Array Oper} {rest : List Oper} {o : Oper} {a : Act} {Q : Exit → Act → World → Prop} (hgd : o.guard = none) (s x : Operand) (t tn : TypeId)
    (ho : o.op = .call { callee := .builtin .append, args := #[s, x], argTypes := #[t, tn] }) (v y v' : Value) (w' : World) (hs : a.eval s = v) (hx : a.eval x = y)
    (hr : (Builtin.append_ #[t, tn] o.type #[v, y]).run Try.prog w = .ok v' w') (h : wpList Try.prog ops Q rest (a.put o.dst v') w') : wpList Try.prog ops Q (o :: rest) a w := by
  refine wpList_plain hgd fun K hK => ?_
  unfold Oper.wp execOp
  simp only [ho, resolve, invoke, builtin, Sem.run_bind, Sem.run_pure, Result.andThen_ok, List.map_toArray, List.map_cons, List.map_nil, hs, hx, hr]
  exact hK _ _ h
theorem step_of_run_copy {ops : Array Oper} {o : Oper} {a : Act} {w : World} {K : Act → World → Prop} {Q : Exit → Act → World → Prop} {E : Prop} (hgd : o.guard = none) (d s : Operand)
    (ho : o.op = .call { callee := .builtin .copy, args := #[d, s], argTypes := #[28, 28] }) (x y : Value) (n : Nat) (w' : World) (hd : a.eval d = x) (hs : a.eval s = y)
    (hr : (Builtin.copy_ #[28, 28] o.type #[x, y]).run Try.prog w = .ok (goInt n) w') (hK : K (a.put o.dst (goInt n)) w') : if Region.wanted o (yielded ops a.tmps) = true then Oper.wp Try.prog o a w K Q else E := by
  have hw : Region.wanted o (yielded ops a.tmps) = true := by simp [Region.wanted, hgd]
  rw [if_pos hw]
  unfold Oper.wp
  simp [execOp, ho, resolve, invoke, builtin, hd, hs, hr, Result.andThen]
  exact hK

set_option maxHeartbeats 2000000 in
set_option maxRecDepth 1000000 in
/-- In the middle of a full slice: new memory. -/
theorem slicesInsertMid_any (xs : List Edg) (base n k g b2 : Nat) (e : Edg) (w : World) (hn : n = xs.length) (h : OwnE base w (.slice (some ⟨g, 0, none⟩) n n) xs) (hb : base ≤ w.heap.size) (he : EdgesAt w (.slice (some ⟨b2, 0, none⟩) 1 1) [e]) (hb2 : b2 < w.heap.size) (hk : k < n) (hl : n ≤ 1048577) :
    Calls Try.prog 62 #[.slice (some ⟨g, 0, none⟩) n n, .int .i64 k, .slice (some ⟨b2, 0, none⟩) 1 1] w (InsOut w w.heap.size (xs.take k ++ e :: xs.drop k)) := by
  obtain ⟨hin, hlen, hrow⟩ := h
  rcases hrow with ⟨h0, _⟩ | ⟨g', cap', cur, e0, hbg, hg, hnc, hcm, hcs, hct⟩
  · cases h0
  injection e0 with e1 e3 e2
  clear e3
  injection e1 with e1; injection e1 with e1
  subst e1; subst e2
  rw [← hn] at hct
  have hblk : Blk w g 38 cur := hg
  have hgl : g < w.heap.size := hblk.lt
  obtain ⟨i0, hi0, hz0, hz1, hz2⟩ := info_parts info_edge
  obtain ⟨r, hr⟩ : ∃ r, n - k = r := ⟨_, rfl⟩
  obtain ⟨p, hp⟩ : ∃ p, p = n + 1 := ⟨_, rfl⟩
  have hel := ecells_length xs
  have hcell : ∀ j, j < n * 4 → cur[j]? = (ecells xs)[j]? := by
    intro j hj
    rw [← hct, List.getElem?_take, if_pos hj, Array.getElem?_toList]
  have hei : e.In := he.1 e (by simp)
  -- the append
  obtain ⟨olds, holds⟩ : ∃ olds, olds = (ecells xs).take (k * 4) := ⟨_, rfl⟩
  have hol : olds.length = k * 4 := by rw [holds, List.length_take]; omega
  have hoc : ∀ j v, olds[j]? = some v → w.cell? ((⟨g, 0, none⟩ : Addr).add j) = some v := by
    intro j v hv
    have hj : j < olds.length := (List.getElem?_eq_some_iff.1 hv).1
    rw [add_plain, Nat.zero_add, hblk.cell, hcell _ (by omega)]
    rw [holds, List.getElem?_take, if_pos (by omega)] at hv
    exact hv
  obtain ⟨C, hC1, hC2, hR1⟩ := run_append_zeros w 28 3 38 i0 (ev zeroE) .i64 Try.underlying28 Try.underlying3 hi0 hz0 (by rw [hz1]; rfl) ⟨g, 0, none⟩ k n olds (by rw [hz1]; exact hol) hoc (r + 1) (by rw [hz1]; omega) (by omega) (by omega) (by rw [hz2]; omega)
  rw [show k + (r + 1) = p from by omega] at hC1 hR1
  obtain ⟨cur1, hcur1⟩ : ∃ cur1, cur1 = olds.toArray ++ Builtin.zeroCells (ev zeroE).cells (r + 1) ++ Builtin.zeroCells (ev zeroE).cells (C - p) := ⟨_, rfl⟩
  have hzs : (ev zeroE).cells.size = 4 := rfl
  have hc1s : cur1.size = C * 4 := by rw [hcur1]; simp only [Array.size_append, List.size_toArray, size_zeroCells, hzs, hol]; omega
  have hc1a : ∀ j, j < k * 4 → cur1[j]? = (ecells xs)[j]? := by
    intro j hj
    rw [hcur1, Array.getElem?_append_left (by simp; omega), Array.getElem?_append_left (by simp; omega), List.getElem?_toArray, holds, List.getElem?_take, if_pos hj]
  rw [← hcur1] at hR1
  obtain ⟨W1, hW1⟩ : ∃ W1, W1 = w.drew.alloc (.cells cur1 38) := ⟨_, rfl⟩
  have hs1 : Since w W1 := by rw [hW1]; exact (Since.refl w).drew.alloc _
  have hB1 : Blk W1 w.heap.size 38 cur1 := by rw [hW1]; exact Blk.new (by simp) _ _
  have hg1 := hblk.since hs1
  rw [← hW1] at hR1
  -- the first copy
  have hsr := (edges_src (he.since hs1)).1
  rw [ecells_one] at hsr
  obtain ⟨ad, hade, hec⟩ := hsr (by simp [Edg.cs])
  injection hade with hade
  subst hade
  have hcs1 : ∀ u ∈ e.cs, u.oneCell' = true := fun u hu => ecells_oneCell [e] u (by rw [ecells_one]; exact hu)
  have hR2 := fun ty => run_copy_at W1 ty w.heap.size (k * 4) (r + 1) (C - k) ⟨b2, 0, none⟩ 1 1 1 e.cs (by simp [Nat.min_def]) rfl hec hcs1
    (fun j hj => by rw [hB1.cell, Array.getElem?_eq_getElem (by simp [Edg.cs] at hj; omega)]; rfl) (fun j _ => hB1.frozen _)
  obtain ⟨cur2, hB2, hd1, hd2, hd3⟩ := Blk.sets e.cs (k * 4) W1 cur1 hB1
  have hgr2 := grown_sets w.heap.size e.cs (k * 4) W1
  obtain ⟨W2, hW2⟩ : ∃ W2, W2 = W1.setCells w.heap.size (k * 4) e.cs := ⟨_, rfl⟩
  rw [← hW2] at hR2 hB2 hgr2
  have hg2 : Blk W2 g 38 cur := (hgr2.block g hg1.lt (by intro h; injection h with h; omega)).trans hg1
  -- the second
  obtain ⟨ds, hds⟩ : ∃ ds, ds = ecells (xs.drop k) := ⟨_, rfl⟩
  have hdl : ds.length = r * 4 := by rw [hds, ecells_length, List.length_drop]; omega
  have hdc : ∀ j u, ds[j]? = some u → W2.drew.cell? ((⟨g, k * 4, none⟩ : Addr).add j) = some u := by
    intro j u hu
    have hj : j < ds.length := (List.getElem?_eq_some_iff.1 hu).1
    rw [add_plain]
    show W2.cell? ⟨g, k * 4 + j, none⟩ = some u
    rw [hg2.cell, hcell _ (by omega)]
    rw [hds, ← ecells_drop, List.getElem?_drop] at hu
    exact hu
  have hR3 := fun ty => run_copy_at W2.drew ty w.heap.size ((k + 1) * 4) r (C - (k + 1)) ⟨g, k * 4, none⟩ r r r ds (by simp [Nat.min_def]) hdl hdc (fun u hu => by rw [hds] at hu; exact ecells_oneCell _ u hu)
    (fun j hj => by rw [(hB2.drew).cell, Array.getElem?_eq_getElem (by omega)]; rfl) (fun j _ => (hB2.drew).frozen _)
  obtain ⟨cur3, hB3, he1, he2, he3⟩ := Blk.sets ds ((k + 1) * 4) W2.drew cur2 hB2.drew
  have hgr3 := grown_sets w.heap.size ds ((k + 1) * 4) W2.drew
  obtain ⟨W3, hW3⟩ : ∃ W3, W3 = W2.drew.setCells w.heap.size ((k + 1) * 4) ds := ⟨_, rfl⟩
  rw [← hW3] at hR3 hB3 hgr3
  have hsf : Since w W3 := ((hs1.grown hgr2 (fun j hj => by injection hj with hj; omega)).drew).grown hgr3 (fun j hj => by injection hj with hj; omega)
  have HF : Hid (OwnE w.heap.size W3 (.slice (some ⟨w.heap.size, 0, none⟩) p C) (xs.take k ++ e :: xs.drop k) ∧ Since w W3) := by
    have hll : (xs.take k ++ e :: xs.drop k).length = p := by simp; omega
    refine ⟨⟨fun x hx => ?_, ?_⟩, hsf⟩
    · rcases List.mem_append.1 hx with h1 | h1
      · exact hin x (List.mem_of_mem_take h1)
      · rcases List.mem_cons.1 h1 with h1 | h1
        · subst h1; exact hei
        · exact hin x (List.mem_of_mem_drop h1)
    · rw [hll]
      refine ⟨by rw [ecells_length, hll], .inr ⟨w.heap.size, C, cur3, rfl, Nat.le_refl _, hB3, hC1, hC2, by omega, ?_⟩⟩
      have hce : ecells (xs.take k ++ e :: xs.drop k) = (ecells xs).take (k * 4) ++ (e.cs ++ ds) := by rw [ecells_append, ecells_cons, ecells_take, hds]
      rw [hce]
      have hes : e.cs.length = 4 := rfl
      apply List.ext_getElem?
      intro j
      rw [List.getElem?_take]
      by_cases hj : j < p * 4
      · rw [if_pos hj, Array.getElem?_toList]
        by_cases hjk : j < k * 4
        · rw [he2 j (.inl (by omega)), hd2 j (.inl hjk), hc1a j hjk, List.getElem?_append_left (by rw [List.length_take]; omega), List.getElem?_take, if_pos hjk]
        · rw [List.getElem?_append_right (by rw [List.length_take]; omega), List.length_take, show min (k * 4) (ecells xs).length = k * 4 from by omega]
          by_cases hj4 : j < (k + 1) * 4
          · have h4 := hd3 (j - k * 4) (by omega) (by omega)
            rw [show k * 4 + (j - k * 4) = j from by omega] at h4
            rw [he2 j (.inl hj4), h4, List.getElem?_append_left (by omega)]
          · have h5 := he3 (j - (k + 1) * 4) (by omega) (by omega)
            rw [show (k + 1) * 4 + (j - (k + 1) * 4) = j from by omega] at h5
            rw [h5, List.getElem?_append_right (by omega), hes, show j - k * 4 - 4 = j - (k + 1) * 4 from by omega]
      · rw [if_neg hj, List.getElem?_eq_none (by rw [List.length_append, List.length_take, List.length_append, hes, hdl]; omega)]
  have HR1 := Lib.hid hR1
  have HR2 := Lib.hid hR2
  have HR3 := Lib.hid hR3
  have hnk : ¬ n = k := by omega
  have hCk : ¬ C = k := by omega
  have hCk1 : ¬ C = k + 1 := by omega
  have hpk : p - k = r + 1 := by omega
  have hpk1 : p - (k + 1) = r := by omega
  have hne : ((k : Int) == (n : Int)) = false := by simp; omega
  have ik0 : (0 : Int) ≤ (k : Int) := by omega
  have ik1 : (k : Int) ≤ (n : Int) := by omega
  have ik2 : (0 : Int) ≤ (k : Int) + 1 := by omega
  have ik3 : (k : Int) + 1 ≤ (p : Int) := by omega
  have ik4 : (k : Int) ≤ (p : Int) := by omega
  have ikn : k ≤ n := by omega
  have ikp : k ≤ p := by omega
  have ikp1 : k + 1 ≤ p := by omega
  have hwr : IntKind.i64.wrap ((k : Int) + 1) = (k : Int) + 1 := by rw [IntKind.wrap_i64]; omega
  have hwn : IntKind.i64.wrap ((n : Int) + 1) = (n : Int) + 1 := by rw [IntKind.wrap_i64]; omega
  have hws : IntKind.i64.wrap ((n : Int) + 1 - (k : Int)) = ((r + 1 : Nat) : Int) := by rw [IntKind.wrap_i64]; omega
  obtain ⟨r1, hr1⟩ : ∃ r1, r1 = r + 1 := ⟨_, rfl⟩
  rw [← hr1] at HR1 HR2 hpk hws
  clear hr1 hR1 hR2 hR3 hB3 hgr3 hsf he1 he2 he3 hW3 hdc hdl hds hg2 hW2 hgr2 hB2 hd1 hd2 hd3 hcs1 hec hei hg1 hB1 hs1 hW1 hc1a hc1s hcur1 hC1 hC2 hoc hol holds hcell hel hp hct hcs hcm hnc hblk hg hin hlen hn he hb hb2 hbg hgl hk hz0 hz1 hz2 hi0
  go_enter Try.func62, Try.ntmps62
  go_wp2_with (first
    | (refine wpList_of_run_append2 (o := ⟨some 40, _, _, _, _, _⟩) rfl (.tmp 34) (.tmp 39) _ _ rfl _ _ _ _ rfl rfl (HR1.out _) ?_)
    | (refine wpList_of_run_copy (o := ⟨some 45, _, _, _, _, _⟩) rfl (.tmp 43) (.tmp 44) _ rfl _ _ 1 _ rfl rfl (HR2.out _) ?_))
  go_region_law (refine step_of_run_copy rfl (.tmp 50) (.tmp 53) rfl _ _ r _ (by simp [Act.eval, Act.put]) (by simp [Act.eval, Act.put]) (HR3.out _) ?_)
  go_wp2
  go_ret
  exact ⟨_, rfl, HF.out⟩
end Go.Proofs.Ytpmkpeclfhmhlaa
