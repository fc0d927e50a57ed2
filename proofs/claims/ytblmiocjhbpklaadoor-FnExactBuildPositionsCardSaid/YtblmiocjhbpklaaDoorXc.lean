/- slices.Concat of lists of tokens; the small functions of chapter 8: copies, single tokens, the constructors of the program. -/
import Derived.Test.YtblmiocjhbpklaaDoorTokL
import Derived.Test.YtblmiocjhbpklaaDoorExM
import Derived.Test.YtblmiocjhbpklaaDoorEeS
namespace Go.Proofs.YtblmiocjhbpklaaDoor
set_option maxRecDepth 100000
open Go.ChangeShapes Go.WideShapes Go.ChangeAt Go.RowKit
set_option linter.unusedVariables false
set_option linter.unusedSimpArgs false

theorem wpList_of_run_append2K {w : World} {ops : Array Oper} {rest : List Oper} {o : Oper} {a : Act} {Q : Exit → Act → World → Prop} (hgd : o.guard = none) (s x : Operand) (t tn : TypeId)
    (ho : o.op = .call { callee := .builtin .append, args := #[s, x], argTypes := #[t, tn] }) (v y v' : Value) (w' : World) (hs : a.eval s = v) (hx : a.eval x = y)
    (hr : (Builtin.append_ #[t, tn] o.type #[v, y]).run Tryd.prog w = .ok v' w') (h : wpList Tryd.prog ops Q rest (a.put o.dst v') w') : wpList Tryd.prog ops Q (o :: rest) a w := by
  refine wpList_plain hgd fun K hK => ?_
  unfold Oper.wp execOp
  simp only [ho, resolve, invoke, builtin, Sem.run_bind, Sem.run_pure, Result.andThen_ok, List.map_toArray, List.map_cons, List.map_nil, hs, hx, hr]
  exact hK _ _ h
set_option maxRecDepth 100000 in
/-- append of m zero values onto nothing. -/
theorem run_append_zerosK (w : World) (t tn e : TypeId) (i : TypeInfo) (z : Value) (kn : IntKind) (ht : Tryd.prog.underlying t = some (.slice e)) (htn : Tryd.prog.underlying tn = some (.int kn)) (hi : Tryd.prog.info? e = some i) (hz : i.zero = some z) (hzc : z.cells.size = i.size)
    (n : Nat) (h0 : 0 < n * i.size) (hn9 : n ≤ 4194304) (hb : i.bytes ≤ 64) :
    ∃ C, n ≤ C ∧ C ≤ maxLen ∧ ∀ ty, (Builtin.append_ #[t, tn] ty #[.slice none 0 0, .int kn n]).run Tryd.prog w =
      .ok (.slice (some ⟨w.heap.size, 0, none⟩) n C)
        (w.drew.alloc (.cells (Builtin.zeroCells z.cells n ++ Builtin.zeroCells z.cells (C - n)) e)) := by
  refine ⟨grownCap w n 0 e, grownCap_ge w _ _ e, grownCap_le_maxLen w _ _ e (by unfold maxLen; omega), fun ty => ?_⟩
  have hn : ¬ (n = 0) := by intro h; subst h; omega
  have hbn : n * i.bytes ≤ 4194304 * 64 := Nat.mul_le_mul (by omega) hb
  have h63' : ¬ (9223372036854775807 < (n : Int)) := by omega
  have hfit : Builtin.nextslicecap n 0 * i.bytes ≤ 281474976710656 := growslice_fits (by omega) (by have : n * i.bytes ≤ 4194304 * 64 := Nat.mul_le_mul (by omega) hb; omega)
  have h48' : ¬ (281474976710656 < Builtin.nextslicecap n 0 * i.bytes) := by omega
  have hw : IntKind.i64.wrap (n : Int) = (n : Int) := by rw [IntKind.wrap_i64]; omega
  have hl0 : ¬ ((n : Int) < 0) := by omega
  have hlb : ¬ (281474976710656 < (n : Int) * (i.bytes : Int)) := by
    rw [← Int.natCast_mul]
    obtain ⟨q, hq⟩ : ∃ q, q = n * i.bytes := ⟨_, rfl⟩
    rw [← hq] at hbn ⊢
    omega
  have hne : n * i.size ≠ 0 := by omega
  have hai : ∀ w, (asInt (.int kn (n : Int))).run Tryd.prog w = .ok (n : Int) w := fun w => by simp [asInt, asIntOf]
  simp [Builtin.append_, run_underlying ht, run_underlying htn, sizeOf, typeInfo, zeroValue, hi, hz, hai, hw, hl0, hlb, hn, h63', h48', Question.forced, newRow, grownCap, hne, Builtin.firstCells]
def GrowKOut (w : World) (e : Ending) (w' : World) : Prop := ∃ v, e = .returned v ∧ OwnK w.heap.size w' v [] ∧ Since w w'
set_option maxHeartbeats 1000000 in
set_option maxRecDepth 100000 in
theorem growK_any (n : Nat) (w : World) (hn : n ≤ 4194304) :
    Calls Tryd.prog 139 #[.slice none 0 0, .int .i64 n] w (GrowKOut w) := by
  by_cases h0 : n = 0
  · subst h0
    go_enter Tryd.func139, Tryd.ntmps139
    go_wp2
    go_ret
    exact ⟨_, rfl, ⟨fun x hx => by simp at hx, World.ownsRow_nil _ _ _ _⟩, Since.refl _⟩
  · obtain ⟨i0, hi, hz0, hz1, hz2⟩ := info_parts info_tok
    obtain ⟨C, hC1, hC2, hR⟩ := run_append_zerosK w 24 3 90 i0 (kv zeroK) .i64 Tryd.underlying24 Tryd.underlying3 hi hz0 (by rw [hz1]; rfl) n (by rw [hz1]; omega) hn (by rw [hz2]; decide)
    have hgt : (0 : Int) < (n : Int) := by omega
    have hge : ¬ (n : Int) < 0 := by omega
    have hC0 : (0 : Int) ≤ (C : Int) := by omega
    go_enter Tryd.func139, Tryd.ntmps139
    obtain ⟨W, hW⟩ : ∃ W, W = w.drew.alloc (.cells (Builtin.zeroCells (kv zeroK).cells n ++ Builtin.zeroCells (kv zeroK).cells (C - n)) 90) := ⟨_, rfl⟩
    have hsW : Since w W := by rw [hW]; exact (Since.refl w).drew.alloc _
    have HO : Hid (OwnK w.heap.size W (.slice (some ⟨w.heap.size, 0, none⟩) 0 C) []) := by
      refine ⟨fun x hx => by simp at hx, rfl, .inr ⟨w.heap.size, C, Builtin.zeroCells (kv zeroK).cells n ++ Builtin.zeroCells (kv zeroK).cells (C - n), rfl, Nat.le_refl _, ?_, Nat.zero_le _, hC2, ?_, by simp [kcells]⟩⟩
      · rw [hW]; exact heap_alloc_new w.drew _
      · have hcs : (kv zeroK).cells.size = 4 := rfl
        simp [Builtin.zeroCells, hcs]; omega
    rw [← hW] at hR
    clear hW
    go_wp2_with (at_builtin; go_must (refine wpList_of_run_append2K rfl (.tmp 20) (.tmp 21) 24 3 rfl _ _ _ _ rfl rfl (hR _) ?_))
    go_ret
    exact ⟨_, rfl, HO.out, hsW⟩
/-- The first k lists, one behind the other. -/
def catK (ys : List (List Tok)) (k : Nat) : List Tok := (ys.take k).flatten
theorem catK_step (ys : List (List Tok)) (k : Nat) (h : k < ys.length) : catK ys (k + 1) = catK ys k ++ ys[k] := by
  unfold catK; rw [List.take_succ_eq_append_getElem h, List.flatten_append]; simp only [List.flatten_cons, List.flatten_nil, List.append_nil]
theorem catK_le (ys : List (List Tok)) (k : Nat) : (catK ys k).length ≤ (catK ys ys.length).length := by
  unfold catK
  rw [List.take_length]
  have : ys.flatten = (ys.take k).flatten ++ (ys.drop k).flatten := by rw [← List.flatten_append, List.take_append_drop]
  rw [this]; simp
/-- The values of a block read as these lists. -/
def PartsK (w : World) (vs : List Value) (ys : List (List Tok)) : Prop := vs.length = ys.length ∧ ∀ k (h : k < ys.length), ∃ v, vs[k]? = some v ∧ ToksAt w v ys[k]
theorem PartsK.since {w w' : World} {vs : List Value} {ys : List (List Tok)} (h : PartsK w vs ys) (k : Since w w') : PartsK w' vs ys :=
  ⟨h.1, fun j hj => by obtain ⟨v, e, hv⟩ := h.2 j hj; exact ⟨v, e, hv.since k⟩⟩
set_option maxHeartbeats 2000000 in
set_option maxRecDepth 100000 in
theorem concatK_any (sb m : Nat) (vs : List Value) (ys : List (List Tok)) (w : World) (hb : Blk w sb 24 vs.toArray) (hp : PartsK w vs ys) (hm : m = ys.length) (hm9 : m ≤ 3) (hL : (catK ys m).length ≤ 4194304) :
    Calls Tryd.prog 118 #[.slice (some ⟨sb, 0, none⟩) m m] w (TokOut w (catK ys m)) := by
  have HP := Lib.hid hp
  have HB := Lib.hid hb
  have HM := Lib.hid hm
  have HL := Lib.hid hL
  clear hp hb hL hm
  have HEACH : Hid (∀ k (h : k < m) w', Since w w' → ∃ ao c, w'.cell? ⟨sb, k, none⟩ = some (.slice ao (ys[k]'(by rw [← HM.out]; exact h)).length c) ∧ ToksAt w' (.slice ao (ys[k]'(by rw [← HM.out]; exact h)).length c) (ys[k]'(by rw [← HM.out]; exact h))) := by
    intro k h w' hs
    obtain ⟨v, e, hv⟩ := HP.out.2 k (by rw [← HM.out]; exact h)
    obtain ⟨ao, c, rfl⟩ := hv.len
    refine ⟨ao, c, ?_, hv.since hs⟩
    rw [(HB.out.since hs).cell k]
    simpa using e
  have HST : Hid (∀ k (h : k < m), catK ys (k + 1) = catK ys k ++ (ys[k]'(by rw [← HM.out]; exact h))) := fun k h => catK_step ys k (by rw [← HM.out]; exact h)
  have HLE : Hid (∀ k, (catK ys k).length ≤ 4194304) := by
    intro k
    have := catK_le ys k
    rw [← HM.out] at this
    exact Nat.le_trans this HL.out
  clear HP HB HL
  obtain ⟨N, hN⟩ : ∃ N, N = (catK ys m).length := ⟨_, rfl⟩
  have HNN := Lib.hid hN
  clear hN
  go_enter Tryd.func118, Tryd.ntmps118
  go_wp2
  go_loop [3, 11] (fun q i => ∃ k : Nat, k ≤ m ∧ i = .int .i64 k ∧ q = .int .i64 ((catK ys k).length : Nat)) (fun _ i => m - (intOf i).toNat)
  case atStart => exact ⟨0, by omega, rfl, rfl⟩
  case round =>
    obtain ⟨k, hk, rfl, rfl⟩ := hrel
    by_cases hlt : k < m
    · obtain ⟨ao, c, hc, _⟩ := HEACH.out k hlt w (Since.refl w)
      have hs1 := HST.out k hlt
      have hl1 := HLE.out (k + 1)
      obtain ⟨u, hu⟩ : ∃ u, u = (ys[k]'(by rw [← HM.out]; exact hlt)).length := ⟨_, rfl⟩
      obtain ⟨q, hq⟩ : ∃ q, q = (catK ys k).length := ⟨_, rfl⟩
      obtain ⟨q2, hq2⟩ : ∃ q2, q2 = (catK ys (k + 1)).length := ⟨_, rfl⟩
      have hsum : q2 = q + u := by rw [hq2, hs1, List.length_append, hq, hu]
      rw [← hu] at hc
      rw [← hq2] at hl1
      rw [← hq]
      have HQ2 := Lib.hid hq2
      have HSUM := Lib.hid hsum
      have hqu : q + u ≤ 4194304 := by rw [← hsum]; exact hl1
      clear hs1 hu hq hq2 hsum hl1
      have hki : (k : Int) < (m : Int) := by omega
      have hk0 : (0 : Int) ≤ (k : Int) := by omega
      go_wp2
      go_round
      case rel => exact ⟨k + 1, by omega, by go_num, by rw [← HQ2.out, HSUM.out]; go_num⟩
      case measure => simp [intOf]; omega
    · obtain rfl : k = m := by omega
      have hN9 := HLE.out k
      rw [← HNN.out] at hN9 ⊢
      go_wp2_with fail
      refine (growK_any N _ hN9).mono ?_
      rintro e w1 ⟨v1, rfl, ho1, hs1⟩
      go_wp2_with fail
      go_loopw [6, 27] (fun v i wr => ∃ j : Nat, j ≤ k ∧ i = .int .i64 j ∧ Hid (OwnK w.heap.size wr v (catK ys j)) ∧ Since w wr) (fun _ i _ => k - (intOf i).toNat)
      case atStart => exact ⟨0, by omega, rfl, ho1, hs1⟩
      case round =>
        obtain ⟨j, hj, rfl, HO, hsw⟩ := hrel
        obtain ⟨vo, vc, rfl⟩ := HO.out.len
        by_cases hlt2 : j < k
        · obtain ⟨ao, c, hc, hT⟩ := HEACH.out j hlt2 wr hsw
          have hs2 := HST.out j hlt2
          have hl2 := HLE.out (j + 1)
          obtain ⟨Y, hY⟩ : ∃ Y, Y = (ys[j]'(by rw [← HM.out]; exact hlt2)) := ⟨_, rfl⟩
          rw [← hY] at hc hT hs2
          rw [hs2, List.length_append] at hl2
          have HS2 := Lib.hid hs2
          have HT := Lib.hid hT
          clear hY hs2 hT
          have hki : (j : Int) < (k : Int) := by omega
          have hk0 : (0 : Int) ≤ (j : Int) := by omega
          go_wp2_with (at_builtin; go_must (refine wpList_append_toks rfl (.tmp 31) (.tmp 32) rfl w.heap.size (.slice vo (catK ys j).length vc) (catK ys j) rfl HO.out ao Y.length c rfl Y HT.out hl2 hsw.size ?_); intro v3 w3 ho3 hg3 hb3)
          have hs3 := hsw.grown hg3 (fun i hi => (HO.out.2.lt i hi).1)
          have HO3 : Hid (OwnK w.heap.size w3 v3 (catK ys (j + 1))) := by unfold Hid; rw [HS2.out]; exact ho3
          clear ho3
          go_roundw
          case rel => exact ⟨j + 1, by omega, by go_num, HO3, hs3⟩
          case measure => simp [intOf]; omega
        · obtain rfl : j = k := by omega
          have HO2 : Hid (OwnK w.heap.size wr (.slice vo (catK ys j).length vc) (catK ys j)) := HO.out
          generalize (catK ys j).length = q at HO2 ⊢
          clear HO
          go_wp2
          go_ret
          exact ⟨_, rfl, HO2.out, hsw⟩
end Go.Proofs.YtblmiocjhbpklaaDoor
