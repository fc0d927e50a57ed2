/- The model's tables: an empty or diagonal one, either of two. -/
import Derived.Test.YtiojgahjfndmdaaDoorTbl
import Derived.Deep.DeepCutAuto
namespace Go.Proofs.YtiojgahjfndmdaaDoor
set_option maxRecDepth 100000
open Go.ChangeShapes Go.WideShapes Go.ChangeAt Go.RowKit
set_option linter.unusedVariables false
set_option linter.unusedSimpArgs false

/-- What a function answers that gives a table. -/
def TabOut (w : World) (N : Nat) (f : Tb) (e : Ending) (w' : World) : Prop := ∃ v, e = .returned v ∧ OwnTab w.heap.size w' v N N f ∧ Since w w'
theorem tab_snoc {base k N b : Nat} {w' : World} {v' : Value} {f : Tb} {bs : List Nat} (h1 : bs.length = k) (h2 : bs.Nodup) (h3 : ∀ b ∈ bs, base ≤ b) (h5 : ∀ i (h : i < bs.length), Blk w' bs[i] 4 (rowC N (f i)).toArray)
    (hb : base ≤ b) (hne : ∀ c ∈ bs, c ≠ b) (hB : Blk w' b 4 (rowC N (f k)).toArray) (hr : w'.ownsRow base 114 1 v' (k + 1) (bs.map (rowV N) ++ [rowV N b])) : OwnTab base w' v' (k + 1) N f := by
  refine ⟨bs ++ [b], by simp [h1], ?_, ?_, ?_, ?_⟩
  · rw [List.nodup_append]
    refine ⟨h2, by simp, fun x hx y hy => ?_⟩
    simp at hy; subst hy
    exact hne x hx
  · intro c hc
    rcases List.mem_append.1 hc with h | h
    · exact h3 c h
    · simp at h; subst h; exact hb
  · rw [List.map_append]; exact hr
  · intro i hi
    by_cases e : i < bs.length
    · rw [List.getElem_append_left e]; exact h5 i e
    · have e2 : i = k := by simp at hi; omega
      subst e2
      have : (bs ++ [b])[i] = b := by rw [List.getElem_append_right (by omega)]; simp
      rw [this]; exact hB
/-- A row just made, as a block. -/
theorem made_row {w w1 : World} {N g : Nat} (hN : 0 < N) (h : w1.ownsRow w.heap.size 4 1 (.slice (some ⟨g, 0, none⟩) N N) N (madeCells (Value.bool false).cells (N * 1)).toList) : Blk w1 g 4 (List.replicate N (.bool false)).toArray := by
  rw [Nat.mul_one, show (Value.bool false).cells = #[.bool false] from rfl, toList_madeCells_one] at h
  rcases h.2 with ⟨_, h0⟩ | ⟨g', cap, cur, hv, _, hg, hc, hm, hs, ht⟩
  · omega
  · injection hv with hv1 hv2 hv3
    injection hv1 with hv1; injection hv1 with hv1
    subst hv1; subst hv3
    have : cur = (List.replicate N (.bool false)).toArray := by
      apply Array.toList_inj.1
      rw [List.take_of_length_le (by simp [hs])] at ht
      simpa using ht
    rw [← this]; exact hg
theorem rowC_false (N : Nat) : rowC N (fun _ => false) = List.replicate N (Value.bool false) := by
  apply List.ext_getElem?
  intro i
  by_cases hi : i < N
  · rw [rowC_at _ _ _ hi, List.getElem?_replicate, if_pos hi]
  · rw [List.getElem?_eq_none (by rw [rowC_len]; omega), List.getElem?_eq_none (by rw [List.length_replicate]; omega)]
theorem gridF_row (same : Bool) (k i : Nat) : gridF same k i = if i = k then same else false := by
  unfold gridF
  by_cases e : i = k
  · subst e; simp
  · rw [if_neg e, show (k == i) = false from by simp; omega, Bool.and_false]
theorem rowC_grid (N : Nat) (same : Bool) (k : Nat) : (List.replicate N (Value.bool false)).set k (.bool same) = rowC N (gridF same k) := by
  rw [← rowC_false]
  exact rowC_set N (fun _ => false) (gridF same k) k same (fun i _ => gridF_row same k i)
set_option maxHeartbeats 2000000 in
set_option maxRecDepth 100000 in
theorem l9Grid_any (N : Nat) (same : Bool) (w : World) (h1 : 1 ≤ N) (h9 : N ≤ 9) : Calls Tryd.prog 103 #[.int .i64 (N : Int), .bool same] w (TabOut w N (gridF same)) := by
  obtain ⟨i0, hi, hz0, hz1, hz2⟩ := info_parts info_bool
  have HZ2 := Lib.hid hz2
  clear hz2
  have hnil : (w.alloc (.cells #[] 114)).ownsRow w.heap.size 114 1 (.slice (some ⟨w.heap.size, 0, none⟩) 0 0) 0 [] := World.ownsRow_lit w #[] 0 (Nat.le_refl _) (Nat.zero_le _) rfl
  have hs0 := (Since.refl w).alloc (.cells #[] 114)
  go_enter Tryd.func103, Tryd.ntmps103
  go_wp2
  go_loopw [5, 6] (fun out i wr => ∃ k : Nat, k ≤ N ∧ i = .int .i64 k ∧ Hid (OwnTab w.heap.size wr out k N (gridF same)) ∧ Hid (Since w wr)) (fun _ i _ => N - (intOf i).toNat)
  case atStart => exact ⟨0, Nat.zero_le _, rfl, OwnTab.nil0 _ _ _ _ _ hnil, hs0⟩
  case round =>
    obtain ⟨k, hk, rfl, HT, HW⟩ := hrel
    obtain ⟨bs, b1, b2, b3, b4, b5⟩ := HT.out
    have B1 := Lib.hid b1
    have B2 := Lib.hid b2
    have B3 := Lib.hid b3
    have B4 := Lib.hid b4
    have B5 := Lib.hid b5
    have hw0 := HW.out
    have hwz := hw0.size
    clear b1 b2 b3 b4 b5 HT HW
    by_cases hlt : k < N
    · have hki : (k : Int) < (N : Int) := by omega
      have hk0 : (0 : Int) ≤ (k : Int) := by omega
      go_upto_region 6 with (at_make; go_must (refine wpList_make_full _ rfl _ _ 114 rfl w.heap.size 4 i0 (.bool false) 1 Tryd.underlying114 hi hz0 hz1 .i64 .i64 _ _ N rfl rfl rfl rfl (by rw [HZ2.out]; omega) (by unfold maxLen; omega) hwz ?_); intro w1 hown hgrow)
      have hs1 : Since wr w1 := (Since.refl wr).grown hgrow (fun _ h => by simp at h)
      have HB := Lib.hid (made_row (w := w) h1 hown)
      have hRlt : wr.heap.size < w1.heap.size := HB.out.lt
      have c0 : w1.cell? ⟨wr.heap.size, k, none⟩ = some (.bool false) := by
        rw [HB.out.cell, ← Array.getElem?_toList]; simp [hlt]
      have c1 : w1.frozen? ⟨wr.heap.size, k, none⟩ = false := HB.out.frozen k
      have HB2 := Lib.hid (HB.out.set k (.bool same))
      have hs2 : Since wr (w1.setCell ⟨wr.heap.size, k, none⟩ (.bool same)) := hs1.setCell (Nat.le_refl _) _
      clear hown hgrow
      go_upto_region 7 with fail
      clear c0 c1
      generalize w1.setCell ⟨wr.heap.size, k, none⟩ (.bool same) = w2 at HB2 hs2 ⊢
      have HB3 : Hid (Blk w2 wr.heap.size 4 (rowC N (gridF same k)).toArray) := by
        have := HB2.out
        rw [List.setIfInBounds_toArray, rowC_grid] at this
        exact this
      have HROW := Lib.hid (row_since B4.out hs2)
      have h02 := hw0.trans hs2
      clear HB2 HB
      go_wp2_with (at_builtin; go_must (refine wpList_append_row rfl (.tmp 20) (.tmp 22) rfl w.heap.size _ k (bs.map (rowV N)) (by first | rfl | simp [Act.eval]) HROW.out (rowV N wr.heap.size) (by first | rfl | simp [Act.eval]) rfl (by omega) h02.size ?_); intro v3 w3 ho3 hg3; have HO3 := Lib.hid ho3; have HG3 := Lib.hid hg3; clear ho3 hg3)
      have hal : Since w2 (w2.alloc (.cells #[rowV N wr.heap.size] 114)) := (Since.refl _).alloc _
      have HKB : Hid (∀ g cs, Blk w2 g 4 cs → Blk w3 g 4 cs) := fun g cs hb => by
        have hb2 := hb.since hal
        exact (HG3.out.block g hb2.lt (fun e => other_type (row_since HROW.out hal) hb2 (by decide) e.symm)).trans hb2
      have HT3 : Hid (OwnTab w.heap.size w3 v3 (k + 1) N (gridF same)) := by
        refine tab_snoc B1.out B2.out B3.out (fun i hi => HKB.out _ _ ((B5.out i hi).since hs2)) hwz (fun c hc e => ?_) (HKB.out _ _ HB3.out) HO3.out
        obtain ⟨i, hi, rfl⟩ := List.getElem_of_mem hc
        have := (B5.out i hi).lt
        omega
      have HS3 : Hid (Since w w3) := (h02.trans hal).grown HG3.out fun q hq => (row_since HROW.out hal).lt q hq |>.1
      go_roundw
      case rel => exact ⟨k + 1, by omega, by go_num, HT3.out, HS3.out⟩
      case measure => simp [intOf]; omega
    · obtain rfl : k = N := by omega
      have HT : Hid (OwnTab w.heap.size wr u5 k k (gridF same)) := ⟨bs, B1.out, B2.out, B3.out, B4.out, B5.out⟩
      go_wp2
      go_ret
      exact ⟨_, rfl, HT.out, hw0⟩
set_option maxHeartbeats 4000000 in
set_option maxRecDepth 100000 in
theorem l9Either_any (N : Nat) (a b : Tb) (va vb : Value) (w : World) (h1 : 1 ≤ N) (h9 : N ≤ 9) (ha : OwnTab 0 w va N N a) (hb : OwnTab 0 w vb N N b) (la : LowT N a) (lb : LowT N b) :
    Calls Tryd.prog 105 #[va, vb] w (TabOut w N fun i j => a i j || b i j) := by
  have HA := Lib.hid ha
  have HB := Lib.hid hb
  obtain ⟨ga, ca, _, rfl, _⟩ := ha.at 0 h1
  obtain ⟨gb, cb, _, rfl, _⟩ := hb.at 0 h1
  have LA := Lib.hid la
  have LB := Lib.hid lb
  clear ha hb la lb
  go_enter Tryd.func105, Tryd.ntmps105
  go_wp2_with fail
  refine (l9Grid_any N false _ h1 h9).mono ?_
  rintro e w1 ⟨v1, rfl, ho1, hs1⟩
  obtain ⟨go, co, _, rfl, _⟩ := ho1.at 0 h1
  have HO1 := Lib.hid (ho1.congr (g := eitF a b 0 0) (fun i j _ _ => (eitF_zero a b i j).symm))
  clear ho1
  go_wp2
  go_loopw [6] (fun i wr => ∃ k : Nat, k ≤ N ∧ i = .int .i64 k ∧ Hid (OwnTab w.heap.size wr (.slice (some ⟨go, 0, none⟩) N co) N N (eitF a b k k)) ∧ Hid (Since w wr)) (fun i _ => N - (intOf i).toNat)
  case atStart => exact ⟨0, Nat.zero_le _, rfl, HO1.out, hs1⟩
  case round =>
    obtain ⟨k, hk, rfl, HT, HW⟩ := hrel
    have hw0 := HW.out
    clear HW
    by_cases hlt : k < N
    · have hki : (k : Int) < (N : Int) := by omega
      have hk0 : (0 : Int) ≤ (k : Int) := by omega
      go_wp2
      go_loopw [7] (fun j wr => ∃ q : Nat, k ≤ q ∧ q ≤ N ∧ j = .int .i64 q ∧ Hid (OwnTab w.heap.size wr (.slice (some ⟨go, 0, none⟩) N co) N N (eitF a b k q)) ∧ Hid (Since w wr)) (fun j _ => N - (intOf j).toNat)
      case atStart => exact ⟨k, Nat.le_refl _, by omega, rfl, HT.out, hw0⟩
      case round =>
        obtain ⟨q, hkq, hq, rfl, HT, HW⟩ := hrel
        have hw0 := HW.out
        clear HW
        by_cases hlq : q < N
        · have hqi : (q : Int) < (N : Int) := by omega
          have hq0 : (0 : Int) ≤ (q : Int) := by omega
          obtain ⟨g1, p1, bo, e1, o0, o1, obase, _, oset, _⟩ := HT.out.at k hlt
          injection e1 with e1 _ _
          injection e1 with e1; injection e1 with e1
          subst e1
          obtain ⟨g2, p2, ba, e2, a0, a1, _, abl, _, _⟩ := (HA.out.since hw0).at k hlt
          injection e2 with e2 _ _
          injection e2 with e2; injection e2 with e2
          subst e2
          obtain ⟨g3, p3, bb, e3, b0, b1, _, bbl, _, _⟩ := (HB.out.since hw0).at k hlt
          injection e3 with e3 _ _
          injection e3 with e3; injection e3 with e3
          subst e3
          obtain ⟨oc, of⟩ := o1 q hlq
          obtain ⟨ac, _⟩ := a1 q hlq
          obtain ⟨bc, _⟩ := b1 q hlq
          have HST := Lib.hid (oset q (a k q || b k q) hlq)
          have HSTEP := Lib.hid (eitF_step a b hkq)
          obtain ⟨x, hx⟩ : ∃ x, x = a k q := ⟨_, rfl⟩
          obtain ⟨z, hz⟩ : ∃ z, z = b k q := ⟨_, rfl⟩
          rw [← hx] at ac HST HSTEP
          rw [← hz] at bc HST HSTEP
          have hsn : Since w (wr.setCell ⟨bo, q, none⟩ (.bool (x || z))) := hw0.setCell obase _
          have HSN := Lib.hid hsn
          clear o1 a1 b1 oset hx hz hsn abl bbl
          cases x with
          | true =>
            go_upto_region 8 with fail
            go_region
            go_wp2
            go_roundw
            case rel => exact ⟨q + 1, by omega, by omega, by go_num, ((HST.out.congr (fun i j _ _ => HSTEP.out i j)).since (Since.refl _).drew), HSN.out.drew⟩
            case measure => simp [intOf]; omega
          | false =>
            go_upto_region 8 with fail
            go_region
            go_wp2
            go_roundw
            case rel => exact ⟨q + 1, by omega, by omega, by go_num, ((HST.out.congr (fun i j _ _ => HSTEP.out i j)).since (Since.refl _).drew), HSN.out.drew⟩
            case measure => simp [intOf]; omega
        · obtain rfl : q = N := by omega
          have HT2 := Lib.hid (HT.out.congr (g := eitF a b (k + 1) (k + 1)) (fun i j _ hj => eitF_row a b i j hj))
          go_wp2
          go_roundw
          case rel => exact ⟨k + 1, by omega, by go_num, HT2.out, hw0⟩
          case measure => simp [intOf]; omega
    · obtain rfl : k = N := by omega
      have HT2 := Lib.hid (HT.out.congr (g := fun i j => a i j || b i j) (fun i j hi hj => eitF_all LA.out LB.out i j hi hj))
      go_wp2
      go_ret
      exact ⟨_, rfl, HT2.out, hw0⟩
end Go.Proofs.YtiojgahjfndmdaaDoor
