/- treeOf: the tree of an expression, built on a stack of pointers. -/
import Derived.Test.YtblmiocjhbpklaaDoorAr
import Derived.Test.YtblmiocjhbpklaaDoorOpenX
namespace Go.Proofs.YtblmiocjhbpklaaDoor
set_option maxRecDepth 100000
open Go.ChangeShapes Go.WideShapes Go.ChangeAt Go.RowKit
set_option linter.unusedVariables false
set_option linter.unusedSimpArgs false

/-- What a function answers that gives a tree. -/
def TreOut (w : World) (T : Tr) (e : Ending) (w' : World) : Prop := ∃ v, e = .returned v ∧ TreeAt w' T w.heap.size w'.heap.size v ∧ Since w w'
def treeT (xs : List Tok) : Tr := (treeO xs).getD .nil
theorem treeT_none {xs : List Tok} (h : stk [] xs = none) : treeT xs = .nil := by unfold treeT; rw [treeO_none h]; rfl
theorem treeT_one {xs : List Tok} {T : Tr} (h : stk [] xs = some [T]) : treeT xs = T := by unfold treeT; rw [treeO_of h]; rfl
theorem treeT_many {xs : List Tok} {s : List Tr} (h : stk [] xs = some s) (hl : s.length ≠ 1) : treeT xs = .nil := by unfold treeT; rw [treeO_of h, if_neg hl]; rfl
theorem info_ptr : (Tryd.prog.info? 76).map (fun i => (i.zero, i.size, i.bytes)) = some (some (.pointer none), 1, 8) := by kernel_rfl
/-- A row of pointers of the call's own. -/
def OwnP (base : Nat) (w : World) (v : Value) (vs : List Value) : Prop := w.ownsRow base 76 1 v vs.length vs
theorem OwnP.since {base : Nat} {w w' : World} {v : Value} {vs : List Value} (h : OwnP base w v vs) (k : Since w w') : OwnP base w' v vs := row_since h k
theorem OwnP.len {base : Nat} {w : World} {v : Value} {vs : List Value} (h : OwnP base w v vs) : ∃ ao cap, v = .slice ao vs.length cap ∧ vs.length ≤ cap := by
  rcases h.2 with ⟨hv, hn⟩ | ⟨g, cap, cur, rfl, hb, hg, hc, _⟩
  · exact ⟨none, 0, by rw [hv, hn], by omega⟩
  · exact ⟨_, cap, rfl, hc⟩
theorem opA_eq {t : Tok} {k : Nat} (hk : t.kd = (k : Int)) (h8 : k < 8) : opA k = (opN t : Int) := by
  unfold opN
  rw [hk]
  rcases eight h8 with rfl | rfl | rfl | rfl | rfl | rfl | rfl | rfl <;> rfl
theorem stk_len {s s' : List Tr} {xs : List Tok} (h : stk s xs = some s') : s'.length ≤ s.length + xs.length := by
  induction xs generalizing s with
  | nil => injection h with h; subst h; simp
  | cons x xs ih =>
    simp only [stk] at h
    cases hp : pushT s x with
    | none => rw [hp] at h; cases h
    | some s1 =>
      rw [hp] at h
      have := ih h
      have := (pushT_len hp).2.2
      simp only [List.length_cons]; omega
theorem TreeAt.isPtr {w : World} {T : Tr} {lo hi : Nat} {v : Value} (h : TreeAt w T lo hi v) : ∃ p, v = .pointer p := by
  cases T with
  | nil => exact ⟨_, h⟩
  | node t l r => obtain ⟨_, g, _, _, _, _, _, _, rfl, _⟩ := h; exact ⟨_, rfl⟩
theorem StkT.arePtrs {w : World} {vs : List Value} {Ts : List Tr} : ∀ {lo hi : Nat}, StkT w lo hi vs Ts → ∀ v ∈ vs, ∃ p, v = .pointer p := by
  induction vs generalizing Ts with
  | nil => intro lo hi _ v hv; simp at hv
  | cons u vs ih => intro lo hi h v hv; cases Ts with
    | nil => exact h.elim
    | cons T Ts =>
      obtain ⟨m, _, _, h4, h3⟩ := h
      rcases List.mem_cons.1 hv with e | e
      · subst e; exact h4.isPtr
      · exact ih h3 v e
theorem Blk.at6 {w : World} {g : Nat} {t : TypeId} {a b c d e f : Value} (h : Blk w g t #[a, b, c, d, e, f]) : (w.cell? ⟨g, 4, none⟩ = some e ∧ w.frozen? ⟨g, 4, none⟩ = false) ∧ (w.cell? ⟨g, 5, none⟩ = some f ∧ w.frozen? ⟨g, 5, none⟩ = false) := ⟨⟨h.cell 4, h.frozen 4⟩, h.cell 5, h.frozen 5⟩
theorem row_take1 {w : World} {base r a : Nat} {e : TypeId} {fo : Option Addr} {fc : Nat} {vs : List Value} (h : w.ownsRow base e 1 (.slice fo (r + a) fc) (r + a) vs) : w.ownsRow base e 1 (.slice fo r fc) r (vs.take r) := by
  obtain ⟨h1, h2⟩ := h
  refine ⟨by rw [List.length_take]; omega, ?_⟩
  rcases h2 with ⟨hv, hn⟩ | ⟨g, cap, cur, hv, hb, hg, hc, hm, hs, ht⟩
  · injection hv with hv1 hv2 hv3
    subst hv1; subst hv3
    exact .inl ⟨by rw [show r = 0 from by omega], by omega⟩
  · injection hv with hv1 hv2 hv3
    subst hv1; subst hv3
    refine .inr ⟨g, fc, cur, rfl, hb, hg, by omega, hm, hs, ?_⟩
    rw [← ht, List.take_take]
    congr 1
    omega
set_option maxHeartbeats 4000000 in
set_option maxRecDepth 100000 in
theorem treeOf_any (v : Value) (xs : List Tok) (w : World) (hf : Forms w) (h : ExAt w v xs) (hl : xs.length ≤ 1048577) :
    Calls Tryd.prog 49 #[v] w (TreOut w (treeT xs)) := by
  obtain ⟨a, rfl, ha⟩ := h
  have HIN := Lib.hid ha.1
  obtain ⟨ao, ac, rfl, HC⟩ := ha.row
  clear ha
  have HF := Lib.hid hf
  clear hf
  obtain ⟨n, hn⟩ : ∃ n, n = xs.length := ⟨_, rfl⟩
  rw [← hn]
  have HN := Lib.hid hn
  have hn9 : n ≤ 1048577 := by omega
  clear hn hl
  have hs0 : Since w (w.alloc (.cells #[.slice ao n ac] 26)) := (Since.refl w).alloc _
  go_enter Tryd.func49, Tryd.ntmps49
  go_wp2_with fail
  go_loopw [3, 12] (fun fv i wr => ∃ (k : Nat) (s : List Tr) (vs : List Value), k ≤ n ∧ i = .int .i64 k ∧ Hid (OwnP w.heap.size wr fv vs) ∧ Hid (StkT wr w.heap.size wr.heap.size vs s) ∧ Hid (stk [] (xs.take k) = some s) ∧ Hid (Since w wr)) (fun _ i _ => n - (intOf i).toNat)
  case atStart => exact ⟨0, [], [], Nat.zero_le _, rfl, World.ownsRow_nil _ _ _ _, hs0.lt, rfl, hs0⟩
  case round =>
    obtain ⟨k, s, vs, hk, rfl, HO, HT, HS, HW⟩ := hrel
    obtain ⟨fo, fc, rfl, hfc⟩ := HO.out.len
    obtain ⟨m, hm⟩ : ∃ m, m = s.length := ⟨_, rfl⟩
    have HM := Lib.hid hm
    have HVL : Hid (vs.length = m) := by rw [hm]; exact HT.out.len
    rw [HVL.out] at hfc ⊢
    have HOM : Hid (wr.ownsRow w.heap.size 76 1 (.slice fo m fc) m vs) := by have := HO.out; unfold OwnP at this; rw [HVL.out] at this; exact this
    clear HO
    clear hm
    by_cases hlt : k < n
    · have hx : k < xs.length := by have := HN.out; omega
      obtain ⟨b, off, rfl, hb, c0, c1, c2, c3⟩ := HC.out k hx
      have s1 := since_cells HW.out hb
      rw [← s1] at c0 c1 c2 c3
      clear s1
      have hki : (k : Int) < (n : Int) := by omega
      have hk0 : (0 : Int) ≤ (k : Int) := by omega
      have HST := Lib.hid (stk_step hx HS.out)
      have HTI : Hid (xs[k].In) := HIN.out _ (List.getElem_mem hx)
      have HSTOP : Hid (pushT s xs[k] = none → treeT xs = .nil) := fun h => treeT_none (stk_stop hx HS.out h)
      obtain ⟨t, ht⟩ : ∃ t, t = xs[k] := ⟨_, rfl⟩
      rw [← ht] at c0 c1 c2 c3 HST HTI HSTOP
      clear ht
      obtain ⟨y, hy⟩ : ∃ y, y = wr.alloc (.cells #[.int .i64 t.kd, .int .i64 t.lr, .int .i64 t.lo, .int .i64 t.hi] 90) := ⟨_, rfl⟩
      have hsy : Since wr y := by rw [hy]; exact (Since.refl wr).alloc _
      have BT : Hid (Blk y wr.heap.size 90 #[.int .i64 t.kd, .int .i64 t.lr, .int .i64 t.lo, .int .i64 t.hi]) := by rw [hy]; exact Blk.new rfl _ _
      have HY := Lib.hid hy
      clear hy
      go_wp2_with fail
      rw [← HY.out]
      clear c0 c1 c2 c3
      refine (isToken_any t _).mono ?_
      rintro e w1 ⟨rfl, hs1⟩
      have hsr1 := hsy.trans hs1
      have BT1 := Lib.hid (BT.out.since hs1)
      cases hok : okT t with
      | false =>
        have HNIL : Hid (treeT xs = .nil) := HSTOP.out (by unfold pushT; rw [hok]; simp)
        go_wp2
        go_ret
        exact ⟨_, rfl, by rw [HNIL.out]; rfl, HW.out.trans hsr1⟩
      | true =>
        obtain ⟨hk1, hk7⟩ := okT_kd hok
        obtain ⟨kk, hkk⟩ : ∃ kk : Nat, t.kd = (kk : Int) := ⟨t.kd.toNat, by omega⟩
        have h8 : kk < 8 := by omega
        obtain ⟨a, haa⟩ : ∃ a, a = opN t := ⟨_, rfl⟩
        have ha2 : a ≤ 2 := by rw [haa]; exact opN_le t
        have hop : opA kk = (a : Int) := by rw [haa]; exact opA_eq hkk h8
        have HAA := Lib.hid haa
        have HOP := Lib.hid hop
        have HOK := Lib.hid hok
        have HKK := Lib.hid hkk
        clear haa hop hok hkk hk1 hk7
        obtain ⟨d0, d1, d2, d3, _⟩ := BT1.out.four
        rw [HKK.out] at d0
        have hF1 := HF.out.since (HW.out.trans hsr1)
        obtain ⟨f0, _⟩ := hF1.2 kk h8
        rw [HOP.out] at f0
        clear hF1
        have hk80 : (0 : Int) ≤ (kk : Int) := by omega
        have hk88 : (kk : Int) < 8 := by omega
        have hm9 : m ≤ 1048577 := by have := stk_len HS.out; have := HM.out; rw [List.length_take] at *; simp at *; omega
        by_cases hma : m < a
        · have HNIL : Hid (treeT xs = .nil) := HSTOP.out (by unfold pushT; rw [if_neg]; intro h; have := HAA.out; have := HM.out; omega)
          have hmi : (m : Int) < (a : Int) := by omega
          go_wp2
          go_ret
          exact ⟨_, rfl, by rw [HNIL.out]; rfl, HW.out.trans hsr1⟩
        · obtain ⟨r, rfl⟩ : ∃ r, m = r + a := ⟨m - a, by omega⟩
          have hmi : ¬ (((r + a : Nat) : Int) < (a : Int)) := by omega
          have hs2 : Since w1 (w1.alloc (.cells #[.int .i64 kk, .int .i64 t.lr, .int .i64 t.lo, .int .i64 t.hi, .pointer none, .pointer none] 131)) := (Since.refl w1).alloc _
          obtain ⟨g0, g1, g2, g3, _⟩ := (BT1.out.since hs2).four
          rw [HKK.out] at g0
          obtain ⟨e0, _⟩ := (HF.out.since ((HW.out.trans hsr1).trans hs2)).2 kk h8
          rw [HOP.out] at e0
          go_upto_region 9 with fail
          clear g0 g1 g2 g3 e0 d0 d1 d2 d3 f0 hmi hma
          have BN : Hid (Blk (w1.alloc (.cells #[.int .i64 kk, .int .i64 t.lr, .int .i64 t.lo, .int .i64 t.hi, .pointer none, .pointer none] 131)) w1.heap.size 131 (ncells t (.pointer none) (.pointer none))) := by unfold ncells; rw [HKK.out]; exact Blk.new rfl _ _
          generalize w1.alloc (.cells #[.int .i64 kk, .int .i64 t.lr, .int .i64 t.lo, .int .i64 t.hi, .pointer none, .pointer none] 131) = y2 at hs2 BN ⊢
          have hsr2 : Since wr y2 := hsr1.trans hs2
          have HG : Hid (wr.heap.size ≤ w1.heap.size) := hsr1.size
          have HOMK := HOM
          have HPUSH : Hid (stk [] (xs.take (k + 1)) = some (s.take r ++ [mkT t (s.drop r)])) := by
            unfold Hid
            rw [HST.out]
            unfold pushT
            rw [if_pos ⟨HOK.out, by rw [← HAA.out, ← HM.out]; omega⟩, ← HAA.out, ← HM.out, Nat.add_sub_cancel]
          have HNODE : Hid (∀ (W : World) (u x : Value), Since wr W → Blk W w1.heap.size 131 (ncells t u x) → u = (vs.drop r).getD 0 (.pointer none) → x = (vs.drop r).getD 1 (.pointer none) → StkT W w.heap.size (w1.heap.size + 1) (vs.take r ++ [.pointer (some ⟨w1.heap.size, 0, none⟩)]) (s.take r ++ [mkT t (s.drop r)])) := by
            intro W u x hS hB hu hx
            have hr : s.length - a = r := by rw [← HM.out]; omega
            have := (HT.out.since hS).node (t := t) (n := a) (g := w1.heap.size) HTI.out (by rw [← HM.out]; omega) ha2 HG.out (by rw [hr, ← hu, ← hx]; exact hB)
            rw [hr] at this
            exact this
          have HEND : Hid (∀ (W W' : World), Since wr W → W.ownsRow w.heap.size 76 1 (.slice fo r fc) r (vs.take r) → (∀ k, k < W.heap.size → (Value.slice fo r fc).ownBlock ≠ some k → W'.heap[k]? = W.heap[k]?) → w1.heap.size < W.heap.size → (∃ cs, Blk W w1.heap.size 131 cs) → StkT W w.heap.size (w1.heap.size + 1) (vs.take r ++ [.pointer (some ⟨w1.heap.size, 0, none⟩)]) (s.take r ++ [mkT t (s.drop r)]) → StkT W' w.heap.size W'.heap.size (vs.take r ++ [.pointer (some ⟨w1.heap.size, 0, none⟩)]) (s.take r ++ [mkT t (s.drop r)])) := by
            intro W W' hS ho hk hl ⟨cs, hb⟩ h
            have hl2 : w1.heap.size < W'.heap.size := heap_lt ((hk _ hl (fun e => other_type ho hb (by decide) e)).trans hb)
            exact (h.of fun j cs j1 j2 hb => (hk j (by omega) (fun e => other_type ho hb (by decide) e)).trans hb).wider (by omega)
          have HRT : Hid (∀ W, Since wr W → W.ownsRow w.heap.size 76 1 (.slice fo r fc) r (vs.take r)) := fun W hS => row_take1 (row_since HOM.out hS)
          have hr9 : r ≤ 1048577 := by omega
          rcases (by omega : a = 0 ∨ a = 1 ∨ a = 2) with rfl | rfl | rfl
          · have hdr : Hid (vs.drop r = []) := List.drop_of_length_le (by have := HVL.out; omega)
            by_cases hfr : fc = r
            · have hfr' := hfr.symm
              clear hfr
              subst hfr'
              have HS3 := Lib.hid (hsr2)
              have HN3 := Lib.hid (HNODE.out y2 (.pointer none) (.pointer none) hsr2 BN.out (by rw [hdr.out]; rfl) (by rw [hdr.out]; rfl))
              have HROW := Lib.hid (HRT.out y2 HS3.out)
              have HW3 := Lib.hid (HW.out.trans HS3.out)
              have HLT : Hid (w1.heap.size < y2.heap.size) := (BN.out.lt)
              go_upto_region 16 with (at_builtin; go_must (refine append_cell_k rfl (.tmp 69) (.tmp 71) 125 rfl 76 (.pointer none) 8 Tryd.underlying125 info_ptr rfl (.slice fo r r) r (vs.take r) rfl HROW.out HW3.out _ (by rfl) rfl (by omega) (by unfold maxLen; omega) ?_); intro v4 w4 ho4 hs4 hk4)
              have HO4 : Hid (OwnP w.heap.size w4 v4 (vs.take r ++ [.pointer (some ⟨w1.heap.size, 0, none⟩)])) := by unfold Hid OwnP; have hq : (vs.take r ++ [Value.pointer (some ⟨w1.heap.size, 0, none⟩)]).length = r + 1 := (by simp; have := HVL.out; omega); rw [hq]; exact ho4
              have HT4 := Lib.hid (HEND.out y2 w4 HS3.out HROW.out hk4 HLT.out ⟨_, BN.out⟩ HN3.out)
              have HS4 := Lib.hid hs4
              clear ho4 hk4 hs4
              go_wp2
              go_roundw
              case rel => exact ⟨k + 1, _, _, by omega, by go_num, HO4.out, HT4.out, HPUSH.out, HS4.out⟩
              case measure => simp [intOf]; omega
            · have hrf : r < fc := by omega
              have HS3 := Lib.hid (hsr2)
              have HN3 := Lib.hid (HNODE.out y2 (.pointer none) (.pointer none) hsr2 BN.out (by rw [hdr.out]; rfl) (by rw [hdr.out]; rfl))
              have HROW := Lib.hid (HRT.out y2 HS3.out)
              have HW3 := Lib.hid (HW.out.trans HS3.out)
              have HLT : Hid (w1.heap.size < y2.heap.size) := (BN.out.lt)
              go_upto_region 16 with (at_builtin; go_must (refine append_cell_k rfl (.tmp 69) (.tmp 71) 125 rfl 76 (.pointer none) 8 Tryd.underlying125 info_ptr rfl (.slice fo r fc) r (vs.take r) rfl HROW.out HW3.out _ (by rfl) rfl (by omega) (by unfold maxLen; omega) ?_); intro v4 w4 ho4 hs4 hk4)
              have HO4 : Hid (OwnP w.heap.size w4 v4 (vs.take r ++ [.pointer (some ⟨w1.heap.size, 0, none⟩)])) := by unfold Hid OwnP; have hq : (vs.take r ++ [Value.pointer (some ⟨w1.heap.size, 0, none⟩)]).length = r + 1 := (by simp; have := HVL.out; omega); rw [hq]; exact ho4
              have HT4 := Lib.hid (HEND.out y2 w4 HS3.out HROW.out hk4 HLT.out ⟨_, BN.out⟩ HN3.out)
              have HS4 := Lib.hid hs4
              clear ho4 hk4 hs4
              go_wp2
              go_roundw
              case rel => exact ⟨k + 1, _, _, by omega, by go_num, HO4.out, HT4.out, HPUSH.out, HS4.out⟩
              case measure => simp [intOf]; omega
          · have hrf : r < fc := by omega
            have hne : ¬ (fc = r) := by omega
            obtain ⟨g, cap, e1, hgb⟩ := own_block HOM.out (by omega)
            injection e1 with e1 e2 e3
            subst e1
            subst e3
            clear e2
            have hul : r < vs.length := by have := HVL.out; omega
            obtain ⟨u, hu⟩ : ∃ u, u = vs[r] := ⟨_, rfl⟩
            have hcu : y2.cell? ⟨g, r, none⟩ = some u := ((row_since HOM.out hsr2).cellAt r (by omega)).trans (by rw [List.getElem?_eq_getElem hul, hu])
            have hdr : Hid (vs.drop r = [u]) := by unfold Hid; rw [List.drop_eq_getElem_cons hul, ← hu, List.drop_of_length_le (by have := HVL.out; omega)]
            obtain ⟨pp, rfl⟩ : ∃ pp, u = .pointer pp := HT.out.arePtrs u (by rw [hu]; exact List.getElem_mem hul)
            clear hu
            obtain ⟨⟨z0, z1⟩, z2, z3⟩ := BN.out.at6
            go_upto_region 15 with fail
            clear z0 z1 z2 z3 hcu
            have BN3 : Hid (Blk (y2.setCell ⟨w1.heap.size, 4, none⟩ (.pointer pp)) w1.heap.size 131 (ncells t (.pointer pp) (.pointer none))) := BN.out.set 4 (.pointer pp)
            have hsr3 : Since wr (y2.setCell ⟨w1.heap.size, 4, none⟩ (.pointer pp)) := hsr2.setCell HG.out _
            generalize y2.setCell ⟨w1.heap.size, 4, none⟩ (.pointer pp) = y3 at BN3 hsr3 ⊢
            have HS3 := Lib.hid (hsr3)
            have HN3 := Lib.hid (HNODE.out y3 (.pointer pp) (.pointer none) hsr3 BN3.out (by rw [hdr.out]; rfl) (by rw [hdr.out]; rfl))
            have HROW := Lib.hid (HRT.out y3 HS3.out)
            have HW3 := Lib.hid (HW.out.trans HS3.out)
            have HLT : Hid (w1.heap.size < y3.heap.size) := (BN3.out.lt)
            go_upto_region 16 with (at_builtin; go_must (refine append_cell_k rfl (.tmp 69) (.tmp 71) 125 rfl 76 (.pointer none) 8 Tryd.underlying125 info_ptr rfl (.slice (some ⟨g, 0, none⟩) r fc) r (vs.take r) rfl HROW.out HW3.out _ (by rfl) rfl (by omega) (by unfold maxLen; omega) ?_); intro v4 w4 ho4 hs4 hk4)
            have HO4 : Hid (OwnP w.heap.size w4 v4 (vs.take r ++ [.pointer (some ⟨w1.heap.size, 0, none⟩)])) := by unfold Hid OwnP; have hq : (vs.take r ++ [Value.pointer (some ⟨w1.heap.size, 0, none⟩)]).length = r + 1 := (by simp; have := HVL.out; omega); rw [hq]; exact ho4
            have HT4 := Lib.hid (HEND.out y3 w4 HS3.out HROW.out hk4 HLT.out ⟨_, BN3.out⟩ HN3.out)
            have HS4 := Lib.hid hs4
            clear ho4 hk4 hs4
            go_wp2
            go_roundw
            case rel => exact ⟨k + 1, _, _, by omega, by go_num, HO4.out, HT4.out, HPUSH.out, HS4.out⟩
            case measure => simp [intOf]; omega
          · have hrf : r + 1 < fc := by omega
            have hne : ¬ (fc = r) := by omega
            obtain ⟨g, cap, e1, hgb⟩ := own_block HOM.out (by omega)
            injection e1 with e1 e2 e3
            subst e1
            subst e3
            clear e2
            have hul : r < vs.length := by have := HVL.out; omega
            have hvl : r + 1 < vs.length := by have := HVL.out; omega
            obtain ⟨u, hu⟩ : ∃ u, u = vs[r] := ⟨_, rfl⟩
            obtain ⟨x, hx2⟩ : ∃ x, x = vs[r + 1] := ⟨_, rfl⟩
            have hcu : y2.cell? ⟨g, r, none⟩ = some u := ((row_since HOM.out hsr2).cellAt r (by omega)).trans (by rw [List.getElem?_eq_getElem hul, hu])
            have hcx : y2.cell? ⟨g, r + 1, none⟩ = some x := ((row_since HOM.out hsr2).cellAt (r + 1) (by omega)).trans (by rw [List.getElem?_eq_getElem hvl, hx2])
            have hdr : Hid (vs.drop r = [u, x]) := by unfold Hid; rw [List.drop_eq_getElem_cons hul, ← hu, List.drop_eq_getElem_cons hvl, ← hx2, List.drop_of_length_le (by have := HVL.out; omega)]
            obtain ⟨pp, rfl⟩ : ∃ pp, u = .pointer pp := HT.out.arePtrs u (by rw [hu]; exact List.getElem_mem hul)
            obtain ⟨px, rfl⟩ : ∃ pp, x = .pointer pp := HT.out.arePtrs x (by rw [hx2]; exact List.getElem_mem hvl)
            clear hu hx2
            obtain ⟨⟨z0, z1⟩, z2, z3⟩ := BN.out.at6
            go_upto_region 14 with fail
            go_region
            clear z0 z1 z2 z3 hcu hcx
            have BN3 : Hid (Blk (((y2.setCell ⟨w1.heap.size, 4, none⟩ (.pointer pp)).setCell ⟨w1.heap.size, 5, none⟩ (.pointer px)).drew) w1.heap.size 131 (ncells t (.pointer pp) (.pointer px))) := ((BN.out.set 4 (.pointer pp)).set 5 (.pointer px)).drew
            have hsr3 : Since wr (((y2.setCell ⟨w1.heap.size, 4, none⟩ (.pointer pp)).setCell ⟨w1.heap.size, 5, none⟩ (.pointer px)).drew) := ((hsr2.setCell HG.out _).setCell HG.out _).drew
            generalize ((y2.setCell ⟨w1.heap.size, 4, none⟩ (.pointer pp)).setCell ⟨w1.heap.size, 5, none⟩ (.pointer px)).drew = y3 at BN3 hsr3 ⊢
            have HS3 := Lib.hid (hsr3)
            have HN3 := Lib.hid (HNODE.out y3 (.pointer pp) (.pointer px) hsr3 BN3.out (by rw [hdr.out]; rfl) (by rw [hdr.out]; rfl))
            have HROW := Lib.hid (HRT.out y3 HS3.out)
            have HW3 := Lib.hid (HW.out.trans HS3.out)
            have HLT : Hid (w1.heap.size < y3.heap.size) := (BN3.out.lt)
            go_upto_region 16 with (at_builtin; go_must (refine append_cell_k rfl (.tmp 69) (.tmp 71) 125 rfl 76 (.pointer none) 8 Tryd.underlying125 info_ptr rfl (.slice (some ⟨g, 0, none⟩) r fc) r (vs.take r) rfl HROW.out HW3.out _ (by rfl) rfl (by omega) (by unfold maxLen; omega) ?_); intro v4 w4 ho4 hs4 hk4)
            have HO4 : Hid (OwnP w.heap.size w4 v4 (vs.take r ++ [.pointer (some ⟨w1.heap.size, 0, none⟩)])) := by unfold Hid OwnP; have hq : (vs.take r ++ [Value.pointer (some ⟨w1.heap.size, 0, none⟩)]).length = r + 1 := (by simp; have := HVL.out; omega); rw [hq]; exact ho4
            have HT4 := Lib.hid (HEND.out y3 w4 HS3.out HROW.out hk4 HLT.out ⟨_, BN3.out⟩ HN3.out)
            have HS4 := Lib.hid hs4
            clear ho4 hk4 hs4
            go_wp2
            go_roundw
            case rel => exact ⟨k + 1, _, _, by omega, by go_num, HO4.out, HT4.out, HPUSH.out, HS4.out⟩
            case measure => simp [intOf]; omega
    · obtain rfl : k = n := by omega
      have hfull : stk [] xs = some s := by
        have := HS.out
        rw [List.take_of_length_le (by have := HN.out; omega)] at this
        exact this
      by_cases h1 : m = 1
      · subst h1
        obtain ⟨g, cap, e1, hgb⟩ := own_block HOM.out (by omega)
        injection e1 with e1 e2 e3
        subst e1
        subst e3
        clear e2
        obtain ⟨T, hT⟩ : ∃ T, s = [T] := List.length_eq_one_iff.1 HM.out.symm
        subst hT
        obtain ⟨u, hu⟩ : ∃ u, vs = [u] := List.length_eq_one_iff.1 HVL.out
        subst hu
        have hT1 := treeT_one hfull
        have hTA : Hid (TreeAt wr T w.heap.size wr.heap.size u) := by
          obtain ⟨m, m1, m2, h3, h4⟩ := HT.out
          exact h3.wider (Nat.le_refl _) m2
        have hcu : wr.cell? ⟨g, 0, none⟩ = some u := HOM.out.cellAt 0 (by omega)
        have HT1 := Lib.hid hT1
        clear hT1 hfull
        obtain ⟨pp, rfl⟩ := hTA.out.isPtr
        go_wp2
        go_ret
        exact ⟨_, rfl, by rw [HT1.out]; exact hTA.out, HW.out⟩
      · have HNIL := Lib.hid (treeT_many hfull (by rw [← HM.out]; exact h1))
        have hne : ((m : Int) != 1) = true := by simp; omega
        have hm9 : m ≤ 1048577 := by have := stk_len hfull; have := HM.out; have := HN.out; simp at *; omega
        clear hfull h1
        go_wp2
        go_ret
        exact ⟨_, rfl, by rw [HNIL.out]; rfl, HW.out⟩
end Go.Proofs.YtblmiocjhbpklaaDoor
