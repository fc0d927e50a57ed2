/- The live and the reached states of an automaton, the model's and the program's. -/
import Derived.Test.YtcokggjekleabaaAuL
import Derived.Test.YtcokggjekleabaaAuR
import Derived.Test.YtcokggjekleabaaCopyLaw
import Derived.Test.YtcokggjekleabaaK1
namespace Go.Proofs.Ytcokggjekleabaa
set_option maxRecDepth 100000
open Go.ChangeShapes Go.WideShapes Go.ChangeAt Go.RowKit
set_option linter.unusedVariables false
set_option linter.unusedSimpArgs false

theorem bos_src {w : World} {ao : Option Addr} {n cap : Nat} {xs : List Bool} (h : BosAt w (.slice ao n cap) xs) : SrcAt w ao (xs.map tcell) ∧ n = xs.length := by
  obtain ⟨ao', cap', e, HC⟩ := h
  injection e with e1 e2 e3
  subst e1 e2 e3
  refine ⟨fun h0 => ?_, rfl⟩
  obtain ⟨b, off, e, _, _⟩ := HC.out 0 (by simpa using h0)
  refine ⟨⟨b, off, none⟩, e, fun j u hu => ?_⟩
  rw [List.getElem?_map] at hu
  obtain ⟨x, hx, rfl⟩ := Option.map_eq_some_iff.1 hu
  obtain ⟨hj, rfl⟩ := List.getElem?_eq_some_iff.1 hx
  obtain ⟨b', off', e', _, hc⟩ := HC.out j hj
  rw [e] at e'; injection e' with e'; injection e' with e1 e2; subst e1; subst e2
  rw [add_plain]; exact hc
theorem bol_lit (w w1 : World) (h : Since w w1) (b : Nat) (hb : b = w1.heap.size) : OwnBo w.heap.size (w1.alloc (.cells #[] 4)) (.slice (some ⟨b, 0, none⟩) 0 0) [] := by
  subst hb; exact World.ownsRow_lit w1 #[] 0 h.size (Nat.zero_le _) rfl
theorem run_append_bools (w : World) (base : Nat) (ty : TypeId) (v : Value) (xs : List Bool) (hown : OwnBo base w v xs) (ao : Option Addr) (m c : Nat) (ys : List Bool) (hy : BosAt w (.slice ao m c) ys)
    (hlen : xs.length + ys.length ≤ 4194304) (hbase : base ≤ w.heap.size) :
    ∃ v' w', (Builtin.append_ #[24, 24] ty #[v, .slice ao m c]).run Try.prog w = .ok v' w' ∧ OwnBo base w' v' (xs ++ ys) ∧ w.grownBy w' v.ownBlock ∧ (v'.ownBlock = v.ownBlock ∨ v'.ownBlock = some w.heap.size) := by
  obtain ⟨hs, rfl⟩ := bos_src hy
  obtain ⟨v', w', hr, h1, h2, h3⟩ := run_append_src w base 24 ty 4 (.bool false) 1 1 Try.underlying24 info_boolB rfl (by decide) v xs.length (xs.map tcell) hown ao ys.length c (ys.map tcell) (by simp) hs
    (by intro u hu; obtain ⟨x, _, rfl⟩ := List.mem_map.1 hu; rfl) (by unfold maxLen; omega) (by omega) hbase
  exact ⟨v', w', hr, by unfold OwnBo; rw [List.length_append, List.map_append]; exact h1, h2, h3⟩
theorem wpList_append_bools {w : World} {ops : Array Oper} {rest : List Oper} {o : Oper} {a : Act} {Q : Exit → Act → World → Prop} (hgd : o.guard = none) (s x : Operand)
    (ho : o.op = .call { callee := .builtin .append, args := #[s, x], argTypes := #[24, 24] }) (base : Nat) (v : Value) (xs : List Bool) (hs : a.eval s = v) (hown : OwnBo base w v xs) (ao : Option Addr) (m c : Nat) (hx : a.eval x = .slice ao m c)
    (ys : List Bool) (hy : BosAt w (.slice ao m c) ys) (hlen : xs.length + ys.length ≤ 4194304) (hbase : base ≤ w.heap.size)
    (h : ∀ v' w', OwnBo base w' v' (xs ++ ys) → w.grownBy w' v.ownBlock → (v'.ownBlock = v.ownBlock ∨ v'.ownBlock = some w.heap.size) → wpList Try.prog ops Q rest (a.put o.dst v') w') : wpList Try.prog ops Q (o :: rest) a w :=
  wpList_plain hgd fun _ hK => by
    obtain ⟨v', w', hr, h1, h2, h3⟩ := run_append_bools w base o.type v xs hown ao m c ys hy hlen hbase
    exact wp_of_run_append s x _ ho v _ v' w' hs hx hr (hK _ _ (h v' w' h1 h2 h3))
theorem size_boolB : (Try.prog.info? 4).map (·.size) = some 1 := by kernel_rfl
theorem wpList_copyBo {w : World} {ops : Array Oper} {rest : List Oper} {o : Oper} {a : Act} {Q : Exit → Act → World → Prop} (hgd : o.guard = none) (d s : Operand)
    (ho : o.op = .call { callee := .builtin .copy, args := #[d, s], argTypes := #[24, 24] }) (base g n cap : Nat) (zs : List Value) (hd : a.eval d = .slice (some ⟨g, 0, none⟩) n cap) (hown : w.ownsRow base 4 1 (.slice (some ⟨g, 0, none⟩) n cap) n zs)
    (ao : Option Addr) (k c : Nat) (hs : a.eval s = .slice ao n c) (xs : List Bool) (hx : BosAt w (.slice ao n c) xs) (hn : xs.length = n)
    (h : ∀ w', OwnBo base w' (.slice (some ⟨g, 0, none⟩) n cap) xs → w.grownBy w' (some g) → wpList Try.prog ops Q rest (a.put o.dst (goInt n)) w') : wpList Try.prog ops Q (o :: rest) a w := by
  obtain ⟨hsrc, _⟩ := bos_src hx
  obtain ⟨w', hr, h2, h3⟩ := run_copy_full w 24 o.type 4 1 (by decide) Try.underlying24 size_boolB base g n cap zs hown ao c (xs.map tcell) (by simp [hn]) hsrc (by intro u hu; obtain ⟨x, _, rfl⟩ := List.mem_map.1 hu; rfl)
  exact wpList_of_run_copy hgd d s _ ho _ _ n w' hd hs hr (h w' (by unfold OwnBo; rw [hn]; exact h2) h3)
/-- A row of truth values whose place is known. -/
theorem OwnBo.row {base : Nat} {w : World} {v : Value} {b : List Bool} (h : OwnBo base w v b) (hn : 0 < b.length) : ∃ g cap, v = .slice (some ⟨g, 0, none⟩) b.length cap ∧ base ≤ g ∧ g < w.heap.size := by
  obtain ⟨g, cap, e, hg⟩ := own_block h hn
  exact ⟨g, cap, e, hg, (h.lt g (by rw [e]; rfl)).2⟩
theorem OwnBo.cellB {base g cap n : Nat} {w : World} {b : List Bool} (h : OwnBo base w (.slice (some ⟨g, 0, none⟩) n cap) b) (hn : n = b.length) (s : Nat) (hs : s < b.length) : w.cell? ⟨g, s, none⟩ = some (.bool (at0 b s)) ∧ w.frozen? ⟨g, s, none⟩ = false := by
  subst hn
  have h' : w.ownsRow base 4 1 (.slice (some ⟨g, 0, none⟩) b.length cap) b.length (b.map tcell) := h
  refine ⟨?_, h'.frozenAt s⟩
  rw [h'.cellAt s (by omega), at0_get b s hs]
  simp [hs, tcell]
theorem OwnBo.setB {base g cap n : Nat} {w : World} {b : List Bool} (h : OwnBo base w (.slice (some ⟨g, 0, none⟩) n cap) b) (hn : n = b.length) (s : Nat) : OwnBo base (w.setCell ⟨g, s, none⟩ (.bool true)) (.slice (some ⟨g, 0, none⟩) n cap) (b.set s true) := by
  subst hn
  have h' : w.ownsRow base 4 1 (.slice (some ⟨g, 0, none⟩) b.length cap) b.length (b.map tcell) := h
  have := (h'.stored s (.bool true)).1
  unfold OwnBo
  rw [List.length_set, List.map_set]
  exact this
def BoRow (w : World) (v : Value) (w' : World) (b : List Bool) : Prop := OwnBo w.heap.size w' v b ∧ Since w w'
set_option maxRecDepth 100000 in
theorem copiedBo_any (v : Value) (xs : List Bool) (w : World) (h : BosAt w v xs) (hl : xs.length ≤ 1048577) :
    Calls Try.prog 140 #[v] w (BoOut w xs) := by
  have HA := Lib.hid h
  obtain ⟨ao, ac, rfl⟩ := h.len
  clear h
  obtain ⟨i0, hi, hz0, hz1, hz2⟩ := info_parts info_boolB
  have HZ2 := Lib.hid hz2
  clear hz2
  obtain ⟨n, hn⟩ : ∃ n, n = xs.length := ⟨_, rfl⟩
  rw [← hn] at HA
  rw [← hn]
  have hn9 : n ≤ 1048577 := by omega
  have HN := Lib.hid hn
  clear hn hl
  go_enter Try.func140, Try.ntmps140
  go_wp2_with (first
    | (at_make; go_must (refine wpList_make_full _ rfl _ _ 24 rfl w.heap.size 4 i0 (.bool false) 1 Try.underlying24 hi hz0 hz1 .i64 .i64 _ _ n rfl rfl rfl rfl (by rw [HZ2.out]; omega) (by unfold maxLen; omega) (Nat.le_refl _) ?_); intro w1 hown hgrow)
    | (refine wpList_copyBo (o := ⟨some 9, _, _, _, _, _⟩) rfl (.tmp 7) (.tmp 8) rfl w.heap.size w.heap.size n n _ rfl hown ao n ac rfl xs (HA.out.since ((Since.refl w).grown hgrow (fun _ h => by simp at h))) HN.out.symm ?_; intro w2 ho2 hg2))
  have hsin : Since w w1 := (Since.refl w).grown hgrow (fun _ h => by simp at h)
  have hs2 := hsin.grown hg2 (fun k hk => by injection hk with hk; omega)
  have HO2 := Lib.hid ho2
  clear ho2 hg2 hown hgrow
  go_wp2
  go_ret
  exact ⟨_, rfl, HO2.out, hs2⟩
/-- Whether a letter leads from s to a state of b. -/
def leadsB (A : Aut) (s : Nat) (b : List Bool) : Bool := (List.range 9).any fun k => match tgt A s k with | some t => at0 b t | none => false
theorem leadsB_true {A : Aut} {s k t : Nat} {b : List Bool} (hk : k < 9) (h : tgt A s k = some t) (hb : at0 b t = true) : leadsB A s b = true := by
  unfold leadsB
  rw [List.any_eq_true]
  exact ⟨k, List.mem_range.2 hk, by rw [h]; exact hb⟩
theorem leadsB_false {A : Aut} {s : Nat} {b : List Bool} (h : ∀ k, k < 9 → ∀ t, tgt A s k = some t → at0 b t = false) : leadsB A s b = false := by
  unfold leadsB
  rw [List.any_eq_false]
  intro k hk
  cases e : tgt A s k with
  | none => simp
  | some t => simp [h k (List.mem_range.1 hk) t e]
theorem leadsB_cases (A : Aut) (s : Nat) (b : List Bool) : (leadsB A s b = true ∧ ∃ k t, k < 9 ∧ tgt A s k = some t ∧ at0 b t = true) ∨ (leadsB A s b = false ∧ ∀ k, k < 9 → ∀ t, tgt A s k = some t → at0 b t = false) := by
  cases e : leadsB A s b with
  | true =>
    unfold leadsB at e
    rw [List.any_eq_true] at e
    obtain ⟨k, hk, h⟩ := e
    cases e2 : tgt A s k with
    | none => rw [e2] at h; cases h
    | some t => rw [e2] at h; exact .inl ⟨rfl, k, t, List.mem_range.1 hk, e2, h⟩
  | false =>
    refine .inr ⟨rfl, fun k hk t ht => ?_⟩
    cases h : at0 b t with
    | false => rfl
    | true => rw [leadsB_true hk ht h] at e; cases e
set_option maxHeartbeats 2000000 in
set_option maxRecDepth 100000 in
theorem leadsTo_any (v : Value) (A : Aut) (s : Nat) (base g cap : Nat) (b : List Bool) (w : World) (h : AutAt w v A) (hv : ValidA A) (hs : s < A.ac.length) (hb : b.length = A.ac.length) (ho : OwnBo base w (.slice (some ⟨g, 0, none⟩) A.ac.length cap) b) :
    Calls Try.prog 141 #[v, .int .i64 s, .slice (some ⟨g, 0, none⟩) A.ac.length cap] w fun e w' => e = .returned (.bool (leadsB A s b)) ∧ Since w w' := by
  obtain ⟨a1, b1, rfl, _, ha, hb1⟩ := h
  obtain ⟨ao, ca, rfl⟩ := ha.len
  obtain ⟨bo, cb, rfl, HC⟩ := hb1
  clear ha
  obtain ⟨c1, o1, c2, o2, cc, rfl, hc1, hcell, hc2, hcs⟩ := next_cells hv HC s hs
  have HCS := Lib.hid hcs
  have HV := Lib.hid hv
  have HO := Lib.hid ho
  have hnm : A.nx.length = A.ac.length := hv.2.1
  have hn12 := hv.1
  rw [hnm]
  clear hv ho hcs HC hnm
  have hg := (HO.out.lt g rfl).2
  obtain ⟨n, hn⟩ : ∃ n, n = A.ac.length := ⟨_, rfl⟩
  rw [← hn] at hs hn12 HO ⊢
  have HN := Lib.hid hn
  have HB : Hid (b.length = n) := by rw [hn]; exact hb
  clear hn hb
  obtain ⟨y, hy⟩ : ∃ y, y = w.alloc (.cells #[.int .i64 A.st, .slice ao n ca, .slice (some ⟨c1, o1, none⟩) n cb] 27) := ⟨_, rfl⟩
  have hs0 : Since w y := by rw [hy]; exact (Since.refl w).alloc _
  have B0 : Hid (Blk y w.heap.size 27 #[.int .i64 A.st, .slice ao n ca, .slice (some ⟨c1, o1, none⟩) n cb]) := by rw [hy]; exact Blk.new rfl _ _
  have hcell2 : y.cell? ⟨c1, o1 + s, none⟩ = some (.slice (some ⟨c2, o2, none⟩) 9 cc) := (Below.cell hs0 (p := ⟨c1, o1 + s, none⟩) hc1).trans hcell
  obtain ⟨⟨p0, p1, p2⟩, _⟩ := B0.out.threeA
  rw [hy] at p0 p1 p2 hcell2
  have hsi : (s : Int) < (n : Int) := by omega
  have hs0i : (0 : Int) ≤ (s : Int) := by omega
  have HY := Lib.hid hy
  clear hy hcell
  go_enter Try.func141, Try.ntmps141
  go_wp2
  rw [← HY.out]
  clear p0 p1 p2 hcell2
  go_loopw [15] (fun i wr => ∃ k : Nat, k ≤ 9 ∧ i = .int .i64 k ∧ Hid (∀ j, j < k → ∀ t, tgt A s j = some t → at0 b t = false) ∧ wr = y) (fun i _ => 9 - (intOf i).toNat)
  case atStart => exact ⟨0, Nat.zero_le _, rfl, fun j hj => by omega, rfl⟩
  case round =>
    obtain ⟨k, hk, rfl, HJ, rfl⟩ := hrel
    by_cases hlt : k < 9
    · have hki : (k : Int) < 9 := by omega
      have hcz := HCS.out k hlt
      obtain ⟨q, hq⟩ : ∃ q, q = nextA A.nx s k := ⟨_, rfl⟩
      rw [← hq] at hcz
      have f2 : wr.cell? ⟨c2, o2 + k, none⟩ = some (.int .i64 q) := (Below.cell hs0 (p := ⟨c2, o2 + k, none⟩) hc2).trans hcz
      have hst := nextA_in HV.out (s : Int) (k : Int) ⟨hs0i, by rw [← HN.out]; omega⟩ (by simp [inB]; omega)
      obtain ⟨_, _, _, hb5, hb6⟩ := hst
      rw [← hq] at hb5 hb6
      rw [← HN.out] at hb6
      have HQ := Lib.hid hq
      clear hq hcz
      by_cases e1 : q = -1
      · subst e1
        have HJ2 : Hid (∀ j, j < k + 1 → ∀ t, tgt A s j = some t → at0 b t = false) := by
          intro j hj t ht
          by_cases e : j = k
          · subst e
            rw [tgt_none (by rw [← HQ.out]; decide)] at ht; cases ht
          · exact HJ.out j (by omega) t ht
        go_wp2
        go_roundw
        case rel => exact ⟨k + 1, by omega, by go_num, HJ2, by first | exact rfl | trivial⟩
        case measure => simp [intOf]; omega
      · have e2 : (q != -1) = true := by simpa using e1
        obtain ⟨t, rfl⟩ : ∃ t : Nat, q = t := ⟨q.toNat, by omega⟩
        have htn : t < n := by omega
        have hti : (t : Int) < (n : Int) := by omega
        have ht0 : (0 : Int) ≤ (t : Int) := by omega
        have HT : Hid (tgt A s k = some t) := tgt_some (by rw [← HN.out]; exact hs) HQ.out.symm (by rw [← HN.out]; exact htn)
        have hcb := (HO.out.since hs0).cellB HB.out.symm t (by rw [HB.out]; exact htn)
        obtain ⟨d1, _⟩ := hcb
        clear e1
        cases e3 : at0 b t with
        | true =>
          have HF : Hid (leadsB A s b = true) := leadsB_true hlt HT.out e3
          rw [e3] at d1
          clear e3
          go_wp2
          go_ret
          exact ⟨ret_bool HF.out.symm, hs0⟩
        | false =>
          have HJ2 : Hid (∀ j, j < k + 1 → ∀ t, tgt A s j = some t → at0 b t = false) := by
            intro j hj u hu
            by_cases e : j = k
            · subst e
              rw [HT.out] at hu; injection hu with hu; subst hu; exact e3
            · exact HJ.out j (by omega) u hu
          rw [e3] at d1
          clear e3
          go_wp2
          go_roundw
          case rel => exact ⟨k + 1, by omega, by go_num, HJ2, by first | exact rfl | trivial⟩
          case measure => simp [intOf]; omega
    · have hk9 : k = 9 := by omega
      subst hk9
      have HF : Hid (leadsB A s b = false) := leadsB_false HJ.out
      go_wp2
      go_ret
      exact ⟨ret_bool HF.out.symm, hs0⟩
end Go.Proofs.Ytcokggjekleabaa
