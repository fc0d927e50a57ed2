/- Valid, VgS, VgI, VgWalk, Ei: small words and contracts that the other texts use. -/
import Derived.Test.YtpmkpeclfhmhlaaDoorK1
import Derived.Test.YtpmkpeclfhmhlaaDoorK0
import Derived.IntWalk
/- Which edges and graphs are valid: the model's tests and the program's. -/
namespace Go.Proofs.YtpmkpeclfhmhlaaDoor
set_option maxRecDepth 100000
open Go.ChangeShapes Go.WideShapes Go.ChangeAt Go.RowKit
set_option linter.unusedVariables false

theorem isValue_any (x : Int) (w : World) : Calls Tryd.prog 58 #[.int .i64 x] w fun e w' => e = .returned (.bool (inB x 0 2)) ∧ w = w' := by
  by_cases h : 0 ≤ x
  · go_enter Tryd.func58, Tryd.ntmps58
    go_wp2
    go_ret
    exact ⟨ret_bool (by simp [inB]; omega), rfl⟩
  · go_enter Tryd.func58, Tryd.ntmps58
    go_wp2
    go_ret
    exact ⟨ret_bool (by simp [inB]; omega), rfl⟩
theorem inB_node (x : Int) (n : Nat) (h : 0 ≤ x) : decide (x < (n : Int)) = inB x 0 ((n : Int) - 1) := by
  unfold inB; rw [Bool.eq_iff_iff]; simp; omega
theorem inB_lb (x : Int) (h : 0 ≤ x) : decide (x < 3) = inB x 0 2 := by
  unfold inB; rw [Bool.eq_iff_iff]; simp; omega
theorem isNode_any (x : Int) (n : Nat) (w : World) : Calls Tryd.prog 51 #[.int .i64 x, .int .i64 (n : Int)] w fun e w' => e = .returned (.bool (inB x 0 ((n : Int) - 1))) ∧ w = w' := by
  by_cases h : 0 ≤ x
  · go_enter Tryd.func51, Tryd.ntmps51
    go_wp2
    go_ret
    exact ⟨ret_bool (inB_node x n h), rfl⟩
  · go_enter Tryd.func51, Tryd.ntmps51
    go_wp2
    go_ret
    exact ⟨ret_bool (inB_false (by omega)).symm, rfl⟩
theorem edB_cases (n : Nat) (e : Edg) :
    (inB e.id 1 99 = false ∧ edB n e = false) ∨ (inB e.id 1 99 = true ∧ inB e.fr 0 ((n : Int) - 1) = false ∧ edB n e = false) ∨
    (inB e.id 1 99 = true ∧ inB e.fr 0 ((n : Int) - 1) = true ∧ inB e.to 0 ((n : Int) - 1) = false ∧ edB n e = false) ∨
    (inB e.id 1 99 = true ∧ inB e.fr 0 ((n : Int) - 1) = true ∧ inB e.to 0 ((n : Int) - 1) = true ∧ edB n e = inB e.lb 0 2) := by
  rw [edB_split n e _ rfl]
  cases inB e.id 1 99 <;> cases inB e.fr 0 ((n : Int) - 1) <;> cases inB e.to 0 ((n : Int) - 1) <;> simp
set_option maxRecDepth 100000 in
theorem l3Edge_any (v : Value) (g : Grf) (e : Edg) (w : World) (h : GrfAt w v g) (h1 : g.vs.length ≤ maxLen) :
    Calls Tryd.prog 57 #[v, ev e] w fun en w' => en = .returned (.bool (edB g.vs.length e)) ∧ Since w w' := by
  unfold maxLen at h1
  obtain ⟨a, b, rfl, ha, hb⟩ := h
  obtain ⟨ao, ac, rfl, _⟩ := ha.row
  obtain ⟨bo, bc, rfl⟩ := hb.len
  clear ha hb
  obtain ⟨n, hn⟩ : ∃ n, n = g.vs.length := ⟨_, rfl⟩
  obtain ⟨m, hm⟩ : ∃ m, m = g.es.length := ⟨_, rfl⟩
  rw [← hn] at h1 ⊢
  rw [← hm]
  clear hn hm
  have hs0 : Since w ((w.alloc (.cells #[.slice ao n ac, .slice bo m bc] 40)).alloc (.cells #[.int .i64 e.id, .int .i64 e.fr, .int .i64 e.to, .int .i64 e.lb] 25)) := ((Since.refl w).alloc _).alloc _
  rcases edB_cases n e with ⟨c1, c⟩ | ⟨c1, c2, c⟩ | ⟨c1, c2, c3, c⟩ | ⟨c1, c2, c3, c⟩
  all_goals
    have C := Lib.hid c
    clear c
    go_enter Tryd.func57, Tryd.ntmps57
    go_wp2_with (go_at_call 22; refine (l1In_any _ _ _ _).mono ?_; rintro e w' ⟨rfl, rfl⟩)
    go_ret
    exact ⟨ret_bool C.out.symm, hs0⟩
theorem isEdgeID_any (x : Int) (w : World) : Calls Tryd.prog 50 #[.int .i64 x] w fun e w' => e = .returned (.bool (inB x 1 99)) ∧ w = w' := by
  by_cases d1 : 1 ≤ x
  · by_cases d2 : x ≤ 99
    · have C := Lib.hid (inB_true d1 d2)
      go_enter Tryd.func50, Tryd.ntmps50
      go_wp2
      go_ret
      exact ⟨ret_bool C.out.symm, rfl⟩
    · have C : Hid (inB x 1 99 = false) := inB_false (by omega)
      go_enter Tryd.func50, Tryd.ntmps50
      go_wp2
      go_ret
      exact ⟨ret_bool C.out.symm, rfl⟩
  · have C : Hid (inB x 1 99 = false) := inB_false (by omega)
    go_enter Tryd.func50, Tryd.ntmps50
    go_wp2
    go_ret
    exact ⟨ret_bool C.out.symm, rfl⟩
set_option maxRecDepth 100000 in
theorem isEdge_any (e : Edg) (n : Nat) (w : World) :
    Calls Tryd.prog 25 #[ev e, .int .i64 (n : Int)] w fun en w' => en = .returned (.bool (edB n e)) ∧ Since w w' := by
  have hs0 : Since w (w.alloc (.cells #[.int .i64 e.id, .int .i64 e.fr, .int .i64 e.to, .int .i64 e.lb] 25)) := (Since.refl w).alloc _
  by_cases d3 : 0 ≤ e.lb
  all_goals
    rcases edB_cases n e with ⟨c1, c⟩ | ⟨c1, c2, c⟩ | ⟨c1, c2, c3, c⟩ | ⟨c1, c2, c3, c⟩
    all_goals
      have C := Lib.hid c
      clear c
      go_enter Tryd.func25, Tryd.ntmps25
      go_wp2_with (first | (go_at_call 50; refine (isEdgeID_any _ _).mono ?_; rintro e w' ⟨rfl, rfl⟩) | (go_at_call 51; refine (isNode_any _ _ _).mono ?_; rintro e w' ⟨rfl, rfl⟩))
      go_ret
      exact ⟨ret_bool (by first | (rw [C.out]; done) | (rw [C.out]; exact inB_lb _ d3) | (rw [C.out, inB_false (by omega)])), hs0⟩
theorem l3Edge_is (v : Value) (g : Grf) (e : Edg) (c : Bool) (w : World) (h : GrfAt w v g) (h1 : g.vs.length ≤ maxLen) (hc : edB g.vs.length e = c) :
    Calls Tryd.prog 57 #[v, ev e] w fun en w' => en = .returned (.bool c) ∧ Since w w' := by subst hc; exact l3Edge_any v g e w h h1
theorem isEdge_is (e : Edg) (n : Nat) (c : Bool) (w : World) (hc : edB n e = c) :
    Calls Tryd.prog 25 #[ev e, .int .i64 (n : Int)] w fun en w' => en = .returned (.bool c) ∧ Since w w' := by subst hc; exact isEdge_any e n w
end Go.Proofs.YtpmkpeclfhmhlaaDoor

/- IsValidGraph, the model's. -/
namespace Go.Proofs.YtpmkpeclfhmhlaaDoor
set_option maxRecDepth 100000
open Go.ChangeShapes Go.WideShapes Go.ChangeAt Go.RowKit
set_option linter.unusedVariables false
set_option linter.unusedSimpArgs false

theorem valid_all {g : Grf} (h1 : ∀ x ∈ g.vs, inB x 0 2 = true) (h2 : ∀ e ∈ g.es, edB g.vs.length e = true) (h3 : g.es.Pairwise idLt) : validB g = (inB (g.vs.length : Int) 1 5 && decide (g.es.length ≤ 12)) := by
  rw [Bool.eq_iff_iff, validB_iff]
  unfold Valid inB
  simp only [Bool.and_eq_true, decide_eq_true_eq]
  constructor
  · intro h; obtain ⟨⟨a, b, c⟩, _⟩ := h; omega
  · intro h
    refine ⟨by omega, fun x hx => ?_, fun e he => (edB_iff _ _).1 (h2 e he), h3⟩
    have := h1 x hx
    unfold inB at this; simpa using this
theorem valid_bad_v {g : Grf} {k : Nat} (hk : k < g.vs.length) (h : inB g.vs[k] 0 2 = false) : validB g = false := by
  refine validB_false (fun hv => ?_)
  have := hv.2.1 _ (List.getElem_mem hk)
  rw [inB_true this.1 this.2] at h; cases h
theorem valid_bad_e {g : Grf} {k : Nat} (hk : k < g.es.length) (h : edB g.vs.length g.es[k] = false) : validB g = false := by
  refine validB_false (fun hv => ?_)
  have := hv.2.2.1 _ (List.getElem_mem hk)
  rw [edB_true this] at h; cases h
theorem valid_bad_o {g : Grf} {k : Nat} (hk : k < g.es.length) (h0 : 0 < k) (h : (g.es[k]).id ≤ (g.es[k - 1]'(by omega)).id) : validB g = false :=
  validB_false (fun hv => asc_not hk h0 h hv.2.2.2)

set_option maxHeartbeats 2000000 in
set_option maxRecDepth 100000 in
theorem specVG_any (v : Value) (g : Grf) (w : World) (h : GrfAt w v g) (h1 : g.vs.length ≤ 1048577) (h2 : g.es.length ≤ 1048577) :
    Calls Tryd.prog 36 #[v] w fun e w' => e = .returned (.bool (validB g)) ∧ Since w w' := by
  have HG := Lib.hid h
  obtain ⟨a, b, rfl, ha, hb⟩ := h
  obtain ⟨ao, ac, rfl, HV⟩ := ha.row
  obtain ⟨bo, bc, rfl, HE⟩ := hb.row
  clear ha hb
  obtain ⟨n, hn⟩ : ∃ n, n = g.vs.length := ⟨_, rfl⟩
  obtain ⟨m, hm⟩ : ∃ m, m = g.es.length := ⟨_, rfl⟩
  rw [← hn, ← hm] at HG ⊢
  have hn9 : n ≤ 1048577 := by omega
  have hm9 : m ≤ 1048577 := by omega
  have HN := Lib.hid hn
  have HM := Lib.hid hm
  have hmx : g.vs.length ≤ maxLen := by unfold maxLen; omega
  clear hn hm h1 h2
  have hs0 : Since w (w.alloc (.cells #[.slice ao n ac, .slice bo m bc] 40)) := (Since.refl w).alloc _
  have HB : Hid (Blk (w.alloc (.cells #[.slice ao n ac, .slice bo m bc] 40)) w.heap.size 40 #[.slice ao n ac, .slice bo m bc]) := Blk.new rfl _ _
  go_enter Tryd.func36, Tryd.ntmps36
  go_wp2
  go_loop [3] (fun i => ∃ k : Nat, k ≤ n ∧ i = .int .i64 k ∧ Hid (∀ x ∈ g.vs.take k, inB x 0 2 = true)) (fun i => n - (intOf i).toNat)
  case atStart => exact ⟨0, Nat.zero_le _, rfl, fun x hx => by simp at hx⟩
  case round =>
    obtain ⟨k, hk, rfl, HT⟩ := hrel
    by_cases hlt : k < n
    · have hx : k < g.vs.length := by have := HN.out; omega
      obtain ⟨bv, ov, rfl, hbv, cv⟩ := HV.out k hx
      rw [← since_cells hs0 hbv] at cv
      by_cases hg : inB g.vs[k] 0 2 = true
      · have HT2 := Lib.hid (all_take_step (P := fun x => inB x 0 2 = true) hx HT.out hg)
        go_wp2_with (go_at_call 22; refine (l1In_any _ _ _ _).mono ?_; rintro e w' ⟨rfl, rfl⟩)
        go_round
        case rel => exact ⟨k + 1, by omega, by go_num, HT2⟩
        case measure => simp [intOf]; omega
      · have hg2 : inB g.vs[k] 0 2 = false := by simpa using hg
        have HX := Lib.hid (valid_bad_v hx hg2)
        clear hg
        go_wp2_with (go_at_call 22; refine (l1In_any _ _ _ _).mono ?_; rintro e w' ⟨rfl, rfl⟩)
        go_ret
        exact ⟨ret_bool HX.out.symm, hs0⟩
    · obtain rfl : k = n := by omega
      have HT2 : Hid (∀ x ∈ g.vs, inB x 0 2 = true) := by
        have := HT.out
        rw [List.take_of_length_le (by have := HN.out; omega)] at this
        exact this
      clear HT
      go_wp2_with fail
      go_loopw [4] (fun i wr => ∃ j : Nat, j ≤ m ∧ i = .int .i64 j ∧ Hid (∀ e ∈ g.es.take j, edB g.vs.length e = true) ∧ Hid ((g.es.take j).Pairwise idLt) ∧ Hid (Since (w.alloc (.cells #[.slice ao k ac, .slice bo m bc] 40)) wr)) (fun i _ => m - (intOf i).toNat)
      case atStart => exact ⟨0, Nat.zero_le _, rfl, fun x hx => by simp at hx, by unfold Hid; simp, Since.refl _⟩
      case round =>
        obtain ⟨j, hj, rfl, HA, HP, HS⟩ := hrel
        have b0 := HB.out.since HS.out
        obtain ⟨p0, p1, _, _⟩ := b0.two
        clear b0
        by_cases hlt2 : j < m
        · have hx : j < g.es.length := by have := HM.out; omega
          obtain ⟨be, oe, rfl, hbe, c0, c1, c2, c3⟩ := HE.out j hx
          have hsw := hs0.trans HS.out
          have s1 := since_cells hsw hbe
          rw [← s1] at c0 c1 c2 c3
          have HKC : Hid (∀ w', Since wr w' → w'.cell? ⟨w.heap.size, 0, none⟩ = some (.slice ao k ac) ∧ w'.cell? ⟨w.heap.size, 1, none⟩ = some (.slice (some ⟨be, oe, none⟩) m bc) ∧
              w'.cell? ⟨be, oe + j * 4, none⟩ = some (.int .i64 g.es[j].id) ∧ w'.cell? ⟨be, oe + j * 4 + 1, none⟩ = some (.int .i64 g.es[j].fr) ∧ w'.cell? ⟨be, oe + j * 4 + 2, none⟩ = some (.int .i64 g.es[j].to) ∧ w'.cell? ⟨be, oe + j * 4 + 3, none⟩ = some (.int .i64 g.es[j].lb)) := by
            intro w' hs
            have t1 := since_cells hs (b := be) (Nat.lt_of_lt_of_le hbe hsw.size)
            obtain ⟨q0, q1, _, _⟩ := ((HB.out.since HS.out).since hs).two
            exact ⟨q0, q1, (t1 _).trans c0, (t1 _).trans c1, (t1 _).trans c2, (t1 _).trans c3⟩
          clear s1 hsw
          by_cases hed : edB g.vs.length g.es[j] = true
          · have HA2 := Lib.hid (all_take_step (P := fun e => edB g.vs.length e = true) hx HA.out hed)
            by_cases hj0 : j = 0
            · have HP2 := Lib.hid (asc_step hx HP.out (fun h0 => by omega))
              have hdz : decide ((0 : Int) < (j : Int)) = false := by subst hj0; rfl
              have hdy : decide (0 < j) = false := by subst hj0; rfl
              have HJ0 := Lib.hid hj0
              clear hj0
              go_wp2_with fail
              refine wp_region_held_drew (S := (fun w' => w'.cell? ⟨w.heap.size, 0, none⟩ = some (.slice ao k ac) ∧ w'.cell? ⟨w.heap.size, 1, none⟩ = some (.slice (some ⟨be, oe, none⟩) m bc) ∧
              w'.cell? ⟨be, oe + j * 4, none⟩ = some (.int .i64 g.es[j].id) ∧ w'.cell? ⟨be, oe + j * 4 + 1, none⟩ = some (.int .i64 g.es[j].fr) ∧ w'.cell? ⟨be, oe + j * 4 + 2, none⟩ = some (.int .i64 g.es[j].to) ∧ w'.cell? ⟨be, oe + j * 4 + 3, none⟩ = some (.int .i64 g.es[j].lb))) (by kernel_rfl) (HKC.out _ (Since.refl _).drew) (fun hHeld => ?_)
              refine take_yes 0 (some 26) (v := ?_) rfl (by kernel_rfl) (by kernel_rfl) (by kernel_rfl) (by kernel_rfl) (fun _ _ _ h => h) (by rfl) (by assumption) ?_ ?_
              rotate_left
              · (intro w' hSw; (try dsimp only at hSw); go_simp; try with_reducible rfl)
              try simp only [Act.put, List.setIfInBounds_toArray, List.set_cons_zero, List.set_cons_succ]
              refine take_yes 1 (some 27) (v := ?_) rfl (by kernel_rfl) (by kernel_rfl) (by kernel_rfl) (by kernel_rfl) (fun _ _ _ h => h) (by rfl) (by assumption) ?_ ?_
              rotate_left
              · (intro w' hSw; (try dsimp only at hSw); go_simp; try with_reducible rfl)
              try simp only [Act.put, List.setIfInBounds_toArray, List.set_cons_zero, List.set_cons_succ]
              refine take_yes 2 (some 28) (v := ?_) rfl (by kernel_rfl) (by kernel_rfl) (by kernel_rfl) (by kernel_rfl) (fun _ _ _ h => h) (by rfl) (by assumption) ?_ ?_
              rotate_left
              · (intro w' hSw; (try dsimp only at hSw); go_simp; try with_reducible rfl)
              try simp only [Act.put, List.setIfInBounds_toArray, List.set_cons_zero, List.set_cons_succ]
              refine take_yes 3 (some 29) (v := ?_) rfl (by kernel_rfl) (by kernel_rfl) (by kernel_rfl) (by kernel_rfl) (fun _ _ _ h => h) (by rfl) (by assumption) ?_ ?_
              rotate_left
              · (intro w' hSw; (try dsimp only at hSw); go_simp; try with_reducible rfl)
              try simp only [Act.put, List.setIfInBounds_toArray, List.set_cons_zero, List.set_cons_succ]
              refine take_yes 4 (some 30) (v := ?_) rfl (by kernel_rfl) (by kernel_rfl) (by kernel_rfl) (by kernel_rfl) (fun _ _ _ h => h) (by rfl) (by assumption) ?_ ?_
              rotate_left
              · (intro w' hSw; (try dsimp only at hSw); go_simp; try with_reducible rfl)
              try simp only [Act.put, List.setIfInBounds_toArray, List.set_cons_zero, List.set_cons_succ]
              refine take_yes 5 (some 31) (v := ?_) rfl (by kernel_rfl) (by kernel_rfl) (by kernel_rfl) (by kernel_rfl) (fun _ _ _ h => h) (by rfl) (by assumption) ?_ ?_
              rotate_left
              · (intro w' hSw; (try dsimp only at hSw); go_simp; try with_reducible rfl)
              try simp only [Act.put, List.setIfInBounds_toArray, List.set_cons_zero, List.set_cons_succ]
              refine take_run 6 rfl (by kernel_rfl) (by rfl) (fun K hK => ?_)
              go_simp
              refine (l3Edge_is _ g g.es[j] true _ (HG.out.since ((hs0.trans HS.out).drew)) hmx hed).mono ?_
              rintro e w1 ⟨rfl, hs1⟩
              refine hK.out _ _ (HKC.out _ (Since.of_drew hs1)) (fun hHeld2 => ?_)
              clear hK K hHeld
              refine take_yes 7 (some 33) (v := ?_) rfl (by kernel_rfl) (by kernel_rfl) (by kernel_rfl) (by kernel_rfl) (fun _ _ _ h => h) (by rfl) (by assumption) ?_ ?_
              rotate_left
              · (intro w' hSw; (try dsimp only at hSw); go_simp; try with_reducible rfl)
              try simp only [Act.put, List.setIfInBounds_toArray, List.set_cons_zero, List.set_cons_succ]
              refine take_yes 8 (some 34) (v := ?_) rfl (by kernel_rfl) (by kernel_rfl) (by kernel_rfl) (by kernel_rfl) (fun _ _ _ h => h) (by rfl) (by assumption) ?_ ?_
              rotate_left
              · (intro w' hSw; (try dsimp only at hSw); go_simp; try with_reducible rfl)
              try simp only [Act.put, List.setIfInBounds_toArray, List.set_cons_zero, List.set_cons_succ]
              refine take_yes 9 (some 35) (v := ?_) rfl (by kernel_rfl) (by kernel_rfl) (by kernel_rfl) (by kernel_rfl) (fun _ _ _ h => h) (by rfl) (by assumption) ?_ ?_
              rotate_left
              · (intro w' hSw; (try dsimp only at hSw); go_simp; try with_reducible rfl)
              try simp only [Act.put, List.setIfInBounds_toArray, List.set_cons_zero, List.set_cons_succ]
              refine take_yes 10 (some 36) (v := ?_) rfl (by kernel_rfl) (by kernel_rfl) (by kernel_rfl) (by kernel_rfl) (fun _ _ _ h => h) (by rfl) (by assumption) ?_ ?_
              rotate_left
              · (intro w' hSw; (try dsimp only at hSw); go_simp; try with_reducible rfl)
              try simp only [Act.put, List.setIfInBounds_toArray, List.set_cons_zero, List.set_cons_succ]
              refine take_yes 11 (some 37) (v := ?_) rfl (by kernel_rfl) (by kernel_rfl) (by kernel_rfl) (by kernel_rfl) (fun _ _ _ h => h) (by rfl) (by assumption) ?_ ?_
              rotate_left
              · (intro w' hSw; (try dsimp only at hSw); go_simp; try with_reducible rfl)
              try simp only [Act.put, List.setIfInBounds_toArray, List.set_cons_zero, List.set_cons_succ]
              refine take_no 12 (some 38) rfl (by kernel_rfl) (by kernel_rfl) (by kernel_rfl) (by kernel_rfl) (fun _ _ _ h => h) (by rfl) (by assumption) ?_
              try simp only [Act.put, List.setIfInBounds_toArray, List.set_cons_zero, List.set_cons_succ]
              refine take_no 13 (some 39) rfl (by kernel_rfl) (by kernel_rfl) (by kernel_rfl) (by kernel_rfl) (fun _ _ _ h => h) (by rfl) (by assumption) ?_
              try simp only [Act.put, List.setIfInBounds_toArray, List.set_cons_zero, List.set_cons_succ]
              refine take_no 14 (some 40) rfl (by kernel_rfl) (by kernel_rfl) (by kernel_rfl) (by kernel_rfl) (fun _ _ _ h => h) (by rfl) (by assumption) ?_
              try simp only [Act.put, List.setIfInBounds_toArray, List.set_cons_zero, List.set_cons_succ]
              refine take_no 15 (some 41) rfl (by kernel_rfl) (by kernel_rfl) (by kernel_rfl) (by kernel_rfl) (fun _ _ _ h => h) (by rfl) (by assumption) ?_
              try simp only [Act.put, List.setIfInBounds_toArray, List.set_cons_zero, List.set_cons_succ]
              refine take_no 16 (some 42) rfl (by kernel_rfl) (by kernel_rfl) (by kernel_rfl) (by kernel_rfl) (fun _ _ _ h => h) (by rfl) (by assumption) ?_
              try simp only [Act.put, List.setIfInBounds_toArray, List.set_cons_zero, List.set_cons_succ]
              refine take_no 17 (some 43) rfl (by kernel_rfl) (by kernel_rfl) (by kernel_rfl) (by kernel_rfl) (fun _ _ _ h => h) (by rfl) (by assumption) ?_
              try simp only [Act.put, List.setIfInBounds_toArray, List.set_cons_zero, List.set_cons_succ]
              refine take_no 18 (some 44) rfl (by kernel_rfl) (by kernel_rfl) (by kernel_rfl) (by kernel_rfl) (fun _ _ _ h => h) (by rfl) (by assumption) ?_
              try simp only [Act.put, List.setIfInBounds_toArray, List.set_cons_zero, List.set_cons_succ]
              refine take_no 19 (some 45) rfl (by kernel_rfl) (by kernel_rfl) (by kernel_rfl) (by kernel_rfl) (fun _ _ _ h => h) (by rfl) (by assumption) ?_
              try simp only [Act.put, List.setIfInBounds_toArray, List.set_cons_zero, List.set_cons_succ]
              refine take_no 20 (some 46) rfl (by kernel_rfl) (by kernel_rfl) (by kernel_rfl) (by kernel_rfl) (fun _ _ _ h => h) (by rfl) (by assumption) ?_
              try simp only [Act.put, List.setIfInBounds_toArray, List.set_cons_zero, List.set_cons_succ]
              refine take_no 21 (some 47) rfl (by kernel_rfl) (by kernel_rfl) (by kernel_rfl) (by kernel_rfl) (fun _ _ _ h => h) (by rfl) (by assumption) ?_
              try simp only [Act.put, List.setIfInBounds_toArray, List.set_cons_zero, List.set_cons_succ]
              refine take_no 22 (some 48) rfl (by kernel_rfl) (by kernel_rfl) (by kernel_rfl) (by kernel_rfl) (fun _ _ _ h => h) (by rfl) (by assumption) ?_
              try simp only [Act.put, List.setIfInBounds_toArray, List.set_cons_zero, List.set_cons_succ]
              refine take_no 23 (some 49) rfl (by kernel_rfl) (by kernel_rfl) (by kernel_rfl) (by kernel_rfl) (fun _ _ _ h => h) (by rfl) (by assumption) ?_
              try simp only [Act.put, List.setIfInBounds_toArray, List.set_cons_zero, List.set_cons_succ]
              refine take_no 24 (some 50) rfl (by kernel_rfl) (by kernel_rfl) (by kernel_rfl) (by kernel_rfl) (fun _ _ _ h => h) (by rfl) (by assumption) ?_
              try simp only [Act.put, List.setIfInBounds_toArray, List.set_cons_zero, List.set_cons_succ]
              refine take_no 25 (some 51) rfl (by kernel_rfl) (by kernel_rfl) (by kernel_rfl) (by kernel_rfl) (fun _ _ _ h => h) (by rfl) (by assumption) ?_
              try simp only [Act.put, List.setIfInBounds_toArray, List.set_cons_zero, List.set_cons_succ]
              refine take_yes 26 (some 52) (v := ?_) rfl (by kernel_rfl) (by kernel_rfl) (by kernel_rfl) (by kernel_rfl) (fun _ _ _ h => h) (by rfl) (by assumption) ?_ ?_
              rotate_left
              · (intro w' hSw; (try dsimp only at hSw); go_simp; try with_reducible rfl)
              try simp only [Act.put, List.setIfInBounds_toArray, List.set_cons_zero, List.set_cons_succ]
              refine take_yes 27 (some 53) (v := ?_) rfl (by kernel_rfl) (by kernel_rfl) (by kernel_rfl) (by kernel_rfl) (fun _ _ _ h => h) (by rfl) (by assumption) ?_ ?_
              rotate_left
              · (intro w' hSw; (try dsimp only at hSw); go_simp; try with_reducible rfl)
              try simp only [Act.put, List.setIfInBounds_toArray, List.set_cons_zero, List.set_cons_succ]
              refine wpAnyH_done (by kernel_rfl) ?_ _
              clear hHeld2
              have hss := HS.out.trans (Since.of_drew hs1)
              go_wp2
              go_roundw
              case rel => exact ⟨j + 1, by omega, by go_num, HA2, HP2, hss⟩
              case measure => simp [intOf]; omega
            · have hj1 : 0 < j := by omega
              have hjm : j - 1 < g.es.length := by omega
              obtain ⟨p, hp⟩ : ∃ p : Edg, p = g.es[j - 1]'hjm := ⟨_, rfl⟩
              have HKD : Hid (∀ w', Since wr w' → w'.cell? ⟨be, oe + (j - 1) * 4, none⟩ = some (.int .i64 p.id) ∧ w'.cell? ⟨w.heap.size, 0, none⟩ = some (.slice ao k ac) ∧ w'.cell? ⟨w.heap.size, 1, none⟩ = some (.slice (some ⟨be, oe, none⟩) m bc) ∧
              w'.cell? ⟨be, oe + j * 4, none⟩ = some (.int .i64 g.es[j].id) ∧ w'.cell? ⟨be, oe + j * 4 + 1, none⟩ = some (.int .i64 g.es[j].fr) ∧ w'.cell? ⟨be, oe + j * 4 + 2, none⟩ = some (.int .i64 g.es[j].to) ∧ w'.cell? ⟨be, oe + j * 4 + 3, none⟩ = some (.int .i64 g.es[j].lb)) := by
                intro w' hs
                have t1 := since_cells ((hs0.trans HS.out).trans hs) (b := be) hbe
                obtain ⟨be2, oe2, ee, hbe2, d0, _⟩ := HE.out (j - 1) hjm
                injection ee with ee; injection ee with e1 e2; subst e1; subst e2
                exact ⟨by rw [t1, hp]; exact d0, HKC.out w' hs⟩
              have HAS : Hid (p.id < (g.es[j]).id → (g.es.take (j + 1)).Pairwise idLt) := fun h => asc_step hx HP.out (fun _ => by rw [hp] at h; exact h)
              have HBAD : Hid ((g.es[j]).id ≤ p.id → validB g = false) := fun h => valid_bad_o hx hj1 (by rw [hp] at h; exact h)
              have hdz : decide ((0 : Int) < (j : Int)) = true := by simp; omega
              have hdy : decide (0 < j) = true := by simp; omega
              have hw1 : IntKind.i64.wrap ((j : Int) - 1) = (j : Int) - 1 := IntWalk.i64_in _ (by omega)
              have hw2 : (0 : Int) ≤ (j : Int) - 1 := by omega
              have hw3 : (j : Int) - 1 < (m : Int) := by omega
              have hw4 : ((j : Int) - 1).toNat = j - 1 := by omega
              have hw5 : (0 : Int) ≤ (j : Int) := by omega
              have hw6 : (j : Int) < (m : Int) := by omega
              have hw7 : (1 : Int) ≤ (j : Int) := by omega
              have hj0' := Lib.hid hj0
              clear hp hjm hj0
              by_cases hord : p.id < (g.es[j]).id
              · have HP2 := Lib.hid (HAS.out hord)
                have hdd : decide ((g.es[j]).id ≤ p.id) = false := by simp; omega
                clear HBAD HAS hord
                go_wp2_with fail
                refine wp_region_held_drew (S := (fun w' => w'.cell? ⟨be, oe + (j - 1) * 4, none⟩ = some (.int .i64 p.id) ∧ w'.cell? ⟨w.heap.size, 0, none⟩ = some (.slice ao k ac) ∧ w'.cell? ⟨w.heap.size, 1, none⟩ = some (.slice (some ⟨be, oe, none⟩) m bc) ∧
              w'.cell? ⟨be, oe + j * 4, none⟩ = some (.int .i64 g.es[j].id) ∧ w'.cell? ⟨be, oe + j * 4 + 1, none⟩ = some (.int .i64 g.es[j].fr) ∧ w'.cell? ⟨be, oe + j * 4 + 2, none⟩ = some (.int .i64 g.es[j].to) ∧ w'.cell? ⟨be, oe + j * 4 + 3, none⟩ = some (.int .i64 g.es[j].lb))) (by kernel_rfl) (HKD.out _ (Since.refl _).drew) (fun hHeld => ?_)
                refine take_yes 0 (some 26) (v := ?_) rfl (by kernel_rfl) (by kernel_rfl) (by kernel_rfl) (by kernel_rfl) (fun _ _ _ h => h) (by rfl) (by assumption) ?_ ?_
                rotate_left
                · (intro w' hSw; (try dsimp only at hSw); go_simp; try with_reducible rfl)
                try simp only [Act.put, List.setIfInBounds_toArray, List.set_cons_zero, List.set_cons_succ]
                refine take_yes 1 (some 27) (v := ?_) rfl (by kernel_rfl) (by kernel_rfl) (by kernel_rfl) (by kernel_rfl) (fun _ _ _ h => h) (by rfl) (by assumption) ?_ ?_
                rotate_left
                · (intro w' hSw; (try dsimp only at hSw); go_simp; try with_reducible rfl)
                try simp only [Act.put, List.setIfInBounds_toArray, List.set_cons_zero, List.set_cons_succ]
                refine take_yes 2 (some 28) (v := ?_) rfl (by kernel_rfl) (by kernel_rfl) (by kernel_rfl) (by kernel_rfl) (fun _ _ _ h => h) (by rfl) (by assumption) ?_ ?_
                rotate_left
                · (intro w' hSw; (try dsimp only at hSw); go_simp; try with_reducible rfl)
                try simp only [Act.put, List.setIfInBounds_toArray, List.set_cons_zero, List.set_cons_succ]
                refine take_yes 3 (some 29) (v := ?_) rfl (by kernel_rfl) (by kernel_rfl) (by kernel_rfl) (by kernel_rfl) (fun _ _ _ h => h) (by rfl) (by assumption) ?_ ?_
                rotate_left
                · (intro w' hSw; (try dsimp only at hSw); go_simp; try with_reducible rfl)
                try simp only [Act.put, List.setIfInBounds_toArray, List.set_cons_zero, List.set_cons_succ]
                refine take_yes 4 (some 30) (v := ?_) rfl (by kernel_rfl) (by kernel_rfl) (by kernel_rfl) (by kernel_rfl) (fun _ _ _ h => h) (by rfl) (by assumption) ?_ ?_
                rotate_left
                · (intro w' hSw; (try dsimp only at hSw); go_simp; try with_reducible rfl)
                try simp only [Act.put, List.setIfInBounds_toArray, List.set_cons_zero, List.set_cons_succ]
                refine take_yes 5 (some 31) (v := ?_) rfl (by kernel_rfl) (by kernel_rfl) (by kernel_rfl) (by kernel_rfl) (fun _ _ _ h => h) (by rfl) (by assumption) ?_ ?_
                rotate_left
                · (intro w' hSw; (try dsimp only at hSw); go_simp; try with_reducible rfl)
                try simp only [Act.put, List.setIfInBounds_toArray, List.set_cons_zero, List.set_cons_succ]
                refine take_run 6 rfl (by kernel_rfl) (by rfl) (fun K hK => ?_)
                go_simp
                refine (l3Edge_is _ g g.es[j] true _ (HG.out.since ((hs0.trans HS.out).drew)) hmx hed).mono ?_
                rintro e w1 ⟨rfl, hs1⟩
                refine hK.out _ _ (HKD.out _ (Since.of_drew hs1)) (fun hHeld2 => ?_)
                clear hK K hHeld
                refine take_yes 7 (some 33) (v := ?_) rfl (by kernel_rfl) (by kernel_rfl) (by kernel_rfl) (by kernel_rfl) (fun _ _ _ h => h) (by rfl) (by assumption) ?_ ?_
                rotate_left
                · (intro w' hSw; (try dsimp only at hSw); go_simp; try with_reducible rfl)
                try simp only [Act.put, List.setIfInBounds_toArray, List.set_cons_zero, List.set_cons_succ]
                refine take_yes 8 (some 34) (v := ?_) rfl (by kernel_rfl) (by kernel_rfl) (by kernel_rfl) (by kernel_rfl) (fun _ _ _ h => h) (by rfl) (by assumption) ?_ ?_
                rotate_left
                · (intro w' hSw; (try dsimp only at hSw); go_simp; try with_reducible rfl)
                try simp only [Act.put, List.setIfInBounds_toArray, List.set_cons_zero, List.set_cons_succ]
                refine take_yes 9 (some 35) (v := ?_) rfl (by kernel_rfl) (by kernel_rfl) (by kernel_rfl) (by kernel_rfl) (fun _ _ _ h => h) (by rfl) (by assumption) ?_ ?_
                rotate_left
                · (intro w' hSw; (try dsimp only at hSw); go_simp; try with_reducible rfl)
                try simp only [Act.put, List.setIfInBounds_toArray, List.set_cons_zero, List.set_cons_succ]
                refine take_yes 10 (some 36) (v := ?_) rfl (by kernel_rfl) (by kernel_rfl) (by kernel_rfl) (by kernel_rfl) (fun _ _ _ h => h) (by rfl) (by assumption) ?_ ?_
                rotate_left
                · (intro w' hSw; (try dsimp only at hSw); go_simp; try with_reducible rfl)
                try simp only [Act.put, List.setIfInBounds_toArray, List.set_cons_zero, List.set_cons_succ]
                refine take_yes 11 (some 37) (v := ?_) rfl (by kernel_rfl) (by kernel_rfl) (by kernel_rfl) (by kernel_rfl) (fun _ _ _ h => h) (by rfl) (by assumption) ?_ ?_
                rotate_left
                · (intro w' hSw; (try dsimp only at hSw); go_simp; try with_reducible rfl)
                try simp only [Act.put, List.setIfInBounds_toArray, List.set_cons_zero, List.set_cons_succ]
                refine take_yes 12 (some 38) (v := ?_) rfl (by kernel_rfl) (by kernel_rfl) (by kernel_rfl) (by kernel_rfl) (fun _ _ _ h => h) (by rfl) (by assumption) ?_ ?_
                rotate_left
                · (intro w' hSw; (try dsimp only at hSw); go_simp; try with_reducible rfl)
                try simp only [Act.put, List.setIfInBounds_toArray, List.set_cons_zero, List.set_cons_succ]
                refine take_yes 13 (some 39) (v := ?_) rfl (by kernel_rfl) (by kernel_rfl) (by kernel_rfl) (by kernel_rfl) (fun _ _ _ h => h) (by rfl) (by assumption) ?_ ?_
                rotate_left
                · (intro w' hSw; (try dsimp only at hSw); go_simp; try with_reducible rfl)
                try simp only [Act.put, List.setIfInBounds_toArray, List.set_cons_zero, List.set_cons_succ]
                refine take_yes 14 (some 40) (v := ?_) rfl (by kernel_rfl) (by kernel_rfl) (by kernel_rfl) (by kernel_rfl) (fun _ _ _ h => h) (by rfl) (by assumption) ?_ ?_
                rotate_left
                · (intro w' hSw; (try dsimp only at hSw); go_simp; try with_reducible rfl)
                try simp only [Act.put, List.setIfInBounds_toArray, List.set_cons_zero, List.set_cons_succ]
                refine take_yes 15 (some 41) (v := ?_) rfl (by kernel_rfl) (by kernel_rfl) (by kernel_rfl) (by kernel_rfl) (fun _ _ _ h => h) (by rfl) (by assumption) ?_ ?_
                rotate_left
                · (intro w' hSw; (try dsimp only at hSw); go_simp; try with_reducible rfl)
                try simp only [Act.put, List.setIfInBounds_toArray, List.set_cons_zero, List.set_cons_succ]
                refine take_yes 16 (some 42) (v := ?_) rfl (by kernel_rfl) (by kernel_rfl) (by kernel_rfl) (by kernel_rfl) (fun _ _ _ h => h) (by rfl) (by assumption) ?_ ?_
                rotate_left
                · (intro w' hSw; (try dsimp only at hSw); go_simp; try with_reducible rfl)
                try simp only [Act.put, List.setIfInBounds_toArray, List.set_cons_zero, List.set_cons_succ]
                refine take_yes 17 (some 43) (v := ?_) rfl (by kernel_rfl) (by kernel_rfl) (by kernel_rfl) (by kernel_rfl) (fun _ _ _ h => h) (by rfl) (by assumption) ?_ ?_
                rotate_left
                · (intro w' hSw; (try dsimp only at hSw); go_simp; try with_reducible rfl)
                try simp only [Act.put, List.setIfInBounds_toArray, List.set_cons_zero, List.set_cons_succ]
                refine take_yes 18 (some 44) (v := ?_) rfl (by kernel_rfl) (by kernel_rfl) (by kernel_rfl) (by kernel_rfl) (fun _ _ _ h => h) (by rfl) (by assumption) ?_ ?_
                rotate_left
                · (intro w' hSw; (try dsimp only at hSw); go_simp; try with_reducible rfl)
                try simp only [Act.put, List.setIfInBounds_toArray, List.set_cons_zero, List.set_cons_succ]
                refine take_yes 19 (some 45) (v := ?_) rfl (by kernel_rfl) (by kernel_rfl) (by kernel_rfl) (by kernel_rfl) (fun _ _ _ h => h) (by rfl) (by assumption) ?_ ?_
                rotate_left
                · (intro w' hSw; (try dsimp only at hSw); go_simp; try with_reducible rfl)
                try simp only [Act.put, List.setIfInBounds_toArray, List.set_cons_zero, List.set_cons_succ]
                refine take_yes 20 (some 46) (v := ?_) rfl (by kernel_rfl) (by kernel_rfl) (by kernel_rfl) (by kernel_rfl) (fun _ _ _ h => h) (by rfl) (by assumption) ?_ ?_
                rotate_left
                · (intro w' hSw; (try dsimp only at hSw); go_simp; try with_reducible rfl)
                try simp only [Act.put, List.setIfInBounds_toArray, List.set_cons_zero, List.set_cons_succ]
                refine take_yes 21 (some 47) (v := ?_) rfl (by kernel_rfl) (by kernel_rfl) (by kernel_rfl) (by kernel_rfl) (fun _ _ _ h => h) (by rfl) (by assumption) ?_ ?_
                rotate_left
                · (intro w' hSw; (try dsimp only at hSw); go_simp; try with_reducible rfl)
                try simp only [Act.put, List.setIfInBounds_toArray, List.set_cons_zero, List.set_cons_succ]
                refine take_yes 22 (some 48) (v := ?_) rfl (by kernel_rfl) (by kernel_rfl) (by kernel_rfl) (by kernel_rfl) (fun _ _ _ h => h) (by rfl) (by assumption) ?_ ?_
                rotate_left
                · (intro w' hSw; (try dsimp only at hSw); go_simp; try with_reducible rfl)
                try simp only [Act.put, List.setIfInBounds_toArray, List.set_cons_zero, List.set_cons_succ]
                refine take_yes 23 (some 49) (v := ?_) rfl (by kernel_rfl) (by kernel_rfl) (by kernel_rfl) (by kernel_rfl) (fun _ _ _ h => h) (by rfl) (by assumption) ?_ ?_
                rotate_left
                · (intro w' hSw; (try dsimp only at hSw); go_simp; try with_reducible rfl)
                try simp only [Act.put, List.setIfInBounds_toArray, List.set_cons_zero, List.set_cons_succ]
                refine take_yes 24 (some 50) (v := ?_) rfl (by kernel_rfl) (by kernel_rfl) (by kernel_rfl) (by kernel_rfl) (fun _ _ _ h => h) (by rfl) (by assumption) ?_ ?_
                rotate_left
                · (intro w' hSw; (try dsimp only at hSw); go_simp; try with_reducible rfl)
                try simp only [Act.put, List.setIfInBounds_toArray, List.set_cons_zero, List.set_cons_succ]
                refine take_yes 25 (some 51) (v := ?_) rfl (by kernel_rfl) (by kernel_rfl) (by kernel_rfl) (by kernel_rfl) (fun _ _ _ h => h) (by rfl) (by assumption) ?_ ?_
                rotate_left
                · (intro w' hSw; (try dsimp only at hSw); go_simp; try with_reducible rfl)
                try simp only [Act.put, List.setIfInBounds_toArray, List.set_cons_zero, List.set_cons_succ]
                refine take_yes 26 (some 52) (v := ?_) rfl (by kernel_rfl) (by kernel_rfl) (by kernel_rfl) (by kernel_rfl) (fun _ _ _ h => h) (by rfl) (by assumption) ?_ ?_
                rotate_left
                · (intro w' hSw; (try dsimp only at hSw); go_simp; try with_reducible rfl)
                try simp only [Act.put, List.setIfInBounds_toArray, List.set_cons_zero, List.set_cons_succ]
                refine take_yes 27 (some 53) (v := ?_) rfl (by kernel_rfl) (by kernel_rfl) (by kernel_rfl) (by kernel_rfl) (fun _ _ _ h => h) (by rfl) (by assumption) ?_ ?_
                rotate_left
                · (intro w' hSw; (try dsimp only at hSw); go_simp; try with_reducible rfl)
                try simp only [Act.put, List.setIfInBounds_toArray, List.set_cons_zero, List.set_cons_succ]
                refine wpAnyH_done (by kernel_rfl) ?_ _
                clear hHeld2
                have hss := HS.out.trans (Since.of_drew hs1)
                clear hw1 hw2 hw3 hw4 hw5 hw6 hw7
                go_wp2
                go_roundw
                case rel => exact ⟨j + 1, by omega, by go_num, HA2, HP2, hss⟩
                case measure => simp [intOf]; omega
              · have HX := Lib.hid (HBAD.out (by omega))
                have hdd : decide ((g.es[j]).id ≤ p.id) = true := by simp; omega
                clear HBAD HAS hord
                go_wp2_with fail
                refine wp_region_held_drew (S := (fun w' => w'.cell? ⟨be, oe + (j - 1) * 4, none⟩ = some (.int .i64 p.id) ∧ w'.cell? ⟨w.heap.size, 0, none⟩ = some (.slice ao k ac) ∧ w'.cell? ⟨w.heap.size, 1, none⟩ = some (.slice (some ⟨be, oe, none⟩) m bc) ∧
              w'.cell? ⟨be, oe + j * 4, none⟩ = some (.int .i64 g.es[j].id) ∧ w'.cell? ⟨be, oe + j * 4 + 1, none⟩ = some (.int .i64 g.es[j].fr) ∧ w'.cell? ⟨be, oe + j * 4 + 2, none⟩ = some (.int .i64 g.es[j].to) ∧ w'.cell? ⟨be, oe + j * 4 + 3, none⟩ = some (.int .i64 g.es[j].lb))) (by kernel_rfl) (HKD.out _ (Since.refl _).drew) (fun hHeld => ?_)
                refine take_yes 0 (some 26) (v := ?_) rfl (by kernel_rfl) (by kernel_rfl) (by kernel_rfl) (by kernel_rfl) (fun _ _ _ h => h) (by rfl) (by assumption) ?_ ?_
                rotate_left
                · (intro w' hSw; (try dsimp only at hSw); go_simp; try with_reducible rfl)
                try simp only [Act.put, List.setIfInBounds_toArray, List.set_cons_zero, List.set_cons_succ]
                refine take_yes 1 (some 27) (v := ?_) rfl (by kernel_rfl) (by kernel_rfl) (by kernel_rfl) (by kernel_rfl) (fun _ _ _ h => h) (by rfl) (by assumption) ?_ ?_
                rotate_left
                · (intro w' hSw; (try dsimp only at hSw); go_simp; try with_reducible rfl)
                try simp only [Act.put, List.setIfInBounds_toArray, List.set_cons_zero, List.set_cons_succ]
                refine take_yes 2 (some 28) (v := ?_) rfl (by kernel_rfl) (by kernel_rfl) (by kernel_rfl) (by kernel_rfl) (fun _ _ _ h => h) (by rfl) (by assumption) ?_ ?_
                rotate_left
                · (intro w' hSw; (try dsimp only at hSw); go_simp; try with_reducible rfl)
                try simp only [Act.put, List.setIfInBounds_toArray, List.set_cons_zero, List.set_cons_succ]
                refine take_yes 3 (some 29) (v := ?_) rfl (by kernel_rfl) (by kernel_rfl) (by kernel_rfl) (by kernel_rfl) (fun _ _ _ h => h) (by rfl) (by assumption) ?_ ?_
                rotate_left
                · (intro w' hSw; (try dsimp only at hSw); go_simp; try with_reducible rfl)
                try simp only [Act.put, List.setIfInBounds_toArray, List.set_cons_zero, List.set_cons_succ]
                refine take_yes 4 (some 30) (v := ?_) rfl (by kernel_rfl) (by kernel_rfl) (by kernel_rfl) (by kernel_rfl) (fun _ _ _ h => h) (by rfl) (by assumption) ?_ ?_
                rotate_left
                · (intro w' hSw; (try dsimp only at hSw); go_simp; try with_reducible rfl)
                try simp only [Act.put, List.setIfInBounds_toArray, List.set_cons_zero, List.set_cons_succ]
                refine take_yes 5 (some 31) (v := ?_) rfl (by kernel_rfl) (by kernel_rfl) (by kernel_rfl) (by kernel_rfl) (fun _ _ _ h => h) (by rfl) (by assumption) ?_ ?_
                rotate_left
                · (intro w' hSw; (try dsimp only at hSw); go_simp; try with_reducible rfl)
                try simp only [Act.put, List.setIfInBounds_toArray, List.set_cons_zero, List.set_cons_succ]
                refine take_run 6 rfl (by kernel_rfl) (by rfl) (fun K hK => ?_)
                go_simp
                refine (l3Edge_is _ g g.es[j] true _ (HG.out.since ((hs0.trans HS.out).drew)) hmx hed).mono ?_
                rintro e w1 ⟨rfl, hs1⟩
                refine hK.out _ _ (HKD.out _ (Since.of_drew hs1)) (fun hHeld2 => ?_)
                clear hK K hHeld
                refine take_yes 7 (some 33) (v := ?_) rfl (by kernel_rfl) (by kernel_rfl) (by kernel_rfl) (by kernel_rfl) (fun _ _ _ h => h) (by rfl) (by assumption) ?_ ?_
                rotate_left
                · (intro w' hSw; (try dsimp only at hSw); go_simp; try with_reducible rfl)
                try simp only [Act.put, List.setIfInBounds_toArray, List.set_cons_zero, List.set_cons_succ]
                refine take_yes 8 (some 34) (v := ?_) rfl (by kernel_rfl) (by kernel_rfl) (by kernel_rfl) (by kernel_rfl) (fun _ _ _ h => h) (by rfl) (by assumption) ?_ ?_
                rotate_left
                · (intro w' hSw; (try dsimp only at hSw); go_simp; try with_reducible rfl)
                try simp only [Act.put, List.setIfInBounds_toArray, List.set_cons_zero, List.set_cons_succ]
                refine take_yes 9 (some 35) (v := ?_) rfl (by kernel_rfl) (by kernel_rfl) (by kernel_rfl) (by kernel_rfl) (fun _ _ _ h => h) (by rfl) (by assumption) ?_ ?_
                rotate_left
                · (intro w' hSw; (try dsimp only at hSw); go_simp; try with_reducible rfl)
                try simp only [Act.put, List.setIfInBounds_toArray, List.set_cons_zero, List.set_cons_succ]
                refine take_yes 10 (some 36) (v := ?_) rfl (by kernel_rfl) (by kernel_rfl) (by kernel_rfl) (by kernel_rfl) (fun _ _ _ h => h) (by rfl) (by assumption) ?_ ?_
                rotate_left
                · (intro w' hSw; (try dsimp only at hSw); go_simp; try with_reducible rfl)
                try simp only [Act.put, List.setIfInBounds_toArray, List.set_cons_zero, List.set_cons_succ]
                refine take_yes 11 (some 37) (v := ?_) rfl (by kernel_rfl) (by kernel_rfl) (by kernel_rfl) (by kernel_rfl) (fun _ _ _ h => h) (by rfl) (by assumption) ?_ ?_
                rotate_left
                · (intro w' hSw; (try dsimp only at hSw); go_simp; try with_reducible rfl)
                try simp only [Act.put, List.setIfInBounds_toArray, List.set_cons_zero, List.set_cons_succ]
                refine take_yes 12 (some 38) (v := ?_) rfl (by kernel_rfl) (by kernel_rfl) (by kernel_rfl) (by kernel_rfl) (fun _ _ _ h => h) (by rfl) (by assumption) ?_ ?_
                rotate_left
                · (intro w' hSw; (try dsimp only at hSw); go_simp; try with_reducible rfl)
                try simp only [Act.put, List.setIfInBounds_toArray, List.set_cons_zero, List.set_cons_succ]
                refine take_yes 13 (some 39) (v := ?_) rfl (by kernel_rfl) (by kernel_rfl) (by kernel_rfl) (by kernel_rfl) (fun _ _ _ h => h) (by rfl) (by assumption) ?_ ?_
                rotate_left
                · (intro w' hSw; (try dsimp only at hSw); go_simp; try with_reducible rfl)
                try simp only [Act.put, List.setIfInBounds_toArray, List.set_cons_zero, List.set_cons_succ]
                refine take_yes 14 (some 40) (v := ?_) rfl (by kernel_rfl) (by kernel_rfl) (by kernel_rfl) (by kernel_rfl) (fun _ _ _ h => h) (by rfl) (by assumption) ?_ ?_
                rotate_left
                · (intro w' hSw; (try dsimp only at hSw); go_simp; try with_reducible rfl)
                try simp only [Act.put, List.setIfInBounds_toArray, List.set_cons_zero, List.set_cons_succ]
                refine take_yes 15 (some 41) (v := ?_) rfl (by kernel_rfl) (by kernel_rfl) (by kernel_rfl) (by kernel_rfl) (fun _ _ _ h => h) (by rfl) (by assumption) ?_ ?_
                rotate_left
                · (intro w' hSw; (try dsimp only at hSw); go_simp; try with_reducible rfl)
                try simp only [Act.put, List.setIfInBounds_toArray, List.set_cons_zero, List.set_cons_succ]
                refine take_yes 16 (some 42) (v := ?_) rfl (by kernel_rfl) (by kernel_rfl) (by kernel_rfl) (by kernel_rfl) (fun _ _ _ h => h) (by rfl) (by assumption) ?_ ?_
                rotate_left
                · (intro w' hSw; (try dsimp only at hSw); go_simp; try with_reducible rfl)
                try simp only [Act.put, List.setIfInBounds_toArray, List.set_cons_zero, List.set_cons_succ]
                refine take_yes 17 (some 43) (v := ?_) rfl (by kernel_rfl) (by kernel_rfl) (by kernel_rfl) (by kernel_rfl) (fun _ _ _ h => h) (by rfl) (by assumption) ?_ ?_
                rotate_left
                · (intro w' hSw; (try dsimp only at hSw); go_simp; try with_reducible rfl)
                try simp only [Act.put, List.setIfInBounds_toArray, List.set_cons_zero, List.set_cons_succ]
                refine take_yes 18 (some 44) (v := ?_) rfl (by kernel_rfl) (by kernel_rfl) (by kernel_rfl) (by kernel_rfl) (fun _ _ _ h => h) (by rfl) (by assumption) ?_ ?_
                rotate_left
                · (intro w' hSw; (try dsimp only at hSw); go_simp; try with_reducible rfl)
                try simp only [Act.put, List.setIfInBounds_toArray, List.set_cons_zero, List.set_cons_succ]
                refine take_yes 19 (some 45) (v := ?_) rfl (by kernel_rfl) (by kernel_rfl) (by kernel_rfl) (by kernel_rfl) (fun _ _ _ h => h) (by rfl) (by assumption) ?_ ?_
                rotate_left
                · (intro w' hSw; (try dsimp only at hSw); go_simp; try with_reducible rfl)
                try simp only [Act.put, List.setIfInBounds_toArray, List.set_cons_zero, List.set_cons_succ]
                refine take_yes 20 (some 46) (v := ?_) rfl (by kernel_rfl) (by kernel_rfl) (by kernel_rfl) (by kernel_rfl) (fun _ _ _ h => h) (by rfl) (by assumption) ?_ ?_
                rotate_left
                · (intro w' hSw; (try dsimp only at hSw); go_simp; try with_reducible rfl)
                try simp only [Act.put, List.setIfInBounds_toArray, List.set_cons_zero, List.set_cons_succ]
                refine take_yes 21 (some 47) (v := ?_) rfl (by kernel_rfl) (by kernel_rfl) (by kernel_rfl) (by kernel_rfl) (fun _ _ _ h => h) (by rfl) (by assumption) ?_ ?_
                rotate_left
                · (intro w' hSw; (try dsimp only at hSw); go_simp; try with_reducible rfl)
                try simp only [Act.put, List.setIfInBounds_toArray, List.set_cons_zero, List.set_cons_succ]
                refine take_yes 22 (some 48) (v := ?_) rfl (by kernel_rfl) (by kernel_rfl) (by kernel_rfl) (by kernel_rfl) (fun _ _ _ h => h) (by rfl) (by assumption) ?_ ?_
                rotate_left
                · (intro w' hSw; (try dsimp only at hSw); go_simp; try with_reducible rfl)
                try simp only [Act.put, List.setIfInBounds_toArray, List.set_cons_zero, List.set_cons_succ]
                refine take_yes 23 (some 49) (v := ?_) rfl (by kernel_rfl) (by kernel_rfl) (by kernel_rfl) (by kernel_rfl) (fun _ _ _ h => h) (by rfl) (by assumption) ?_ ?_
                rotate_left
                · (intro w' hSw; (try dsimp only at hSw); go_simp; try with_reducible rfl)
                try simp only [Act.put, List.setIfInBounds_toArray, List.set_cons_zero, List.set_cons_succ]
                refine take_yes 24 (some 50) (v := ?_) rfl (by kernel_rfl) (by kernel_rfl) (by kernel_rfl) (by kernel_rfl) (fun _ _ _ h => h) (by rfl) (by assumption) ?_ ?_
                rotate_left
                · (intro w' hSw; (try dsimp only at hSw); go_simp; try with_reducible rfl)
                try simp only [Act.put, List.setIfInBounds_toArray, List.set_cons_zero, List.set_cons_succ]
                refine take_yes 25 (some 51) (v := ?_) rfl (by kernel_rfl) (by kernel_rfl) (by kernel_rfl) (by kernel_rfl) (fun _ _ _ h => h) (by rfl) (by assumption) ?_ ?_
                rotate_left
                · (intro w' hSw; (try dsimp only at hSw); go_simp; try with_reducible rfl)
                try simp only [Act.put, List.setIfInBounds_toArray, List.set_cons_zero, List.set_cons_succ]
                refine take_yes 26 (some 52) (v := ?_) rfl (by kernel_rfl) (by kernel_rfl) (by kernel_rfl) (by kernel_rfl) (fun _ _ _ h => h) (by rfl) (by assumption) ?_ ?_
                rotate_left
                · (intro w' hSw; (try dsimp only at hSw); go_simp; try with_reducible rfl)
                try simp only [Act.put, List.setIfInBounds_toArray, List.set_cons_zero, List.set_cons_succ]
                refine take_yes 27 (some 53) (v := ?_) rfl (by kernel_rfl) (by kernel_rfl) (by kernel_rfl) (by kernel_rfl) (fun _ _ _ h => h) (by rfl) (by assumption) ?_ ?_
                rotate_left
                · (intro w' hSw; (try dsimp only at hSw); go_simp; try with_reducible rfl)
                try simp only [Act.put, List.setIfInBounds_toArray, List.set_cons_zero, List.set_cons_succ]
                refine wpAnyH_done (by kernel_rfl) ?_ _
                clear hHeld2
                have hss := HS.out.trans (Since.of_drew hs1)
                clear hw1 hw2 hw3 hw4 hw5 hw6 hw7
                go_wp2
                go_ret
                exact ⟨ret_bool HX.out.symm, hs0.trans hss⟩
          · have hed2 : edB g.vs.length g.es[j] = false := by simpa using hed
            have HX := Lib.hid (valid_bad_e hx hed2)
            clear hed
            go_wp2_with fail
            refine wp_region_held_drew (S := (fun w' => w'.cell? ⟨w.heap.size, 0, none⟩ = some (.slice ao k ac) ∧ w'.cell? ⟨w.heap.size, 1, none⟩ = some (.slice (some ⟨be, oe, none⟩) m bc) ∧
              w'.cell? ⟨be, oe + j * 4, none⟩ = some (.int .i64 g.es[j].id) ∧ w'.cell? ⟨be, oe + j * 4 + 1, none⟩ = some (.int .i64 g.es[j].fr) ∧ w'.cell? ⟨be, oe + j * 4 + 2, none⟩ = some (.int .i64 g.es[j].to) ∧ w'.cell? ⟨be, oe + j * 4 + 3, none⟩ = some (.int .i64 g.es[j].lb))) (by kernel_rfl) (HKC.out _ (Since.refl _).drew) (fun hHeld => ?_)
            refine take_yes 0 (some 26) (v := ?_) rfl (by kernel_rfl) (by kernel_rfl) (by kernel_rfl) (by kernel_rfl) (fun _ _ _ h => h) (by rfl) (by assumption) ?_ ?_
            rotate_left
            · (intro w' hSw; (try dsimp only at hSw); go_simp; try with_reducible rfl)
            try simp only [Act.put, List.setIfInBounds_toArray, List.set_cons_zero, List.set_cons_succ]
            refine take_yes 1 (some 27) (v := ?_) rfl (by kernel_rfl) (by kernel_rfl) (by kernel_rfl) (by kernel_rfl) (fun _ _ _ h => h) (by rfl) (by assumption) ?_ ?_
            rotate_left
            · (intro w' hSw; (try dsimp only at hSw); go_simp; try with_reducible rfl)
            try simp only [Act.put, List.setIfInBounds_toArray, List.set_cons_zero, List.set_cons_succ]
            refine take_yes 2 (some 28) (v := ?_) rfl (by kernel_rfl) (by kernel_rfl) (by kernel_rfl) (by kernel_rfl) (fun _ _ _ h => h) (by rfl) (by assumption) ?_ ?_
            rotate_left
            · (intro w' hSw; (try dsimp only at hSw); go_simp; try with_reducible rfl)
            try simp only [Act.put, List.setIfInBounds_toArray, List.set_cons_zero, List.set_cons_succ]
            refine take_yes 3 (some 29) (v := ?_) rfl (by kernel_rfl) (by kernel_rfl) (by kernel_rfl) (by kernel_rfl) (fun _ _ _ h => h) (by rfl) (by assumption) ?_ ?_
            rotate_left
            · (intro w' hSw; (try dsimp only at hSw); go_simp; try with_reducible rfl)
            try simp only [Act.put, List.setIfInBounds_toArray, List.set_cons_zero, List.set_cons_succ]
            refine take_yes 4 (some 30) (v := ?_) rfl (by kernel_rfl) (by kernel_rfl) (by kernel_rfl) (by kernel_rfl) (fun _ _ _ h => h) (by rfl) (by assumption) ?_ ?_
            rotate_left
            · (intro w' hSw; (try dsimp only at hSw); go_simp; try with_reducible rfl)
            try simp only [Act.put, List.setIfInBounds_toArray, List.set_cons_zero, List.set_cons_succ]
            refine take_yes 5 (some 31) (v := ?_) rfl (by kernel_rfl) (by kernel_rfl) (by kernel_rfl) (by kernel_rfl) (fun _ _ _ h => h) (by rfl) (by assumption) ?_ ?_
            rotate_left
            · (intro w' hSw; (try dsimp only at hSw); go_simp; try with_reducible rfl)
            try simp only [Act.put, List.setIfInBounds_toArray, List.set_cons_zero, List.set_cons_succ]
            refine take_run 6 rfl (by kernel_rfl) (by rfl) (fun K hK => ?_)
            go_simp
            refine (l3Edge_is _ g g.es[j] false _ (HG.out.since ((hs0.trans HS.out).drew)) hmx hed2).mono ?_
            rintro e w1 ⟨rfl, hs1⟩
            refine hK.out _ _ (HKC.out _ (Since.of_drew hs1)) (fun hHeld2 => ?_)
            clear hK K hHeld
            refine take_yes 7 (some 33) (v := ?_) rfl (by kernel_rfl) (by kernel_rfl) (by kernel_rfl) (by kernel_rfl) (fun _ _ _ h => h) (by rfl) (by assumption) ?_ ?_
            rotate_left
            · (intro w' hSw; (try dsimp only at hSw); go_simp; try with_reducible rfl)
            try simp only [Act.put, List.setIfInBounds_toArray, List.set_cons_zero, List.set_cons_succ]
            refine take_yes 8 (some 34) (v := ?_) rfl (by kernel_rfl) (by kernel_rfl) (by kernel_rfl) (by kernel_rfl) (fun _ _ _ h => h) (by rfl) (by assumption) ?_ ?_
            rotate_left
            · (intro w' hSw; (try dsimp only at hSw); go_simp; try with_reducible rfl)
            try simp only [Act.put, List.setIfInBounds_toArray, List.set_cons_zero, List.set_cons_succ]
            refine take_no 9 (some 35) rfl (by kernel_rfl) (by kernel_rfl) (by kernel_rfl) (by kernel_rfl) (fun _ _ _ h => h) (by rfl) (by assumption) ?_
            try simp only [Act.put, List.setIfInBounds_toArray, List.set_cons_zero, List.set_cons_succ]
            refine take_no 10 (some 36) rfl (by kernel_rfl) (by kernel_rfl) (by kernel_rfl) (by kernel_rfl) (fun _ _ _ h => h) (by rfl) (by assumption) ?_
            try simp only [Act.put, List.setIfInBounds_toArray, List.set_cons_zero, List.set_cons_succ]
            refine take_no 11 (some 37) rfl (by kernel_rfl) (by kernel_rfl) (by kernel_rfl) (by kernel_rfl) (fun _ _ _ h => h) (by rfl) (by assumption) ?_
            try simp only [Act.put, List.setIfInBounds_toArray, List.set_cons_zero, List.set_cons_succ]
            refine take_no 12 (some 38) rfl (by kernel_rfl) (by kernel_rfl) (by kernel_rfl) (by kernel_rfl) (fun _ _ _ h => h) (by rfl) (by assumption) ?_
            try simp only [Act.put, List.setIfInBounds_toArray, List.set_cons_zero, List.set_cons_succ]
            refine take_no 13 (some 39) rfl (by kernel_rfl) (by kernel_rfl) (by kernel_rfl) (by kernel_rfl) (fun _ _ _ h => h) (by rfl) (by assumption) ?_
            try simp only [Act.put, List.setIfInBounds_toArray, List.set_cons_zero, List.set_cons_succ]
            refine take_no 14 (some 40) rfl (by kernel_rfl) (by kernel_rfl) (by kernel_rfl) (by kernel_rfl) (fun _ _ _ h => h) (by rfl) (by assumption) ?_
            try simp only [Act.put, List.setIfInBounds_toArray, List.set_cons_zero, List.set_cons_succ]
            refine take_no 15 (some 41) rfl (by kernel_rfl) (by kernel_rfl) (by kernel_rfl) (by kernel_rfl) (fun _ _ _ h => h) (by rfl) (by assumption) ?_
            try simp only [Act.put, List.setIfInBounds_toArray, List.set_cons_zero, List.set_cons_succ]
            refine take_no 16 (some 42) rfl (by kernel_rfl) (by kernel_rfl) (by kernel_rfl) (by kernel_rfl) (fun _ _ _ h => h) (by rfl) (by assumption) ?_
            try simp only [Act.put, List.setIfInBounds_toArray, List.set_cons_zero, List.set_cons_succ]
            refine take_no 17 (some 43) rfl (by kernel_rfl) (by kernel_rfl) (by kernel_rfl) (by kernel_rfl) (fun _ _ _ h => h) (by rfl) (by assumption) ?_
            try simp only [Act.put, List.setIfInBounds_toArray, List.set_cons_zero, List.set_cons_succ]
            refine take_no 18 (some 44) rfl (by kernel_rfl) (by kernel_rfl) (by kernel_rfl) (by kernel_rfl) (fun _ _ _ h => h) (by rfl) (by assumption) ?_
            try simp only [Act.put, List.setIfInBounds_toArray, List.set_cons_zero, List.set_cons_succ]
            refine take_no 19 (some 45) rfl (by kernel_rfl) (by kernel_rfl) (by kernel_rfl) (by kernel_rfl) (fun _ _ _ h => h) (by rfl) (by assumption) ?_
            try simp only [Act.put, List.setIfInBounds_toArray, List.set_cons_zero, List.set_cons_succ]
            refine take_no 20 (some 46) rfl (by kernel_rfl) (by kernel_rfl) (by kernel_rfl) (by kernel_rfl) (fun _ _ _ h => h) (by rfl) (by assumption) ?_
            try simp only [Act.put, List.setIfInBounds_toArray, List.set_cons_zero, List.set_cons_succ]
            refine take_no 21 (some 47) rfl (by kernel_rfl) (by kernel_rfl) (by kernel_rfl) (by kernel_rfl) (fun _ _ _ h => h) (by rfl) (by assumption) ?_
            try simp only [Act.put, List.setIfInBounds_toArray, List.set_cons_zero, List.set_cons_succ]
            refine take_no 22 (some 48) rfl (by kernel_rfl) (by kernel_rfl) (by kernel_rfl) (by kernel_rfl) (fun _ _ _ h => h) (by rfl) (by assumption) ?_
            try simp only [Act.put, List.setIfInBounds_toArray, List.set_cons_zero, List.set_cons_succ]
            refine take_no 23 (some 49) rfl (by kernel_rfl) (by kernel_rfl) (by kernel_rfl) (by kernel_rfl) (fun _ _ _ h => h) (by rfl) (by assumption) ?_
            try simp only [Act.put, List.setIfInBounds_toArray, List.set_cons_zero, List.set_cons_succ]
            refine take_no 24 (some 50) rfl (by kernel_rfl) (by kernel_rfl) (by kernel_rfl) (by kernel_rfl) (fun _ _ _ h => h) (by rfl) (by assumption) ?_
            try simp only [Act.put, List.setIfInBounds_toArray, List.set_cons_zero, List.set_cons_succ]
            refine take_no 25 (some 51) rfl (by kernel_rfl) (by kernel_rfl) (by kernel_rfl) (by kernel_rfl) (fun _ _ _ h => h) (by rfl) (by assumption) ?_
            try simp only [Act.put, List.setIfInBounds_toArray, List.set_cons_zero, List.set_cons_succ]
            refine take_no 26 (some 52) rfl (by kernel_rfl) (by kernel_rfl) (by kernel_rfl) (by kernel_rfl) (fun _ _ _ h => h) (by rfl) (by assumption) ?_
            try simp only [Act.put, List.setIfInBounds_toArray, List.set_cons_zero, List.set_cons_succ]
            refine take_yes 27 (some 53) (v := ?_) rfl (by kernel_rfl) (by kernel_rfl) (by kernel_rfl) (by kernel_rfl) (fun _ _ _ h => h) (by rfl) (by assumption) ?_ ?_
            rotate_left
            · (intro w' hSw; (try dsimp only at hSw); go_simp; try with_reducible rfl)
            try simp only [Act.put, List.setIfInBounds_toArray, List.set_cons_zero, List.set_cons_succ]
            refine wpAnyH_done (by kernel_rfl) ?_ _
            clear hHeld2
            have hss := HS.out.trans (Since.of_drew hs1)
            go_wp2
            go_ret
            exact ⟨ret_bool HX.out.symm, hs0.trans hss⟩
        · obtain rfl : j = m := by omega
          have HA2 : Hid (∀ e ∈ g.es, edB g.vs.length e = true) := by
            have := HA.out
            rw [List.take_of_length_le (by have := HM.out; omega)] at this
            exact this
          have HP2 : Hid (g.es.Pairwise idLt) := by
            have := HP.out
            rw [List.take_of_length_le (by have := HM.out; omega)] at this
            exact this
          have HV2 : Hid (validB g = (inB (k : Int) 1 5 && decide (j ≤ 12))) := by
            unfold Hid
            rw [valid_all HT2.out HA2.out HP2.out, ← HN.out, ← HM.out]
          have hsw := Lib.hid (hs0.trans HS.out)
          by_cases h5 : inB (k : Int) 1 5 = true
          · have hdl : decide ((j : Int) ≤ 12) = decide (j ≤ 12) := by rw [decide_eq_decide]; omega
            go_wp2_with (go_at_call 22; refine (l1In_any _ _ _ _).mono ?_; rintro e w' ⟨rfl, rfl⟩)
            go_ret
            exact ⟨ret_bool (by rw [HV2.out, h5]; first | rfl | (simp; omega)), hsw.out⟩
          · have h52 : inB (k : Int) 1 5 = false := by simpa using h5
            clear h5
            go_wp2_with (go_at_call 22; refine (l1In_any _ _ _ _).mono ?_; rintro e w' ⟨rfl, rfl⟩)
            go_ret
            exact ⟨ret_bool (by rw [HV2.out, h52]; rfl), hsw.out⟩
end Go.Proofs.YtpmkpeclfhmhlaaDoor

/- IsValidGraph, the program's. -/
namespace Go.Proofs.YtpmkpeclfhmhlaaDoor
set_option maxRecDepth 100000
open Go.ChangeShapes Go.WideShapes Go.ChangeAt Go.RowKit
set_option linter.unusedVariables false
set_option linter.unusedSimpArgs false

/-- The number of the edge ahead of place j, 0 at the first. -/
def prevId (es : List Edg) (j : Nat) : Int := if h : 0 < j ∧ j ≤ es.length then (es[j - 1]'(by omega)).id else 0
theorem prevId_zero (es : List Edg) : prevId es 0 = 0 := by unfold prevId; rw [dif_neg (by omega)]
theorem prevId_succ {es : List Edg} {j : Nat} (h : j < es.length) : prevId es (j + 1) = (es[j]).id := by unfold prevId; rw [dif_pos ⟨by omega, by omega⟩]; simp
theorem asc_step_prev {es : List Edg} {j : Nat} (hj : j < es.length) (hp : (es.take j).Pairwise idLt) (h : prevId es j < (es[j]).id) : (es.take (j + 1)).Pairwise idLt :=
  asc_step hj hp (fun h0 => by unfold prevId at h; rw [dif_pos ⟨h0, by omega⟩] at h; exact h)
theorem bad_prev {g : Grf} {j : Nat} (hj : j < g.es.length) (hed : edB g.vs.length g.es[j] = true) (h : (g.es[j]).id ≤ prevId g.es j) : validB g = false := by
  by_cases h0 : 0 < j
  · exact valid_bad_o hj h0 (by unfold prevId at h; rw [dif_pos ⟨h0, by omega⟩] at h; exact h)
  · have := edB_ids hed
    unfold prevId at h; rw [dif_neg (by omega)] at h; omega

set_option maxHeartbeats 1000000 in
set_option maxRecDepth 100000 in
theorem implVG_any (v : Value) (g : Grf) (w : World) (h : GrfAt w v g) (h1 : g.vs.length ≤ 1048577) (h2 : g.es.length ≤ 1048577) :
    Calls Tryd.prog 39 #[v] w fun e w' => e = .returned (.bool (validB g)) ∧ Since w w' := by
  obtain ⟨a, b, rfl, ha, hb⟩ := h
  obtain ⟨ao, ac, rfl, HV⟩ := ha.row
  obtain ⟨bo, bc, rfl, HE⟩ := hb.row
  clear ha hb
  obtain ⟨n, hn⟩ : ∃ n, n = g.vs.length := ⟨_, rfl⟩
  obtain ⟨m, hm⟩ : ∃ m, m = g.es.length := ⟨_, rfl⟩
  rw [← hn, ← hm]
  have hn9 : n ≤ 1048577 := by omega
  have hm9 : m ≤ 1048577 := by omega
  have HN := Lib.hid hn
  have HM := Lib.hid hm
  clear hn hm h1 h2
  have hs0 : Since w (w.alloc (.cells #[.slice ao n ac, .slice bo m bc] 40)) := (Since.refl w).alloc _
  have HB : Hid (Blk (w.alloc (.cells #[.slice ao n ac, .slice bo m bc] 40)) w.heap.size 40 #[.slice ao n ac, .slice bo m bc]) := Blk.new rfl _ _
  have HBAD : Hid (¬ (1 ≤ n ∧ n ≤ 5 ∧ m ≤ 12) → validB g = false) := fun hh => validB_false (fun hv => hh (by have := hv.1; have := HN.out; have := HM.out; omega))
  by_cases c1 : n < 1
  · have HX := Lib.hid (HBAD.out (by omega))
    go_enter Tryd.func39, Tryd.ntmps39
    go_wp2
    go_ret
    exact ⟨ret_bool HX.out.symm, hs0⟩
  · by_cases c2 : 5 < n
    · have HX := Lib.hid (HBAD.out (by omega))
      go_enter Tryd.func39, Tryd.ntmps39
      go_wp2
      go_ret
      exact ⟨ret_bool HX.out.symm, hs0⟩
    · by_cases c3 : 12 < m
      · have HX := Lib.hid (HBAD.out (by omega))
        go_enter Tryd.func39, Tryd.ntmps39
        go_wp2
        go_ret
        exact ⟨ret_bool HX.out.symm, hs0⟩
      · go_enter Tryd.func39, Tryd.ntmps39
        go_wp2
        go_loop [27] (fun i => ∃ k : Nat, k ≤ n ∧ i = .int .i64 k ∧ Hid (∀ x ∈ g.vs.take k, inB x 0 2 = true)) (fun i => n - (intOf i).toNat)
        case atStart => exact ⟨0, Nat.zero_le _, rfl, fun x hx => by simp at hx⟩
        case round =>
          obtain ⟨k, hk, rfl, HT⟩ := hrel
          by_cases hlt : k < n
          · have hx : k < g.vs.length := by have := HN.out; omega
            obtain ⟨bv, ov, rfl, hbv, cv⟩ := HV.out k hx
            rw [← since_cells hs0 hbv] at cv
            by_cases hg : inB g.vs[k] 0 2 = true
            · have HT2 := Lib.hid (all_take_step (P := fun x => inB x 0 2 = true) hx HT.out hg)
              go_wp2_with (go_at_call 58; refine (isValue_any _ _).mono ?_; rintro e w' ⟨rfl, rfl⟩)
              go_round
              case rel => exact ⟨k + 1, by omega, by go_num, HT2⟩
              case measure => simp [intOf]; omega
            · have hg2 : inB g.vs[k] 0 2 = false := by simpa using hg
              have HX := Lib.hid (valid_bad_v hx hg2)
              clear hg
              go_wp2_with (go_at_call 58; refine (isValue_any _ _).mono ?_; rintro e w' ⟨rfl, rfl⟩)
              go_ret
              exact ⟨ret_bool HX.out.symm, hs0⟩
          · obtain rfl : k = n := by omega
            have HT2 : Hid (∀ x ∈ g.vs, inB x 0 2 = true) := by
              have := HT.out
              rw [List.take_of_length_le (by have := HN.out; omega)] at this
              exact this
            clear HT
            go_wp2_with fail
            go_loopw [5, 38] (fun q i wr => ∃ j : Nat, j ≤ m ∧ i = .int .i64 j ∧ q = .int .i64 (prevId g.es j) ∧ Hid (∀ e ∈ g.es.take j, edB g.vs.length e = true) ∧ Hid ((g.es.take j).Pairwise idLt) ∧ Hid (Since (w.alloc (.cells #[.slice ao k ac, .slice bo m bc] 40)) wr)) (fun _ i _ => m - (intOf i).toNat)
            case atStart => exact ⟨0, Nat.zero_le _, rfl, by rw [prevId_zero], fun x hx => by simp at hx, by unfold Hid; simp, Since.refl _⟩
            case round =>
              obtain ⟨j, hj, rfl, rfl, HA, HP, HS⟩ := hrel
              by_cases hlt2 : j < m
              · have hx : j < g.es.length := by have := HM.out; omega
                obtain ⟨be, oe, rfl, hbe, d0, d1, d2, d3⟩ := HE.out j hx
                have hsw := hs0.trans HS.out
                have s1 := since_cells hsw hbe
                rw [← s1] at d0 d1 d2 d3
                have b0 := Lib.hid ((HB.out.since HS.out).alloc (.cells #[.int .i64 g.es[j].id, .int .i64 g.es[j].fr, .int .i64 g.es[j].to, .int .i64 g.es[j].lb] 25))
                have b1 : Hid (Blk (wr.alloc (.cells #[.int .i64 g.es[j].id, .int .i64 g.es[j].fr, .int .i64 g.es[j].to, .int .i64 g.es[j].lb] 25)) wr.heap.size 25 #[.int .i64 g.es[j].id, .int .i64 g.es[j].fr, .int .i64 g.es[j].to, .int .i64 g.es[j].lb]) := Blk.new rfl _ _
                obtain ⟨p0, p1, _, _⟩ := (b0.out).two
                have hs2 := HS.out.alloc (.cells #[.int .i64 g.es[j].id, .int .i64 g.es[j].fr, .int .i64 g.es[j].to, .int .i64 g.es[j].lb] 25)
                have HPS := Lib.hid (prevId_succ hx)
                clear s1 hsw
                by_cases hed : edB k g.es[j] = true
                · have hed1 : edB g.vs.length g.es[j] = true := by rw [← HN.out]; exact hed
                  have HA2 := Lib.hid (all_take_step (P := fun e => edB g.vs.length e = true) hx HA.out hed1)
                  by_cases hord : prevId g.es j < (g.es[j]).id
                  · have HP2 := Lib.hid (asc_step_prev hx HP.out hord)
                    clear hed1
                    go_wp2_with fail
                    refine (isEdge_is g.es[j] k true _ hed).mono ?_
                    rintro e w1 ⟨rfl, hs1⟩
                    obtain ⟨q0, q1, q2, q3, _⟩ := (b1.out.since hs1).four
                    have hs3 := hs2.trans hs1
                    go_wp2
                    go_roundw
                    case rel => exact ⟨j + 1, by omega, by go_num, by rw [HPS.out], HA2, HP2, hs3⟩
                    case measure => simp [intOf]; omega
                  · have HX := Lib.hid (bad_prev hx hed1 (by omega))
                    clear hed1
                    go_wp2_with fail
                    refine (isEdge_is g.es[j] k true _ hed).mono ?_
                    rintro e w1 ⟨rfl, hs1⟩
                    obtain ⟨q0, q1, q2, q3, _⟩ := (b1.out.since hs1).four
                    have hs3 := hs2.trans hs1
                    go_wp2
                    go_ret
                    exact ⟨ret_bool HX.out.symm, hs0.trans hs3⟩
                · have hed2 : edB k g.es[j] = false := by simpa using hed
                  have HX := Lib.hid (valid_bad_e hx (by rw [← HN.out]; exact hed2))
                  clear hed
                  go_wp2_with fail
                  refine (isEdge_is g.es[j] k false _ hed2).mono ?_
                  rintro e w1 ⟨rfl, hs1⟩
                  have hs3 := hs2.trans hs1
                  go_wp2
                  go_ret
                  exact ⟨ret_bool HX.out.symm, hs0.trans hs3⟩
              · obtain rfl : j = m := by omega
                have HA2 : ∀ e ∈ g.es, edB g.vs.length e = true := by
                  have := HA.out
                  rw [List.take_of_length_le (by have := HM.out; omega)] at this
                  exact this
                have HP2 : g.es.Pairwise idLt := by
                  have := HP.out
                  rw [List.take_of_length_le (by have := HM.out; omega)] at this
                  exact this
                have HV2 : Hid (validB g = true) := by
                  unfold Hid
                  rw [valid_all HT2.out HA2 HP2, ← HN.out, ← HM.out, inB_true (by omega) (by omega)]
                  simp; omega
                have hsw := Lib.hid (hs0.trans HS.out)
                clear HA2 HP2
                go_wp2
                go_ret
                exact ⟨ret_bool HV2.out.symm, hsw.out⟩
end Go.Proofs.YtpmkpeclfhmhlaaDoor

/- The law of IsValidGraph, walked. -/
namespace Go.Proofs.YtpmkpeclfhmhlaaDoor
set_option maxRecDepth 100000
open Go.ChangeShapes Go.WideShapes Go.ChangeAt Go.RowKit
set_option linter.unusedVariables false
set_option linter.unusedSimpArgs false

theorem szG_small {g : Grf} (h : ¬ szG g 1048576 < 0) : g.vs.length ≤ 1048577 ∧ g.es.length ≤ 1048577 ∧ (g.vs.length : Int) + (g.es.length : Int) ≤ 1048576 ∧ szG g 1048576 = 1048576 - (g.vs.length : Int) - (g.es.length : Int) := by
  unfold szG szLeft at h ⊢
  by_cases c : (1048576 : Int) - (g.vs.length : Int) < 0
  · rw [if_pos c] at h; omega
  · rw [if_neg c] at h ⊢
    by_cases d : (1048576 : Int) - (g.vs.length : Int) - (g.es.length : Int) < 0
    · rw [if_pos d] at h; omega
    · rw [if_neg d] at h ⊢; omega
theorem szG_is (v : Value) (g : Grf) (left x : Int) (w : World) (h : GrfAt w v g) (hl : g.vs.length ≤ maxLen ∧ g.es.length ≤ maxLen) (h0 : 0 ≤ left) (h1 : left ≤ 1048576) (hx : szG g left = x) :
    Calls Tryd.prog 13 #[v, .int .i64 left] w fun e w' => e = .returned (.int .i64 x) ∧ Since w w' := by subst hx; exact szGraph_any v g left w h hl.1 hl.2 h0 h1

end Go.Proofs.YtpmkpeclfhmhlaaDoor

/- EdgeIndex, the model's and the program's. -/
namespace Go.Proofs.YtpmkpeclfhmhlaaDoor
set_option maxRecDepth 100000
open Go.ChangeShapes Go.WideShapes Go.ChangeAt Go.RowKit
set_option linter.unusedVariables false
set_option linter.unusedSimpArgs false

theorem ne_step {es : List Edg} {id : Int} {k : Nat} (hk : k < es.length) (h : ∀ j (hj : j < k), (es[j]'(by omega)).id ≠ id) (hx : (es[k]).id ≠ id) : ∀ j (hj : j < k + 1), (es[j]'(by omega)).id ≠ id := by
  intro j hj
  by_cases e : j = k
  · subst e; exact hx
  · exact h j (by omega)
/-- No edge ahead of place k has this number. -/
def noneTo (es : List Edg) (id : Int) (k : Nat) : Prop := ∀ j (_ : j < k) (h : j < es.length), (es[j]).id ≠ id
theorem noneTo_zero (es : List Edg) (id : Int) : noneTo es id 0 := fun j hj => by omega
theorem noneTo_step {es : List Edg} {id : Int} {k : Nat} (hk : k < es.length) (h : noneTo es id k) (hx : (es[k]).id ≠ id) : noneTo es id (k + 1) := by
  intro j hj hl
  by_cases e : j = k
  · subst e; exact hx
  · exact h j (by omega) hl
theorem noneTo_hit {es : List Edg} {id : Int} {k : Nat} (hk : k < es.length) (h : noneTo es id k) (hx : (es[k]).id = id) : idxE es id = k := idxE_at hk hx (fun j hj => h j hj (by omega))
theorem noneTo_end {es : List Edg} {id : Int} (h : noneTo es id es.length) : idxE es id = -1 := idxE_none (fun j hj => h j hj hj)

end Go.Proofs.YtpmkpeclfhmhlaaDoor
