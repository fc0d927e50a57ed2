/- The laws' marks on graphs, and their checks. -/
import Derived.Test.YtpmkpeclfhmhlaaDoorK1
namespace Go.Proofs.YtpmkpeclfhmhlaaDoor
set_option maxRecDepth 100000
open Go.ChangeShapes Go.WideShapes Go.ChangeAt Go.RowKit
set_option linter.unusedVariables false

/-- What markEdgeS writes: k, k + 1, .. -/
def edgAt (k : Int) (i : Nat) : Edg := ⟨k + 4 * (i : Int), k + 4 * (i : Int) + 1, k + 4 * (i : Int) + 1 + 1, k + 4 * (i : Int) + 1 + 1 + 1⟩
def countE (k : Int) (n : Nat) : List Edg := (List.range n).map (edgAt k)
theorem countE_length (k : Int) (n : Nat) : (countE k n).length = n := by simp [countE]
theorem countE_at (k : Int) (n i : Nat) (h : i < n) : (countE k n)[i]'(by rw [countE_length]; exact h) = edgAt k i := by simp [countE]
theorem countE_in (k : Int) (n : Nat) (h0 : 0 ≤ k) (h9 : k ≤ 1152921504606846976) (hn : n ≤ 288230376151711744) : ∀ x ∈ countE k n, x.In := by
  intro x hx
  simp [countE] at hx
  obtain ⟨i, hi, rfl⟩ := hx
  unfold Edg.In InI edgAt; simp; omega
/-- A row xs of which the first j are written. -/
def markedE (xs : List Edg) (k : Int) (j : Nat) : List Edg := countE k j ++ xs.drop j
theorem markedE_zero (xs : List Edg) (k : Int) : markedE xs k 0 = xs := by simp [markedE, countE]
theorem markedE_all (xs : List Edg) (k : Int) : markedE xs k xs.length = countE k xs.length := by simp [markedE]
theorem markedE_length (xs : List Edg) (k : Int) (j : Nat) (h : j ≤ xs.length) : (markedE xs k j).length = xs.length := by simp [markedE, countE_length]; omega
theorem markedE_set (xs : List Edg) (k : Int) (j : Nat) (h : j < xs.length) : (markedE xs k j).set j (edgAt k j) = markedE xs k (j + 1) := by
  unfold markedE
  rw [List.set_append_right _ _ (by simp [countE]), countE_length, Nat.sub_self, List.drop_eq_getElem_cons h, List.set_cons_zero]
  have : countE k (j + 1) = countE k j ++ [edgAt k j] := by simp [countE, List.range_succ]
  rw [this, List.append_assoc]; rfl

def MarkEOut (base : Nat) (w : World) (v : Value) (k : Int) (n : Nat) (e : Ending) (w' : World) : Prop :=
  e = .returned (.int .i64 (k + 4 * n)) ∧ OwnE base w' v (countE k n) ∧ w.grownBy w' v.ownBlock
set_option maxRecDepth 100000 in
theorem markEdgeS_any (base : Nat) (v : Value) (xs : List Edg) (k : Int) (w : World) (h : OwnE base w v xs) (hk0 : 0 ≤ k) (hk9 : k ≤ 1152921504606846976) (hl : xs.length ≤ 288230376151711744) :
    Calls Tryd.prog 46 #[v, .int .i64 k] w (MarkEOut base w v k xs.length) := by
  obtain ⟨_, hown⟩ := h
  have hcase : v = .slice none 0 0 ∧ xs.length = 0 ∨ ∃ g cap, v = .slice (some ⟨g, 0, none⟩) xs.length cap ∧ base ≤ g := by
    rcases hown.2 with ⟨a, b⟩ | ⟨g, cap, cur, a, b, _⟩
    · exact .inl ⟨a, b⟩
    · exact .inr ⟨g, cap, a, b⟩
  obtain ⟨n, hn⟩ : ∃ n, n = xs.length := ⟨_, rfl⟩
  rw [← hn] at hcase hown hl ⊢
  have HCN := Lib.hid (countE_in k n hk0 hk9 hl)
  rcases hcase with ⟨rfl, hn0⟩ | ⟨g, cap, rfl, hg⟩
  · subst hn0
    clear hn hown
    go_enter Tryd.func46, Tryd.ntmps46
    go_wp2
    go_loopw [1, 5] (fun q i wr => q = .int .i64 k ∧ i = .int .i64 0 ∧ wr = w) (fun _ _ _ => 0)
    case atStart => exact ⟨rfl, rfl, rfl⟩
    case round =>
      obtain ⟨rfl, rfl, rfl⟩ := hrel
      go_wp2
      go_ret
      exact ⟨ret_int (by simp), ⟨HCN.out, by simp [countE, ecells]; exact World.ownsRow_nil _ _ _ _⟩, ⟨rfl, rfl, rfl, Nat.le_refl _, fun _ _ _ => rfl⟩⟩
  · have hown0 : w.ownsRow base 25 4 (.slice (some ⟨g, 0, none⟩) n cap) n (ecells (markedE xs k 0)) := by rw [markedE_zero]; exact hown
    clear hown
    have HN := Lib.hid hn
    clear hn
    go_enter Tryd.func46, Tryd.ntmps46
    go_wp2
    go_loopw [1, 5] (fun q i wr => ∃ j : Nat, j ≤ n ∧ i = .int .i64 j ∧ q = .int .i64 (k + 4 * j) ∧ wr.ownsRow base 25 4 (.slice (some ⟨g, 0, none⟩) n cap) n (ecells (markedE xs k j)) ∧ w.grownBy wr (some g)) (fun _ i _ => n - (intOf i).toNat)
    case atStart => exact ⟨0, Nat.zero_le _, rfl, by simp, hown0, ⟨rfl, rfl, rfl, Nat.le_refl _, fun _ _ _ => rfl⟩⟩
    case round =>
      obtain ⟨j, hj, rfl, rfl, hown, hgr⟩ := hrel
      by_cases hlt : j < n
      · have hx : j < xs.length := by have := HN.out; omega
        have hml : (markedE xs k j).length = xs.length := markedE_length xs k j (by omega)
        have hmj : j < (markedE xs k j).length := by omega
        obtain ⟨d0, d1, d2, d3⟩ := ownE_cells hown (by rw [hml]; exact HN.out) j hmj
        obtain ⟨m0, hm0⟩ : ∃ m : Edg, m = (markedE xs k j)[j]'hmj := ⟨_, rfl⟩
        rw [← hm0] at d0 d1 d2 d3
        clear hm0
        have f0 := hown.frozenAt (j * 4)
        have f1 := hown.frozenAt (j * 4 + 1)
        have f2 := hown.frozenAt (j * 4 + 2)
        have f3 := hown.frozenAt (j * 4 + 3)
        have hst := row_set4 hown j (by omega) (edgAt k j)
        rw [markedE_set xs k j hx] at hst
        unfold edgAt at hst
        have HST := Lib.hid hst
        have HG := Lib.hid (grow_tr (grow_tr (grow_tr (grow_tr hgr (hown.stored (j * 4) (.int .i64 (k + 4 * (j : Int)))).2) ((hown.stored (j * 4) (.int .i64 (k + 4 * (j : Int)))).1.stored (j * 4 + 1) (.int .i64 (k + 4 * (j : Int) + 1))).2)
          (((hown.stored (j * 4) (.int .i64 (k + 4 * (j : Int)))).1.stored (j * 4 + 1) (.int .i64 (k + 4 * (j : Int) + 1))).1.stored (j * 4 + 2) (.int .i64 (k + 4 * (j : Int) + 1 + 1))).2)
          ((((hown.stored (j * 4) (.int .i64 (k + 4 * (j : Int)))).1.stored (j * 4 + 1) (.int .i64 (k + 4 * (j : Int) + 1))).1.stored (j * 4 + 2) (.int .i64 (k + 4 * (j : Int) + 1 + 1))).1.stored (j * 4 + 3) (.int .i64 (k + 4 * (j : Int) + 1 + 1 + 1))).2)
        clear hst hml hmj hown
        go_wp2
        go_roundw
        case rel => exact ⟨j + 1, by omega, by go_num, by go_num, HST.out, HG.out⟩
        case measure => simp [intOf]; omega
      · obtain rfl : j = n := by omega
        have hr : markedE xs k j = countE k j := by
          have := HN.out; subst this; exact markedE_all xs k
        rw [hr] at hown
        have HO := Lib.hid hown
        clear hr hown
        go_wp2
        go_ret
        exact ⟨rfl, ⟨HCN.out, by rw [countE_length]; exact HO.out⟩, hgr⟩

set_option maxRecDepth 100000 in
theorem heldEdgeS_any (v : Value) (k : Int) (n : Nat) (w : World) (h : EdgesAt w v (countE k n)) (hk0 : 0 ≤ k) (hk9 : k ≤ 1152921504606846976) (hl : n ≤ 288230376151711744) :
    Calls Tryd.prog 48 #[v, .int .i64 k] w fun e w' => e = .returned (.int .i64 (k + 4 * n)) ∧ w = w' := by
  obtain ⟨ao, cap, rfl, HC⟩ := h.row
  clear h
  rw [countE_length]
  have HC2 : Hid (∀ i, i < n → ∃ b off, ao = some ⟨b, off, none⟩ ∧ w.cell? ⟨b, off + i * 4, none⟩ = some (.int .i64 (k + 4 * (i : Int))) ∧ w.cell? ⟨b, off + i * 4 + 1, none⟩ = some (.int .i64 (k + 4 * (i : Int) + 1)) ∧
      w.cell? ⟨b, off + i * 4 + 2, none⟩ = some (.int .i64 (k + 4 * (i : Int) + 1 + 1)) ∧ w.cell? ⟨b, off + i * 4 + 3, none⟩ = some (.int .i64 (k + 4 * (i : Int) + 1 + 1 + 1))) := by
    intro i hi
    obtain ⟨b, off, e, _, c0, c1, c2, c3⟩ := HC.out i (by rw [countE_length]; exact hi)
    rw [countE_at k n i hi] at c0 c1 c2 c3
    exact ⟨b, off, e, c0, c1, c2, c3⟩
  clear HC
  go_enter Tryd.func48, Tryd.ntmps48
  go_wp2
  go_loop [1, 5] (fun q i => ∃ j : Nat, j ≤ n ∧ i = .int .i64 j ∧ q = .int .i64 (k + 4 * j)) (fun _ i => n - (intOf i).toNat)
  case atStart => exact ⟨0, Nat.zero_le _, rfl, by simp⟩
  case round =>
    obtain ⟨j, hj, rfl, rfl⟩ := hrel
    by_cases hlt : j < n
    · obtain ⟨b, off, rfl, c0, c1, c2, c3⟩ := HC2.out j hlt
      have b0 : (k + 4 * (j : Int) != k + 4 * (j : Int)) = false := by simp
      have b1 : (k + 4 * (j : Int) + 1 != k + 4 * (j : Int) + 1) = false := by simp
      have b2 : (k + 4 * (j : Int) + 1 + 1 != k + 4 * (j : Int) + 1 + 1) = false := by simp
      have b3 : (k + 4 * (j : Int) + 1 + 1 + 1 != k + 4 * (j : Int) + 1 + 1 + 1) = false := by simp
      go_wp2
      go_round
      case rel => exact ⟨j + 1, by omega, by go_num, by go_num⟩
      case measure => simp [intOf]; omega
    · obtain rfl : j = n := by omega
      go_wp2
      go_ret
      exact ⟨rfl, rfl⟩

/-- What markGraph writes. -/
def cntG (k : Int) (g : Grf) : Grf := ⟨count k g.vs.length, countE (k + g.vs.length) g.es.length⟩
theorem cntG_vs (k : Int) (g : Grf) : (cntG k g).vs.length = g.vs.length := count_length _ _
theorem cntG_es (k : Int) (g : Grf) : (cntG k g).es.length = g.es.length := countE_length _ _
def szOf (g : Grf) : Int := (g.vs.length : Int) + 4 * (g.es.length : Int)
def MarkGOut (lo hi : Nat) (w : World) (v : Value) (k : Int) (g : Grf) (e : Ending) (w' : World) : Prop :=
  e = .returned (.int .i64 (k + szOf g)) ∧ OwnG lo hi w' v (cntG k g) ∧ Within lo hi w w'
set_option maxRecDepth 100000 in
theorem markGraph_any (lo hi : Nat) (v : Value) (g : Grf) (k : Int) (w : World) (h : OwnG lo hi w v g) (hhi : hi ≤ w.heap.size) (hk0 : 0 ≤ k) (hk9 : k ≤ 1152921504) (h1 : g.vs.length ≤ 1152921504) (h2 : g.es.length ≤ 1152921504) :
    Calls Tryd.prog 20 #[v, .int .i64 k] w (MarkGOut lo hi w v k g) := by
  obtain ⟨a, b, rfl, ha, ra, hb, rb⟩ := h
  have HA := Lib.hid ha
  have HB := Lib.hid hb
  clear ha hb
  obtain ⟨ao, ac, rfl⟩ := HA.out.len
  obtain ⟨bo, bc, rfl⟩ := HB.out.len
  have hs0 : Since w (w.alloc (.cells #[.slice ao g.vs.length ac, .slice bo g.es.length bc] 40)) := (Since.refl w).alloc _
  have B0 : Hid (Blk (w.alloc (.cells #[.slice ao g.vs.length ac, .slice bo g.es.length bc] 40)) w.heap.size 40 #[.slice ao g.vs.length ac, .slice bo g.es.length bc]) := Blk.new rfl _ _
  have hn0 : 0 ≤ k + (g.vs.length : Int) := by omega
  have hn9 : k + (g.vs.length : Int) ≤ 1152921504606846976 := by omega
  go_enter Tryd.func20, Tryd.ntmps20
  go_wp2_with fail
  refine (markIntS_any lo _ g.vs k _ (HA.out.since hs0) hk0 (by omega) (by omega)).mono ?_
  rintro e w1 ⟨rfl, ho1, hg1⟩
  have hw1 : Hid (Within lo hi w w1) := (Within.of_since hs0).trans (Within.of_grown hg1 ra)
  have b0 : Hid (Blk w1 w.heap.size 40 #[.slice ao g.vs.length ac, .slice bo g.es.length bc]) := B0.out.within (Within.of_grown hg1 ra) (.inr hhi)
  have hob : Hid (OwnE lo w1 (.slice bo g.es.length bc) g.es) := (HB.out.since hs0).grown hg1 (own_apart' (HA.out.since hs0) (HB.out.since hs0))
  have HO1 := Lib.hid ho1
  clear ho1 hg1
  obtain ⟨p0, p1, _, _⟩ := b0.out.two
  go_wp2_with fail
  refine (markEdgeS_any lo _ g.es (k + (g.vs.length : Int)) _ hob.out hn0 hn9 (by omega)).mono ?_
  rintro e w2 ⟨rfl, ho2, hg2⟩
  have hoa : Own lo w2 (.slice ao g.vs.length ac) (count k g.vs.length) := by
    refine ⟨HO1.out.1, HO1.out.2.kept hg2 ?_⟩
    exact own_apart HO1.out hob.out
  have HO2 := Lib.hid ho2
  have HO3 := Lib.hid hoa
  have hw2 : Hid (Within lo hi w w2) := hw1.out.trans (Within.of_grown hg2 rb)
  clear ho2 hoa hg2
  go_wp2
  go_ret
  exact ⟨ret_int (by unfold szOf; omega), ⟨_, _, rfl, HO3.out, ra, HO2.out, rb⟩, hw2.out⟩
set_option maxRecDepth 100000 in
theorem heldGraph_any (v : Value) (g : Grf) (k : Int) (w : World) (h : GrfAt w v (cntG k g)) (hk0 : 0 ≤ k) (hk9 : k ≤ 1152921504) (h1 : g.vs.length ≤ 1152921504) (h2 : g.es.length ≤ 1152921504) :
    Calls Tryd.prog 21 #[v, .int .i64 k] w fun e w' => e = .returned (.int .i64 (k + szOf g)) ∧ Since w w' := by
  obtain ⟨a, b, rfl, ha, hb⟩ := h
  have HA : Hid (IntsAt w a (count k g.vs.length)) := ha
  have HB : Hid (EdgesAt w b (countE (k + g.vs.length) g.es.length)) := hb
  clear ha hb
  obtain ⟨ao, ac, rfl, _⟩ := HA.out.row
  obtain ⟨bo, bc, rfl⟩ := HB.out.len
  obtain ⟨n, hn⟩ : ∃ n, n = (count k g.vs.length).length := ⟨_, rfl⟩
  obtain ⟨m, hm⟩ : ∃ m, m = (countE (k + g.vs.length) g.es.length).length := ⟨_, rfl⟩
  rw [← hn] at HA ⊢
  rw [← hm] at HB ⊢
  clear hn hm
  have hs0 : Since w (w.alloc (.cells #[.slice ao n ac, .slice bo m bc] 40)) := (Since.refl w).alloc _
  have hn0 : 0 ≤ k + (g.vs.length : Int) := by omega
  have hn9 : k + (g.vs.length : Int) ≤ 1152921504606846976 := by omega
  have d1 : decide (k + (g.vs.length : Int) < 0) = false := by simp; omega
  have d2 : decide (k + (g.vs.length : Int) + 4 * (g.es.length : Int) < 0) = false := by simp; omega
  go_enter Tryd.func21, Tryd.ntmps21
  go_wp2_with fail
  refine (heldIntS_any _ k g.vs.length _ (HA.out.since hs0) hk0 (by omega) (by omega)).mono ?_
  rintro e w1 ⟨rfl, rfl⟩
  go_wp2_with fail
  refine (heldEdgeS_any _ (k + (g.vs.length : Int)) g.es.length _ (HB.out.since hs0) hn0 hn9 (by omega)).mono ?_
  rintro e w1 ⟨rfl, rfl⟩
  go_wp2
  go_ret
  exact ⟨ret_int (by unfold szOf; omega), hs0⟩
end Go.Proofs.YtpmkpeclfhmhlaaDoor
