/- The laws' helpers on tokens and expressions: copies, sizes, comparisons, marks and checks. -/
import Derived.Test.YtblmiocjhbpklaaDoorTok
import Derived.Test.YtblmiocjhbpklaaDoorK1
import Derived.Laws.StructEq
namespace Go.Proofs.YtblmiocjhbpklaaDoor
set_option maxRecDepth 100000
open Go.ChangeShapes Go.WideShapes Go.ChangeAt Go.RowKit
set_option linter.unusedVariables false
set_option linter.unusedSimpArgs false

def TokOut (w : World) (xs : List Tok) (e : Ending) (w' : World) : Prop := ∃ v, e = .returned v ∧ OwnK w.heap.size w' v xs ∧ Since w w'
set_option maxRecDepth 100000 in
theorem toTokenS_any (v : Value) (xs : List Tok) (w : World) (h : ToksAt w v xs) (hl : xs.length ≤ 1048577) :
    Calls Tryd.prog 80 #[v] w (TokOut w xs) := by
  have HI := Lib.hid h.1
  obtain ⟨ao, cap0, rfl, HC⟩ := h.row
  clear h
  obtain ⟨i0, hi, hz0, hz1, hz2⟩ := info_parts info_tok
  have HZ2 := Lib.hid hz2
  clear hz2
  obtain ⟨n, hn⟩ : ∃ n, n = xs.length := ⟨_, rfl⟩
  rw [← hn]
  have hn9 : n ≤ 1048577 := by omega
  have HN := Lib.hid hn
  clear hn hl
  go_enter Tryd.func80, Tryd.ntmps80
  go_wp2_with (at_make; go_must (refine wpList_make_full _ rfl _ _ 24 rfl w.heap.size 90 i0 (kv zeroK) 4 Tryd.underlying24 hi hz0 hz1 .i64 .i64 _ _ n rfl rfl rfl rfl (by rw [HZ2.out]; omega) (by unfold maxLen; omega) (Nat.le_refl _) ?_); intro w1 hown hgrow)
  have hsin : Since w w1 := (Since.refl w).grown hgrow (fun _ h => by simp at h)
  have hrow : w1.ownsRow w.heap.size 90 4 (.slice (some ⟨w.heap.size, 0, none⟩) n n) n (kcells (filled xs zeroK 0)) := by
    rw [filled_zero, ← HN.out, ← made_toks]; exact hown
  clear hown hgrow
  go_loopw [4] (fun i wr => ∃ k : Nat, k ≤ n ∧ i = .int .i64 k ∧ wr.ownsRow w.heap.size 90 4 (.slice (some ⟨w.heap.size, 0, none⟩) n n) n (kcells (filled xs zeroK k)) ∧ Since w wr) (fun i _ => n - (intOf i).toNat)
  case atStart => exact ⟨0, Nat.zero_le _, rfl, hrow, hsin⟩
  case round =>
    obtain ⟨k, hk, rfl, hown, hsin⟩ := hrel
    by_cases hlt : k < n
    · have hx : k < xs.length := by have := HN.out; omega
      obtain ⟨b, off, rfl, hb, c0, c1, c2, c3⟩ := HC.out k hx
      have s1 := since_cells hsin hb
      rw [← s1] at c0 c1 c2 c3
      clear s1
      have HROW := Lib.hid hown
      clear hown
      go_wp2_with fail
      refine (toToken_any xs[k] _).mono ?_
      rintro e w2 ⟨rfl, hs2⟩
      have hs3 := hsin.trans hs2
      have hown2 := rowKept HROW.out hs2
      have hfl : k < (filled xs zeroK k).length := filled_getEK xs k k (by omega) hx
      obtain ⟨d0, d1, d2, d3⟩ := ownK_cells hown2 (by rw [filled_length _ _ _ (by omega)]; exact HN.out) k hfl
      have f0 := hown2.frozenAt (k * 4)
      have f1 := hown2.frozenAt (k * 4 + 1)
      have f2 := hown2.frozenAt (k * 4 + 2)
      have f3 := hown2.frozenAt (k * 4 + 3)
      have hst := row_set4K hown2 k hfl xs[k]
      rw [filled_set xs zeroK k hx] at hst
      have HST := Lib.hid hst
      clear hst hown2
      go_wp2
      go_roundw
      case rel => exact ⟨k + 1, by omega, by go_num, HST.out, (((hs3.setCell (Nat.le_refl _) _).setCell (Nat.le_refl _) _).setCell (Nat.le_refl _) _).setCell (Nat.le_refl _) _⟩
      case measure => simp [intOf]; omega
    · obtain rfl : k = n := by omega
      have hfin := filled_all xs zeroK k (by rw [← HN.out]; exact Nat.le_refl _)
      rw [hfin] at hown
      have HO : Hid (OwnK w.heap.size wr (.slice (some ⟨w.heap.size, 0, none⟩) k k) xs) := ⟨HI.out, by rw [← HN.out]; exact hown⟩
      clear hfin hown
      go_wp2
      go_ret
      exact ⟨_, rfl, HO.out, hsin⟩
set_option maxRecDepth 100000 in
theorem szTokenS_any (v : Value) (xs : List Tok) (left : Int) (w : World) (h : ToksAt w v xs) (hl : xs.length ≤ maxLen) (h0 : 0 ≤ left) (h1 : left ≤ 1048576) :
    Calls Tryd.prog 79 #[v, .int .i64 left] w fun e w' => e = .returned (.int .i64 (szLeft xs.length left)) ∧ w = w' := by
  obtain ⟨ao, cap, rfl, _⟩ := h.row
  clear h
  unfold maxLen at hl
  obtain ⟨n, hn⟩ : ∃ n, n = xs.length := ⟨_, rfl⟩
  rw [← hn] at hl ⊢
  clear hn
  by_cases hb : left - (n : Int) < 0
  · have HE : Hid (szLeft n left = -1) := by unfold Hid szLeft; rw [if_pos hb]
    go_enter Tryd.func79, Tryd.ntmps79
    go_wp2
    go_ret
    exact ⟨ret_int HE.out.symm, rfl⟩
  · have HE : Hid (szLeft n left = left - (n : Int)) := by unfold Hid szLeft; rw [if_neg hb]
    go_enter Tryd.func79, Tryd.ntmps79
    go_wp2
    go_ret
    exact ⟨ret_int HE.out.symm, rfl⟩

/-- What markEdgeS writes: k, k + 1, .. -/
def tokAt (k : Int) (i : Nat) : Tok := ⟨k + 4 * (i : Int), k + 4 * (i : Int) + 1, k + 4 * (i : Int) + 1 + 1, k + 4 * (i : Int) + 1 + 1 + 1⟩
def countEK (k : Int) (n : Nat) : List Tok := (List.range n).map (tokAt k)
theorem countE_lengthK (k : Int) (n : Nat) : (countEK k n).length = n := by simp [countEK]
theorem countE_atK (k : Int) (n i : Nat) (h : i < n) : (countEK k n)[i]'(by rw [countE_lengthK]; exact h) = tokAt k i := by simp [countEK]
theorem countE_inK (k : Int) (n : Nat) (h0 : 0 ≤ k) (h9 : k ≤ 1152921504606846976) (hn : n ≤ 288230376151711744) : ∀ x ∈ countEK k n, x.In := by
  intro x hx
  simp [countEK] at hx
  obtain ⟨i, hi, rfl⟩ := hx
  unfold Tok.In InI tokAt; simp; omega
/-- A row xs of which the first j are written. -/
def markedEK (xs : List Tok) (k : Int) (j : Nat) : List Tok := countEK k j ++ xs.drop j
theorem markedE_zeroK (xs : List Tok) (k : Int) : markedEK xs k 0 = xs := by simp [markedEK, countEK]
theorem markedE_allK (xs : List Tok) (k : Int) : markedEK xs k xs.length = countEK k xs.length := by simp [markedEK]
theorem markedE_lengthK (xs : List Tok) (k : Int) (j : Nat) (h : j ≤ xs.length) : (markedEK xs k j).length = xs.length := by simp [markedEK, countE_lengthK]; omega
theorem markedE_setK (xs : List Tok) (k : Int) (j : Nat) (h : j < xs.length) : (markedEK xs k j).set j (tokAt k j) = markedEK xs k (j + 1) := by
  unfold markedEK
  rw [List.set_append_right _ _ (by simp [countEK]), countE_lengthK, Nat.sub_self, List.drop_eq_getElem_cons h, List.set_cons_zero]
  have : countEK k (j + 1) = countEK k j ++ [tokAt k j] := by simp [countEK, List.range_succ]
  rw [this, List.append_assoc]; rfl
def MarkEOutK (base : Nat) (w : World) (v : Value) (k : Int) (n : Nat) (e : Ending) (w' : World) : Prop :=
  e = .returned (.int .i64 (k + 4 * n)) ∧ OwnK base w' v (countEK k n) ∧ w.grownBy w' v.ownBlock
set_option maxRecDepth 100000 in
theorem markTokenS_any (base : Nat) (v : Value) (xs : List Tok) (k : Int) (w : World) (h : OwnK base w v xs) (hk0 : 0 ≤ k) (hk9 : k ≤ 1152921504606846976) (hl : xs.length ≤ 288230376151711744) :
    Calls Tryd.prog 83 #[v, .int .i64 k] w (MarkEOutK base w v k xs.length) := by
  obtain ⟨_, hown⟩ := h
  have hcase : v = .slice none 0 0 ∧ xs.length = 0 ∨ ∃ g cap, v = .slice (some ⟨g, 0, none⟩) xs.length cap ∧ base ≤ g := by
    rcases hown.2 with ⟨a, b⟩ | ⟨g, cap, cur, a, b, _⟩
    · exact .inl ⟨a, b⟩
    · exact .inr ⟨g, cap, a, b⟩
  obtain ⟨n, hn⟩ : ∃ n, n = xs.length := ⟨_, rfl⟩
  rw [← hn] at hcase hown hl ⊢
  have HCN := Lib.hid (countE_inK k n hk0 hk9 hl)
  rcases hcase with ⟨rfl, hn0⟩ | ⟨g, cap, rfl, hg⟩
  · subst hn0
    clear hn hown
    go_enter Tryd.func83, Tryd.ntmps83
    go_wp2
    go_loopw [1, 5] (fun q i wr => q = .int .i64 k ∧ i = .int .i64 0 ∧ wr = w) (fun _ _ _ => 0)
    case atStart => exact ⟨rfl, rfl, rfl⟩
    case round =>
      obtain ⟨rfl, rfl, rfl⟩ := hrel
      go_wp2
      go_ret
      exact ⟨ret_int (by simp), ⟨HCN.out, by simp [countEK, kcells]; exact World.ownsRow_nil _ _ _ _⟩, ⟨rfl, rfl, rfl, Nat.le_refl _, fun _ _ _ => rfl⟩⟩
  · have hown0 : w.ownsRow base 90 4 (.slice (some ⟨g, 0, none⟩) n cap) n (kcells (markedEK xs k 0)) := by rw [markedE_zeroK]; exact hown
    clear hown
    have HN := Lib.hid hn
    clear hn
    go_enter Tryd.func83, Tryd.ntmps83
    go_wp2
    go_loopw [1, 5] (fun q i wr => ∃ j : Nat, j ≤ n ∧ i = .int .i64 j ∧ q = .int .i64 (k + 4 * j) ∧ wr.ownsRow base 90 4 (.slice (some ⟨g, 0, none⟩) n cap) n (kcells (markedEK xs k j)) ∧ w.grownBy wr (some g)) (fun _ i _ => n - (intOf i).toNat)
    case atStart => exact ⟨0, Nat.zero_le _, rfl, by simp, hown0, ⟨rfl, rfl, rfl, Nat.le_refl _, fun _ _ _ => rfl⟩⟩
    case round =>
      obtain ⟨j, hj, rfl, rfl, hown, hgr⟩ := hrel
      by_cases hlt : j < n
      · have hx : j < xs.length := by have := HN.out; omega
        have hml : (markedEK xs k j).length = xs.length := markedE_lengthK xs k j (by omega)
        have hmj : j < (markedEK xs k j).length := by omega
        obtain ⟨d0, d1, d2, d3⟩ := ownK_cells hown (by rw [hml]; exact HN.out) j hmj
        obtain ⟨m0, hm0⟩ : ∃ m : Tok, m = (markedEK xs k j)[j]'hmj := ⟨_, rfl⟩
        rw [← hm0] at d0 d1 d2 d3
        clear hm0
        have f0 := hown.frozenAt (j * 4)
        have f1 := hown.frozenAt (j * 4 + 1)
        have f2 := hown.frozenAt (j * 4 + 2)
        have f3 := hown.frozenAt (j * 4 + 3)
        have hst := row_set4K hown j (by omega) (tokAt k j)
        rw [markedE_setK xs k j hx] at hst
        unfold tokAt at hst
        have HST := Lib.hid hst
        have HG := Lib.hid (grow_tr (grow_tr (grow_tr (grow_tr hgr (hown.stored (j * 4) (.int .i64 (k + 4 * (j : Int)))).2) ((hown.stored (j * 4) (.int .i64 (k + 4 * (j : Int)))).1.stored (j * 4 + 1) (.int .i64 (k + 4 * (j : Int) + 1))).2)
          (((hown.stored (j * 4) (.int .i64 (k + 4 * (j : Int)))).1.stored (j * 4 + 1) (.int .i64 (k + 4 * (j : Int) + 1))).1.stored (j * 4 + 2) (.int .i64 (k + 4 * (j : Int) + 1 + 1))).2)
          ((((hown.stored (j * 4) (.int .i64 (k + 4 * (j : Int)))).1.stored (j * 4 + 1) (.int .i64 (k + 4 * (j : Int) + 1))).1.stored (j * 4 + 2) (.int .i64 (k + 4 * (j : Int) + 1 + 1))).1.stored (j * 4 + 3) (.int .i64 (k + 4 * (j : Int) + 1 + 1 + 1))).2)
        clear hst hml hmj hown
        go_wp2
        go_roundw
        case rel => exact ⟨j + 1, by omega, by go_num, by go_num, HST.out, HG.out⟩
        case measure => simp [intOf]; omega
      · obtain rfl : j = n := by omega
        have hr : markedEK xs k j = countEK k j := by
          have := HN.out; subst this; exact markedE_allK xs k
        rw [hr] at hown
        have HO := Lib.hid hown
        clear hr hown
        go_wp2
        go_ret
        exact ⟨rfl, ⟨HCN.out, by rw [countE_lengthK]; exact HO.out⟩, hgr⟩
theorem guard_tok : Tryd.prog.eqGuardType Tryd.prog.depth 90 = false := by kernel_rfl
theorem neq_tok (a b : Tok) (w : World) : (binOp .neq 90 (kv a) (kv b)).run Tryd.prog w = .ok (.bool (!decide (a = b))) w := by
  have u3 := Tryd.underlying3
  have a3 := Tryd.isAgg3
  have z3 := Tryd.sizeOf3
  have hS : Tryd.prog.underlying 90 = some (.struct (Tryd.prog.fieldsOf 90)) := by kernel_rfl
  have hp : Tryd.prog.stoodInHeld 90 = false := by kernel_rfl
  have hd : decide (a = b) = (a.kd == b.kd && a.lr == b.lr && a.lo == b.lo && a.hi == b.hi) := by
    rw [Bool.eq_iff_iff]; simp only [decide_eq_true_eq, Tok.eq_iff, Bool.and_eq_true, beq_iff_eq]
    constructor
    · intro h; exact ⟨⟨⟨h.1, h.2.1⟩, h.2.2.1⟩, h.2.2.2⟩
    · intro h; exact ⟨h.1.1.1, h.1.1.2, h.1.2, h.2⟩
  rw [hd]
  unfold kv
  rw [run_neq_struct, show (10000 : Nat) = 9999 + 1 from rfl, run_equalIn_agg w 9999 90 _ _ hS hp]
  simp only [Program.fieldsOf, Tryd.underlying90]
  go_simp
  by_cases h1 : a.kd = b.kd <;> by_cases h2 : a.lr = b.lr <;> by_cases h3 : a.lo = b.lo <;> by_cases h4 : a.hi = b.hi <;> simp [h1, h2, h3, h4]
set_option maxRecDepth 100000 in
theorem toExpr_any (v : Value) (x : List Tok) (w : World) (h : ExAt w v x) (h1 : x.length ≤ 1048577) :
    Calls Tryd.prog 31 #[v] w (XOut w x) := by
  obtain ⟨b, rfl, hb⟩ := h
  have HB := Lib.hid hb
  obtain ⟨bo, cb, rfl⟩ := hb.len
  obtain ⟨y, hy⟩ : ∃ y, y = (((w.alloc (.cells #[.slice bo x.length cb] 54)).alloc (.cells #[.slice none 0 0] 26)).alloc (.cells #[.slice none 0 0] 26)) := ⟨_, rfl⟩
  have hs0 : Since w y := by rw [hy]; exact (((Since.refl w).alloc _).alloc _).alloc _
  have hz : w.heap.size + 1 + 1 + 1 = y.heap.size := by rw [hy]; simp
  have B1 : Hid (Blk y (w.heap.size + 1) 26 #[.slice none 0 0]) := by rw [hy]; exact (Blk.new (by simp) _ _).alloc _
  have B2 : Hid (Blk y (w.heap.size + 1 + 1) 26 #[.slice none 0 0]) := by rw [hy]; exact Blk.new (by simp) _ _
  go_enter Tryd.func31, Tryd.ntmps31
  go_wp2_with fail
  rw [← hy]
  clear hy
  refine (toTokenS_any _ x _ (HB.out.since hs0) h1).mono ?_
  rintro e w1 ⟨v1, rfl, ho1, hs1⟩
  obtain ⟨ao1, cap1, rfl⟩ := ho1.len
  have HO1 := Lib.hid ho1
  clear ho1
  have hs01 := hs0.trans hs1
  have b1 := Lib.hid (B1.out.since hs1)
  have b2 := Lib.hid (B2.out.since hs1)
  have hw1 : y.heap.size ≤ w1.heap.size := hs1.size
  clear B1 B2
  obtain ⟨p0, q0⟩ := b1.out.one
  obtain ⟨r0, s0⟩ := b2.out.one
  go_wp2_with fail
  refine bodyPost_ret (v := .agg #[.slice ao1 x.length cap1]) (by simp [results, Tryd.results31, go_sem, *]) rfl ?_
  refine ⟨_, rfl, OwnX.mk (((HO1.out.far (by simp; omega) _).far (by simp; omega) _).mono (by omega)), ?_⟩
  exact (hs01.setCell (by simp; omega) _).setCell (by simp) _
theorem szExpr_any (v : Value) (x : List Tok) (left y : Int) (w : World) (h : ExAt w v x) (hl : x.length ≤ maxLen) (h0 : 0 ≤ left) (h1 : left ≤ 1048576) (hy : szLeft x.length left = y) :
    Calls Tryd.prog 30 #[v, .int .i64 left] w fun e w' => e = .returned (.int .i64 y) ∧ Since w w' := by
  obtain ⟨b, rfl, hb⟩ := h
  have HB := Lib.hid hb
  obtain ⟨bo, cb, rfl⟩ := hb.len
  have hs0 : Since w (w.alloc (.cells #[.slice bo x.length cb] 54)) := (Since.refl w).alloc _
  have HY := Lib.hid hy
  have HC : (y = -1) ∨ (0 ≤ y) := by
    unfold szLeft at hy
    split at hy <;> omega
  clear hy
  rcases HC with hc | hc
  · subst hc
    go_enter Tryd.func30, Tryd.ntmps30
    go_wp2_with fail
    refine (szTokenS_any _ x _ _ (HB.out.since hs0) hl h0 h1).mono ?_
    rintro e w1 ⟨rfl, rfl⟩
    rw [HY.out]
    go_wp2
    go_ret
    exact ⟨rfl, hs0⟩
  · have hd : decide (y < 0) = false := by simp; omega
    go_enter Tryd.func30, Tryd.ntmps30
    go_wp2_with fail
    refine (szTokenS_any _ x _ _ (HB.out.since hs0) hl h0 h1).mono ?_
    rintro e w1 ⟨rfl, rfl⟩
    rw [HY.out]
    go_wp2
    go_ret
    exact ⟨rfl, hs0⟩
set_option maxRecDepth 100000 in
theorem eqExpr_any (a b : Value) (x y : List Tok) (w : World) (ha : ExAt w a x) (hb : ExAt w b y) (h1 : x.length ≤ 1152921504606846976) (h2 : y.length ≤ 1152921504606846976) :
    Calls Tryd.prog 33 #[a, b] w fun e w' => e = .returned (.bool (decide (x = y))) ∧ Since w w' := by
  obtain ⟨a1, rfl, ha1⟩ := ha
  obtain ⟨b1, rfl, hb1⟩ := hb
  have HA := Lib.hid ha1
  have HB := Lib.hid hb1
  obtain ⟨ao, ac, rfl⟩ := ha1.len
  obtain ⟨bo, bc, rfl⟩ := hb1.len
  have hs0 : Since w ((w.alloc (.cells #[.slice ao x.length ac] 26)).alloc (.cells #[.slice bo y.length bc] 26)) := ((Since.refl w).alloc _).alloc _
  obtain ⟨c, hc⟩ : ∃ c, c = decide (x = y) := ⟨_, rfl⟩
  rw [← hc]
  have HC := Lib.hid hc
  clear hc
  cases c
  all_goals
    go_enter Tryd.func33, Tryd.ntmps33
    go_wp2_with fail
    refine (eqTokenS_any _ _ x y _ (HA.out.since hs0) (HB.out.since hs0) h1 h2).mono ?_
    rintro e w1 ⟨rfl, hs1⟩
    rw [← HC.out]
    have hs01 := hs0.trans hs1
    go_wp2
    go_ret
    exact ⟨rfl, hs01⟩
def MarkXOut (lo hi : Nat) (w : World) (v : Value) (k : Int) (x : List Tok) (e : Ending) (w' : World) : Prop :=
  e = .returned (.int .i64 (k + 4 * x.length)) ∧ OwnX lo hi w' v (countEK k x.length) ∧ Within lo hi w w'
set_option maxRecDepth 100000 in
theorem markExpr_any (lo hi : Nat) (v : Value) (x : List Tok) (k : Int) (w : World) (h : OwnX lo hi w v x) (hk0 : 0 ≤ k) (hk9 : k ≤ 1152921504606846976) (hl : x.length ≤ 288230376151711744) :
    Calls Tryd.prog 34 #[v, .int .i64 k] w (MarkXOut lo hi w v k x) := by
  obtain ⟨b, rfl, hb, rb⟩ := h
  have HB := Lib.hid hb
  clear hb
  obtain ⟨bo, bc, rfl⟩ := HB.out.len
  have hs0 : Since w (w.alloc (.cells #[.slice bo x.length bc] 26)) := (Since.refl w).alloc _
  go_enter Tryd.func34, Tryd.ntmps34
  go_wp2_with fail
  refine (markTokenS_any lo _ x k _ (HB.out.since hs0) hk0 hk9 hl).mono ?_
  rintro e w1 ⟨rfl, ho1, hg1⟩
  have HO : Hid (OwnX lo hi w1 (.agg #[.slice bo x.length bc]) (countEK k x.length)) := ⟨_, rfl, ho1, rb⟩
  have hw1 : Hid (Within lo hi w w1) := (Within.of_since hs0).trans (Within.of_grown hg1 rb)
  clear ho1 hg1
  go_wp2
  go_ret
  exact ⟨rfl, HO.out, hw1.out⟩
theorem szX_small {x : List Tok} {left : Int} (hl : left ≤ 1048576) (h : ¬ szLeft x.length left < 0) : (0 ≤ szLeft x.length left ∧ szLeft x.length left ≤ 1048576) ∧ x.length ≤ 1048577 := by
  unfold szLeft at h ⊢
  by_cases c : left - (x.length : Int) < 0
  · rw [if_pos c] at h; omega
  · rw [if_neg c] at h ⊢; omega

def BoxX (w1 wx : World) (p : Value) (R : List Tok) : Prop :=
  ∃ lo hi B so sc, p = .pointer (some ⟨B, 0, none⟩) ∧ w1.heap.size ≤ lo ∧ w1.heap.size ≤ B ∧ hi ≤ wx.heap.size ∧ (B < lo ∨ hi ≤ B) ∧
    OwnX lo hi wx (.agg #[.slice so R.length sc]) R ∧ Blk wx B 26 #[.slice so R.length sc] ∧ Since w1 wx
theorem OwnX.far1 {lo hi B : Nat} {w : World} {v : Value} {x : List Tok} (h : OwnX lo hi w v x) (hB : B < lo ∨ hi ≤ B) {i : Nat} {u : Value} : OwnX lo hi (w.setCell ⟨B, i, none⟩ u) v x := by
  have k : ∀ (w0 : World) (i : Nat) (u : Value), Within B (B + 1) w0 (w0.setCell ⟨B, i, none⟩ u) := fun w0 i u => Within.cell w0 ⟨B, i, none⟩ u
  exact h.within (k _ i u) (by omega)
theorem boxX_mk {w1 wx : World} {lo hi : Nat} {so : Option Addr} {sc : Nat} {R : List Tok} (B : Nat) (hB : w1.heap.size ≤ B) (h0 : w1.heap.size ≤ lo) (h1 : hi ≤ wx.heap.size ∧ (B < lo ∨ hi ≤ B))
    (hO : OwnX lo hi wx (.agg #[.slice so R.length sc]) R) (hK : Blk wx B 26 #[.slice so R.length sc]) (hS : Since w1 wx) :
    BoxX w1 wx (.pointer (some ⟨B, 0, none⟩)) R := ⟨lo, hi, B, so, sc, rfl, h0, hB, h1.1, h1.2, hO, hK, hS⟩
end Go.Proofs.YtblmiocjhbpklaaDoor
