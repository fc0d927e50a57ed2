/- slices.DeleteFunc over the steps of a graph: what its two closures keep. -/
import Derived.Test.YtilkheclimammaaTrvG
import Derived.Test.YtilkheclimammaaGB
import Derived.Test.YtilkheclimammaaDlt
namespace Go.Proofs.Ytilkheclimammaa
set_option maxRecDepth 100000
open Go.ChangeShapes Go.WideShapes Go.ChangeAt Go.RowKit
set_option linter.unusedVariables false
set_option linter.unusedSimpArgs false

/-- All of the first k are kept. -/
def allTo (p : Trv → Bool) (xs : List Trv) (k : Nat) : Prop := ∀ j (_ : j < k) (h : j < xs.length), p xs[j] = true
theorem allTo_zero (p : Trv → Bool) (xs : List Trv) : allTo p xs 0 := fun j hj => by omega
theorem allTo_step {p : Trv → Bool} {xs : List Trv} {k : Nat} (hk : k < xs.length) (h : allTo p xs k) (hx : p xs[k] = true) : allTo p xs (k + 1) := by
  intro j hj hl
  by_cases e : j = k
  · subst e; exact hx
  · exact h j (by omega) hl
/-- The place of the first that is not kept, or -1. -/
def idxP (p : Trv → Bool) (xs : List Trv) : Int := match xs.findIdx? (fun t => !p t) with | some k => (k : Int) | none => -1
theorem idxP_at {p : Trv → Bool} {xs : List Trv} {k : Nat} (hk : k < xs.length) (h : allTo p xs k) (hx : p xs[k] = false) : idxP p xs = k := by
  unfold idxP
  rw [List.findIdx?_eq_some_iff_getElem.2 ⟨hk, by simpa using hx, fun j hj => by simpa using h j hj (by omega)⟩]
theorem idxP_none {p : Trv → Bool} {xs : List Trv} (h : allTo p xs xs.length) : idxP p xs = -1 := by
  unfold idxP
  rw [List.findIdx?_eq_none_iff.2 (fun x hx => by obtain ⟨j, hj, rfl⟩ := List.getElem_of_mem hx; simpa using h j hj hj)]
theorem idxP_cases (p : Trv → Bool) (xs : List Trv) : (idxP p xs = -1 ∧ ∀ x ∈ xs, p x = true) ∨ ∃ k : Nat, ∃ hk : k < xs.length, idxP p xs = k ∧ allTo p xs k ∧ p xs[k] = false := by
  cases e : xs.findIdx? (fun t => !p t) with
  | none =>
    refine .inl ⟨by unfold idxP; rw [e], fun x hx => ?_⟩
    have := List.findIdx?_eq_none_iff.1 e x hx
    simpa using this
  | some k =>
    obtain ⟨hk, h1, h2⟩ := List.findIdx?_eq_some_iff_getElem.1 e
    exact .inr ⟨k, hk, by unfold idxP; rw [e], fun j hj hl => by simpa using h2 j hj, by simpa using h1⟩
/-- The row ys while DeleteFunc goes over xs: the first i are what is kept of the first j; from j on it is as it was. -/
def delAt (p : Trv → Bool) (xs : List Trv) (i j : Nat) (ys : List Trv) : Prop := ys.length = xs.length ∧ ys.take i = (xs.take j).filter p ∧ ys.drop j = xs.drop j
theorem delAt_zero {p : Trv → Bool} {xs : List Trv} {k : Nat} (hk : k < xs.length) (h : allTo p xs k) (hx : p xs[k] = false) : delAt p xs k (k + 1) xs := by
  refine ⟨rfl, ?_, rfl⟩
  rw [List.take_succ_eq_append_getElem hk, List.filter_append, List.filter_cons_of_neg (by simpa using hx), List.filter_nil, List.append_nil]
  refine (List.filter_eq_self.2 fun x hx => ?_).symm
  obtain ⟨j, hj, rfl⟩ := List.getElem_of_mem hx
  rw [List.length_take] at hj
  rw [List.getElem_take]
  exact h j (by omega) (by omega)
theorem delAt_get {p : Trv → Bool} {xs ys : List Trv} {i j : Nat} (h : delAt p xs i j ys) (hj : j < ys.length) (hjx : j < xs.length) : ys[j] = xs[j] := by
  have := h.2.2
  rw [List.drop_eq_getElem_cons hj, List.drop_eq_getElem_cons hjx] at this
  injection this
theorem delAt_keep {p : Trv → Bool} {xs ys : List Trv} {i j : Nat} (h : delAt p xs i j ys) (hij : i < j) (hjx : j < xs.length) (hp : p xs[j] = true) : delAt p xs (i + 1) (j + 1) (ys.set i xs[j]) := by
  obtain ⟨h1, h2, h3⟩ := h
  refine ⟨by simp [h1], ?_, ?_⟩
  · rw [List.take_succ_eq_append_getElem hjx, List.filter_append, List.filter_cons_of_pos hp, List.filter_nil, ← h2]
    rw [List.take_succ_eq_append_getElem (by simp; omega), List.getElem_set_self, List.take_set_of_le (Nat.le_refl _)]
  · rw [List.drop_set_of_lt (by omega)]
    have := congrArg (List.drop 1) h3
    rw [List.drop_drop, List.drop_drop] at this
    exact this
theorem delAt_drop {p : Trv → Bool} {xs ys : List Trv} {i j : Nat} (h : delAt p xs i j ys) (hij : i < j) (hjx : j < xs.length) (hp : p xs[j] = false) : delAt p xs i (j + 1) ys := by
  obtain ⟨h1, h2, h3⟩ := h
  refine ⟨h1, ?_, ?_⟩
  · rw [List.take_succ_eq_append_getElem hjx, List.filter_append, List.filter_cons_of_neg (by simpa using hp), List.filter_nil, List.append_nil, ← h2]
  · have := congrArg (List.drop 1) h3
    rw [List.drop_drop, List.drop_drop] at this
    exact this
theorem delAt_end {p : Trv → Bool} {xs ys : List Trv} {i j : Nat} (h : delAt p xs i j ys) (hj : j = xs.length) : ys.take i = xs.filter p := by
  rw [h.2.1, List.take_of_length_le (by omega)]
theorem row_set5 {w : World} {base g n cap : Nat} {xs : List Trv} (h : w.ownsRow base 77 5 (.slice (some ⟨g, 0, none⟩) n cap) n (tcells xs)) (k : Nat) (hk : k < xs.length) (e : Trv) :
    (((((w.setCell ⟨g, k * 5, none⟩ (.int .i64 e.id)).setCell ⟨g, k * 5 + 1, none⟩ (.bool e.inv)).setCell ⟨g, k * 5 + 2, none⟩ (.int .i64 e.fr)).setCell ⟨g, k * 5 + 3, none⟩ (.int .i64 e.dst)).setCell ⟨g, k * 5 + 4, none⟩ (.int .i64 e.le)).ownsRow base 77 5 (.slice (some ⟨g, 0, none⟩) n cap) n (tcells (xs.set k e)) := by
  rw [← tcells_set xs k hk e]
  exact (((((h.stored _ _).1.stored _ _).1.stored _ _).1.stored _ _).1.stored _ _).1
theorem OwnT.row {base n : Nat} {w : World} {v : Value} {xs : List Trv} (h : OwnT base w v xs) (hn : n = xs.length) : w.ownsRow base 77 5 v n (tcells xs) := by subst hn; exact h
theorem OwnT.ofRow {base n : Nat} {w : World} {v : Value} {xs : List Trv} (h : w.ownsRow base 77 5 v n (tcells xs)) (hn : n = xs.length) : OwnT base w v xs := by subst hn; exact h
theorem zeros_length (n : Nat) : (Builtin.zeroCells (tv zeroT).cells n).toList.length = n * 5 := by
  simp [Builtin.zeroCells, Value.cells]
theorem zeros_one (n : Nat) : ∀ u ∈ (Builtin.zeroCells (tv zeroT).cells n).toList, u.oneCell' = true := by
  intro u hu
  have e : (tv zeroT).cells = #[.int .i64 0, .bool false, .int .i64 0, .int .i64 0, .int .i64 0] := rfl
  rw [e] at hu
  simp [Builtin.zeroCells] at hu
  obtain ⟨i, _, rfl⟩ := hu
  have hi : i % 5 = 0 ∨ i % 5 = 1 ∨ i % 5 = 2 ∨ i % 5 = 3 ∨ i % 5 = 4 := by omega
  rcases hi with h | h | h | h | h <;> rw [h] <;> rfl
theorem run_clear_trv (base : Nat) (w : World) (ty : TypeId) (g cap n i c : Nat) (ys : List Trv) (h : OwnT base w (.slice (some ⟨g, 0, none⟩) n cap) ys) (hn : n = ys.length) (hi : i < n) :
    (Builtin.clear_ #[73] ty #[.slice (some ⟨g, i * 5, none⟩) (n - i) c]).run Try.prog w = .ok (.tuple #[]) (w.setCells g (i * 5) (Builtin.zeroCells (tv zeroT).cells (n - i)).toList) := by
  have hz : ∀ w, (zeroValue 77).run Try.prog w = .ok (tv zeroT) w := fun w => by
    obtain ⟨i0, hi, h0, _, _⟩ := info_parts info_trv
    simp [zeroValue, typeInfo, hi, h0]
  have hl := tcells_length ys
  have h' : w.ownsRow base 77 5 (.slice (some ⟨g, 0, none⟩) n cap) n (tcells ys) := by unfold OwnT at h; rw [← hn] at h; exact h
  have hzl := zeros_length (n - i)
  have hst := run_storeCells_cells (P := Try.prog) g (i * 5) (Builtin.zeroCells (tv zeroT).cells (n - i)).toList 0 w (by
    intro j hj
    have hj5 : j < (n - i) * 5 := by rw [← hzl]; simpa using hj
    rw [Nat.add_zero]
    rw [h'.cellAt (i * 5 + j) (by omega), List.getElem?_eq_getElem (by omega)]; rfl) (by intro j hj; rw [Nat.add_zero]; exact h'.frozenAt _) (zeros_one _)
  simp only [Nat.add_zero] at hst
  obtain ⟨m, hm⟩ : ∃ m, n - i = m + 1 := ⟨n - i - 1, by omega⟩
  rw [hm] at hst ⊢
  simp [Builtin.clear_, run_underlying Try.underlying73, hz, hst]
theorem own_cut (base : Nat) (w : World) (g cap n i : Nat) (ys : List Trv) (h : OwnT base w (.slice (some ⟨g, 0, none⟩) n cap) ys) (hn : n = ys.length) (hi : i < n) :
    (w.setCells g (i * 5) (Builtin.zeroCells (tv zeroT).cells (n - i)).toList).ownsRow base 77 5 (.slice (some ⟨g, 0, none⟩) i cap) i (tcells (ys.take i)) ∧ w.grownBy (w.setCells g (i * 5) (Builtin.zeroCells (tv zeroT).cells (n - i)).toList) (some g) := by
  refine ⟨?_, grown_sets g _ _ _⟩
  obtain ⟨_, hrow⟩ := h
  rcases hrow with ⟨h0, _⟩ | ⟨g', cap', cur, e, hb, hg, hnc, hcm, hcs, hct⟩
  · cases h0
  injection e with e1 e0 e2
  injection e1 with e1; injection e1 with e1
  subst e1; subst e2
  rw [← hn] at hnc hct
  obtain ⟨cur1, hb1, hc1, hc2, _⟩ := Blk.sets (Builtin.zeroCells (tv zeroT).cells (n - i)).toList (i * 5) w cur hg
  have hl : (tcells (ys.take i)).length = i * 5 := by rw [tcells_length, List.length_take]; omega
  refine ⟨hl, .inr ⟨g, cap, cur1, rfl, hb, hb1, by omega, hcm, by omega, ?_⟩⟩
  have ht : tcells (ys.take i) = (tcells ys).take (i * 5) := (fcells_take tcs_len ys i).symm
  rw [ht, ← hct, List.take_take, Nat.min_eq_left (by omega)]
  apply List.ext_getElem?
  intro j
  rw [List.getElem?_take, List.getElem?_take]
  by_cases hj : j < i * 5
  · rw [if_pos hj, if_pos hj, Array.getElem?_toList, Array.getElem?_toList, hc2 j (.inl hj)]
  · rw [if_neg hj, if_neg hj]
theorem travG_len (g : Grf) (h2 : g.es.length ≤ 1048577) : (travG g).length ≤ 2097154 := by
  unfold travG; split
  · rw [travL_length]; omega
  · simp

/-- What traversalsFrom keeps. -/
def kpF (x : Int) (t : Trv) : Bool := t.fr == x
theorem closF_any (t : Trv) (x : Int) (B : Nat) (w : World) (h : Blk w B 3 #[.int .i64 x]) :
    Calls Try.prog 96 #[.agg #[.int .i64 t.id, .bool t.inv, .int .i64 t.fr, .int .i64 t.dst, .int .i64 t.le], .pointer (some ⟨B, 0, none⟩)] w fun en w' => en = .returned (.bool (!kpF x t)) ∧ Since w w' := by
  have hs0 : Since w (w.alloc (.cells #[.int .i64 t.id, .bool t.inv, .int .i64 t.fr, .int .i64 t.dst, .int .i64 t.le] 77)) := (Since.refl w).alloc _
  obtain ⟨q0, _⟩ := (h.alloc (.cells #[.int .i64 t.id, .bool t.inv, .int .i64 t.fr, .int .i64 t.dst, .int .i64 t.le] 77)).one
  have HK : Hid ((t.fr != x) = !kpF x t) := rfl
  clear h
  go_enter Try.func96, Try.ntmps96
  go_wp2
  go_ret
  exact ⟨ret_bool HK.out, hs0⟩
set_option maxRecDepth 100000 in
theorem indexF_any (v : Value) (xs : List Trv) (x : Int) (B : Nat) (w : World) (h : TrvsAt w v xs) (hB : Blk w B 3 #[.int .i64 x]) (h2 : xs.length ≤ 2097154) :
    Calls Try.prog 107 #[v, .func (.func 96) #[] #[.pointer (some ⟨B, 0, none⟩)]] w fun e w' => e = .returned (.int .i64 (idxP (kpF x) xs)) ∧ Since w w' := by
  obtain ⟨bo, bc, rfl, HE⟩ := h
  obtain ⟨m, hm⟩ : ∃ m, m = xs.length := ⟨_, rfl⟩
  rw [← hm]
  have hm9 : m ≤ 2097154 := by omega
  have HM := Lib.hid hm
  have HB := Lib.hid hB
  clear hm h2 hB
  go_enter Try.func107, Try.ntmps107
  go_wp2
  go_loopw [8] (fun i wr => ∃ k : Nat, k ≤ m ∧ i = .int .i64 k ∧ Hid (allTo (kpF x) xs k) ∧ Since w wr) (fun i _ => m - (intOf i).toNat)
  case atStart => exact ⟨0, Nat.zero_le _, rfl, allTo_zero _ _, Since.refl _⟩
  case round =>
    obtain ⟨k, hk, rfl, HT, hs⟩ := hrel
    by_cases hlt : k < m
    · have hx : k < xs.length := by have := HM.out; omega
      obtain ⟨be, oe, rfl, hbe, d0, d1, d2, d3, d4⟩ := HE.out k hx
      have s1 := since_cells hs hbe
      rw [← s1] at d0 d1 d2 d3 d4
      clear s1
      rcases Bool.eq_false_or_eq_true (kpF x xs[k]) with he | he
      · have HX := Lib.hid (allTo_step hx HT.out he)
        have hb0 : (!kpF x xs[k]) = false := by rw [he]; rfl
        clear he
        go_wp2_with fail
        refine (closF_any xs[k] x B _ (HB.out.since hs)).mono ?_
        rintro e w1 ⟨rfl, hs1⟩
        rw [hb0]
        have hs2 := hs.trans hs1
        go_wp2
        go_roundw
        case rel => exact ⟨k + 1, by omega, by go_num, HX, hs2⟩
        case measure => simp [intOf]; omega
      · have HX := Lib.hid (idxP_at hx HT.out he)
        have hb0 : (!kpF x xs[k]) = true := by rw [he]; rfl
        clear he
        go_wp2_with fail
        refine (closF_any xs[k] x B _ (HB.out.since hs)).mono ?_
        rintro e w1 ⟨rfl, hs1⟩
        rw [hb0]
        have hs2 := hs.trans hs1
        go_wp2
        go_ret
        exact ⟨ret_int HX.out.symm, hs2⟩
    · obtain rfl : k = m := by omega
      have HX : Hid (idxP (kpF x) xs = -1) := idxP_none (by rw [← HM.out]; exact HT.out)
      go_wp2
      go_ret
      exact ⟨ret_int HX.out.symm, hs⟩
set_option maxHeartbeats 1000000 in
set_option maxRecDepth 100000 in
theorem delF_any (w0 : World) (v : Value) (xs : List Trv) (x : Int) (B : Nat) (w : World) (h : OwnT w0.heap.size w v xs) (hs0 : Since w0 w) (hB : Blk w B 3 #[.int .i64 x]) (h2 : xs.length ≤ 2097154) :
    Calls Try.prog 94 #[v, .func (.func 96) #[] #[.pointer (some ⟨B, 0, none⟩)]] w (TrOut w0 (xs.filter (kpF x))) := by
  have HT0 := Lib.hid h.at
  have HB := Lib.hid hB
  have HO := Lib.hid h
  rcases idxP_cases (kpF x) xs with ⟨hi, hall⟩ | ⟨i0, hi0, hi, hall, hk0⟩
  · have HI := Lib.hid hi
    have HF : Hid (xs.filter (kpF x) = xs) := List.filter_eq_self.2 hall
    obtain ⟨bo, bc, rfl⟩ := h.len
    clear hi hall h hB
    go_enter Try.func94, Try.ntmps94
    go_wp2_with fail
    refine (indexF_any _ xs x B _ HT0.out HB.out h2).mono ?_
    rintro en w1 ⟨rfl, hs1⟩
    rw [HI.out]
    go_wp2
    go_ret
    exact ⟨_, rfl, by rw [HF.out]; exact HO.out.since hs1, hs0.trans hs1⟩
  · have HI := Lib.hid hi
    have hne := other_type h hB (by decide)
    obtain ⟨g, cap, rfl, hgb⟩ := own_block h (by omega)
    have hBg : B ≠ g := fun e => hne (by rw [e]; rfl)
    obtain ⟨n, hn⟩ : ∃ n, n = xs.length := ⟨_, rfl⟩
    rw [← hn] at HT0 HO ⊢
    have hcap : n ≤ cap := by
      rcases h.2 with ⟨h0, _⟩ | ⟨g', cap', cur, e, _, _, hnc, _⟩
      · cases h0
      · injection e with _ _ e2; omega
    have HN := Lib.hid hn
    have hn9 : n ≤ 2097154 := by omega
    have hin : i0 < n := by omega
    have HA : Hid (delAt (kpF x) xs i0 (i0 + 1) xs) := delAt_zero hi0 hall hk0
    clear hi hall hk0 h hB hn h2 hne
    go_enter Try.func94, Try.ntmps94
    go_wp2_with fail
    refine (indexF_any _ xs x B _ HT0.out HB.out (by have := HN.out; omega)).mono ?_
    rintro en w1 ⟨rfl, hs1⟩
    rw [HI.out]
    have hs01 := hs0.trans hs1
    have HO1 : Hid (OwnT w0.heap.size w1 (.slice (some ⟨g, 0, none⟩) n cap) xs) := by have := HO.out.since hs1; exact this
    have HB1 := Lib.hid (HB.out.since hs1)
    have hneg : ((i0 : Int) == -1) = false := by simp
    clear HT0 HO HB hs1 hs0
    go_wp2_with fail
    go_loopw [5, 6] (fun a b wr => ∃ (i j : Nat) (ys : List Trv), i < j ∧ j ≤ n ∧ a = .int .i64 i ∧ b = .int .i64 j ∧ Hid (delAt (kpF x) xs i j ys) ∧ Hid (OwnT w0.heap.size wr (.slice (some ⟨g, 0, none⟩) n cap) ys) ∧ Hid (Blk wr B 3 #[.int .i64 x]) ∧ Since w0 wr) (fun _ b _ => n - (intOf b).toNat)
    case atStart => exact ⟨i0, i0 + 1, xs, by omega, by omega, rfl, by go_num, HA, HO1, HB1, hs01⟩
    case round =>
      obtain ⟨i, j, ys, hij, hjn, rfl, rfl, HD, HOw, HBw, hsw⟩ := hrel
      have hyl : n = ys.length := HD.out.1.symm ▸ HN.out
      by_cases hlt : j < n
      · have hj : j < ys.length := by omega
        have hjx : j < xs.length := by have := HN.out; omega
        have HV := Lib.hid (delAt_get HD.out hj hjx)
        obtain ⟨d0, d1, d2, d3, d4⟩ := ownT_cells (HOw.out.row hyl) hyl j hj
        rw [HV.out] at d0 d1 d2 d3 d4
        obtain ⟨t, ht⟩ : ∃ t, t = xs[j] := ⟨_, rfl⟩
        rw [← ht] at d0 d1 d2 d3 d4
        have HTx := Lib.hid ht
        clear ht
        have hs2 : Since wr (wr.alloc (.cells #[.int .i64 t.id, .bool t.inv, .int .i64 t.fr, .int .i64 t.dst, .int .i64 t.le] 77)) := (Since.refl wr).alloc _
        have HYL := Lib.hid hyl
        clear hyl
        rcases Bool.eq_false_or_eq_true (kpF x t) with he | he
        · have hb0 : (!kpF x t) = false := by rw [he]; rfl
          have HD2 : Hid (delAt (kpF x) xs (i + 1) (j + 1) (ys.set i t)) := by have := HTx.out; subst this; exact delAt_keep HD.out hij hjx he
          clear he
          go_wp2_with fail
          refine (closF_any t x B _ (HBw.out.since hs2)).mono ?_
          rintro en w3 ⟨rfl, hs3⟩
          rw [hb0]
          have hs23 := hs2.trans hs3
          have hs4 := hsw.trans hs23
          have HO3 := Lib.hid (HOw.out.since hs23)
          have HB3 := Lib.hid (HBw.out.since hs23)
          obtain ⟨e0, e1, e2, e3, e4, _⟩ := ((Blk.new rfl 77 #[.int .i64 t.id, .bool t.inv, .int .i64 t.fr, .int .i64 t.dst, .int .i64 t.le] : Blk (wr.alloc _) wr.heap.size _ _).since hs3).five
          have hi' : i < ys.length := by have := HYL.out; omega
          obtain ⟨c0, c1, c2, c3, c4⟩ := ownT_cells (HO3.out.row HYL.out) HYL.out i hi'
          obtain ⟨yo, hyo⟩ : ∃ yo, yo = ys[i] := ⟨_, rfl⟩
          rw [← hyo] at c0 c1 c2 c3 c4
          clear hyo
          have hown3 : w3.ownsRow w0.heap.size 77 5 (.slice (some ⟨g, 0, none⟩) n cap) n (tcells ys) := by have := HO3.out; unfold OwnT at this; rw [← HYL.out] at this; exact this
          have f0 := hown3.frozenAt (i * 5)
          have f1 := hown3.frozenAt (i * 5 + 1)
          have f2 := hown3.frozenAt (i * 5 + 2)
          have f3 := hown3.frozenAt (i * 5 + 3)
          have f4 := hown3.frozenAt (i * 5 + 4)
          have hst := row_set5 hown3 i hi' t
          have HST := Lib.hid (OwnT.ofRow hst (by rw [List.length_set]; exact HYL.out))
          have hgb' : w0.heap.size ≤ g := hgb
          have HB4 := Lib.hid (((((HB3.out.far (p := ⟨g, i * 5, none⟩) hBg (.int .i64 t.id)).far (p := ⟨g, i * 5 + 1, none⟩) hBg (.bool t.inv)).far (p := ⟨g, i * 5 + 2, none⟩) hBg (.int .i64 t.fr)).far (p := ⟨g, i * 5 + 3, none⟩) hBg (.int .i64 t.dst)).far (p := ⟨g, i * 5 + 4, none⟩) hBg (.int .i64 t.le))
          have hs5 := ((((hs4.setCell (a := ⟨g, i * 5, none⟩) hgb (.int .i64 t.id)).setCell (a := ⟨g, i * 5 + 1, none⟩) hgb (.bool t.inv)).setCell (a := ⟨g, i * 5 + 2, none⟩) hgb (.int .i64 t.fr)).setCell (a := ⟨g, i * 5 + 3, none⟩) hgb (.int .i64 t.dst)).setCell (a := ⟨g, i * 5 + 4, none⟩) hgb (.int .i64 t.le)
          have ii0 : (0 : Int) ≤ (i : Int) := by omega
          have ii1 : (i : Int) < (n : Int) := by omega
          have ii2 : i < n := by omega
          clear d0 d1 d2 d3 d4 hst hown3 HO3 HB3 hs2 hs3 hs23 hs4
          go_wp2
          go_roundw
          case rel => exact ⟨i + 1, j + 1, _, by omega, by omega, by go_num, by go_num, HD2, HST, HB4, hs5⟩
          case measure => simp [intOf]; omega
        · have hb0 : (!kpF x t) = true := by rw [he]; rfl
          have HD2 : Hid (delAt (kpF x) xs i (j + 1) ys) := by have := HTx.out; subst this; exact delAt_drop HD.out hij hjx he
          clear he
          go_wp2_with fail
          refine (closF_any t x B _ (HBw.out.since hs2)).mono ?_
          rintro en w3 ⟨rfl, hs3⟩
          rw [hb0]
          have hs23 := hs2.trans hs3
          have hs4 := hsw.trans hs23
          have HO3 := Lib.hid (HOw.out.since hs23)
          have HB3 := Lib.hid (HBw.out.since hs23)
          clear d0 d1 d2 d3 d4
          go_wp2
          go_roundw
          case rel => exact ⟨i, j + 1, _, by omega, by omega, rfl, by go_num, HD2, HO3, HB3, hs4⟩
          case measure => simp [intOf]; omega
      · obtain rfl : j = n := by omega
        obtain ⟨hrow, hgr⟩ := own_cut w0.heap.size wr g cap j i ys HOw.out hyl (by omega)
        have HR : Hid (OwnT w0.heap.size (wr.setCells g (i * 5) (Builtin.zeroCells (tv zeroT).cells (j - i)).toList) (.slice (some ⟨g, 0, none⟩) i cap) (xs.filter (kpF x)) ) := by
          have := delAt_end HD.out HN.out
          rw [← this]
          unfold Hid OwnT
          rw [List.length_take, ← hyl, Nat.min_eq_left (by omega)]
          exact hrow
        have hs6 : Hid (Since w0 (wr.setCells g (i * 5) (Builtin.zeroCells (tv zeroT).cells (j - i)).toList)) := hsw.grown hgr (fun k hk => by injection hk with hk; omega)
        have hcl : ∀ ty c, (Builtin.clear_ #[73] ty #[.slice (some ⟨g, i * 5, none⟩) (j - i) c]).run Try.prog wr = .ok (.tuple #[]) (wr.setCells g (i * 5) (Builtin.zeroCells (tv zeroT).cells (j - i)).toList) :=
          fun ty c => run_clear_trv w0.heap.size wr ty g cap j i c ys HOw.out hyl (by omega)
        have hci : ¬ cap = i := by omega
        have hic : i ≤ cap := by omega
        have hin2 : i ≤ j := by omega
        have ii0 : (0 : Int) ≤ (i : Int) := by omega
        have ii1 : (i : Int) ≤ (j : Int) := by omega
        have ii2 : (j : Int) ≤ (cap : Int) := by omega
        have ii3 : (i : Int) ≤ (cap : Int) := by omega
        clear hrow hgr hyl
        go_wp2
        go_ret
        exact ⟨_, rfl, HR.out, hs6.out⟩

/-- What traversalsWith keeps. -/
def kpW (x : Int) (t : Trv) : Bool := t.le == x
theorem closW_any (t : Trv) (x : Int) (B : Nat) (w : World) (h : Blk w B 3 #[.int .i64 x]) :
    Calls Try.prog 98 #[.agg #[.int .i64 t.id, .bool t.inv, .int .i64 t.fr, .int .i64 t.dst, .int .i64 t.le], .pointer (some ⟨B, 0, none⟩)] w fun en w' => en = .returned (.bool (!kpW x t)) ∧ Since w w' := by
  have hs0 : Since w (w.alloc (.cells #[.int .i64 t.id, .bool t.inv, .int .i64 t.fr, .int .i64 t.dst, .int .i64 t.le] 77)) := (Since.refl w).alloc _
  obtain ⟨q0, _⟩ := (h.alloc (.cells #[.int .i64 t.id, .bool t.inv, .int .i64 t.fr, .int .i64 t.dst, .int .i64 t.le] 77)).one
  have HK : Hid ((t.le != x) = !kpW x t) := rfl
  clear h
  go_enter Try.func98, Try.ntmps98
  go_wp2
  go_ret
  exact ⟨ret_bool HK.out, hs0⟩
set_option maxRecDepth 100000 in
theorem indexW_any (v : Value) (xs : List Trv) (x : Int) (B : Nat) (w : World) (h : TrvsAt w v xs) (hB : Blk w B 3 #[.int .i64 x]) (h2 : xs.length ≤ 2097154) :
    Calls Try.prog 107 #[v, .func (.func 98) #[] #[.pointer (some ⟨B, 0, none⟩)]] w fun e w' => e = .returned (.int .i64 (idxP (kpW x) xs)) ∧ Since w w' := by
  obtain ⟨bo, bc, rfl, HE⟩ := h
  obtain ⟨m, hm⟩ : ∃ m, m = xs.length := ⟨_, rfl⟩
  rw [← hm]
  have hm9 : m ≤ 2097154 := by omega
  have HM := Lib.hid hm
  have HB := Lib.hid hB
  clear hm h2 hB
  go_enter Try.func107, Try.ntmps107
  go_wp2
  go_loopw [8] (fun i wr => ∃ k : Nat, k ≤ m ∧ i = .int .i64 k ∧ Hid (allTo (kpW x) xs k) ∧ Since w wr) (fun i _ => m - (intOf i).toNat)
  case atStart => exact ⟨0, Nat.zero_le _, rfl, allTo_zero _ _, Since.refl _⟩
  case round =>
    obtain ⟨k, hk, rfl, HT, hs⟩ := hrel
    by_cases hlt : k < m
    · have hx : k < xs.length := by have := HM.out; omega
      obtain ⟨be, oe, rfl, hbe, d0, d1, d2, d3, d4⟩ := HE.out k hx
      have s1 := since_cells hs hbe
      rw [← s1] at d0 d1 d2 d3 d4
      clear s1
      rcases Bool.eq_false_or_eq_true (kpW x xs[k]) with he | he
      · have HX := Lib.hid (allTo_step hx HT.out he)
        have hb0 : (!kpW x xs[k]) = false := by rw [he]; rfl
        clear he
        go_wp2_with fail
        refine (closW_any xs[k] x B _ (HB.out.since hs)).mono ?_
        rintro e w1 ⟨rfl, hs1⟩
        rw [hb0]
        have hs2 := hs.trans hs1
        go_wp2
        go_roundw
        case rel => exact ⟨k + 1, by omega, by go_num, HX, hs2⟩
        case measure => simp [intOf]; omega
      · have HX := Lib.hid (idxP_at hx HT.out he)
        have hb0 : (!kpW x xs[k]) = true := by rw [he]; rfl
        clear he
        go_wp2_with fail
        refine (closW_any xs[k] x B _ (HB.out.since hs)).mono ?_
        rintro e w1 ⟨rfl, hs1⟩
        rw [hb0]
        have hs2 := hs.trans hs1
        go_wp2
        go_ret
        exact ⟨ret_int HX.out.symm, hs2⟩
    · obtain rfl : k = m := by omega
      have HX : Hid (idxP (kpW x) xs = -1) := idxP_none (by rw [← HM.out]; exact HT.out)
      go_wp2
      go_ret
      exact ⟨ret_int HX.out.symm, hs⟩
set_option maxHeartbeats 1000000 in
set_option maxRecDepth 100000 in
theorem delW_any (w0 : World) (v : Value) (xs : List Trv) (x : Int) (B : Nat) (w : World) (h : OwnT w0.heap.size w v xs) (hs0 : Since w0 w) (hB : Blk w B 3 #[.int .i64 x]) (h2 : xs.length ≤ 2097154) :
    Calls Try.prog 94 #[v, .func (.func 98) #[] #[.pointer (some ⟨B, 0, none⟩)]] w (TrOut w0 (xs.filter (kpW x))) := by
  have HT0 := Lib.hid h.at
  have HB := Lib.hid hB
  have HO := Lib.hid h
  rcases idxP_cases (kpW x) xs with ⟨hi, hall⟩ | ⟨i0, hi0, hi, hall, hk0⟩
  · have HI := Lib.hid hi
    have HF : Hid (xs.filter (kpW x) = xs) := List.filter_eq_self.2 hall
    obtain ⟨bo, bc, rfl⟩ := h.len
    clear hi hall h hB
    go_enter Try.func94, Try.ntmps94
    go_wp2_with fail
    refine (indexW_any _ xs x B _ HT0.out HB.out h2).mono ?_
    rintro en w1 ⟨rfl, hs1⟩
    rw [HI.out]
    go_wp2
    go_ret
    exact ⟨_, rfl, by rw [HF.out]; exact HO.out.since hs1, hs0.trans hs1⟩
  · have HI := Lib.hid hi
    have hne := other_type h hB (by decide)
    obtain ⟨g, cap, rfl, hgb⟩ := own_block h (by omega)
    have hBg : B ≠ g := fun e => hne (by rw [e]; rfl)
    obtain ⟨n, hn⟩ : ∃ n, n = xs.length := ⟨_, rfl⟩
    rw [← hn] at HT0 HO ⊢
    have hcap : n ≤ cap := by
      rcases h.2 with ⟨h0, _⟩ | ⟨g', cap', cur, e, _, _, hnc, _⟩
      · cases h0
      · injection e with _ _ e2; omega
    have HN := Lib.hid hn
    have hn9 : n ≤ 2097154 := by omega
    have hin : i0 < n := by omega
    have HA : Hid (delAt (kpW x) xs i0 (i0 + 1) xs) := delAt_zero hi0 hall hk0
    clear hi hall hk0 h hB hn h2 hne
    go_enter Try.func94, Try.ntmps94
    go_wp2_with fail
    refine (indexW_any _ xs x B _ HT0.out HB.out (by have := HN.out; omega)).mono ?_
    rintro en w1 ⟨rfl, hs1⟩
    rw [HI.out]
    have hs01 := hs0.trans hs1
    have HO1 : Hid (OwnT w0.heap.size w1 (.slice (some ⟨g, 0, none⟩) n cap) xs) := by have := HO.out.since hs1; exact this
    have HB1 := Lib.hid (HB.out.since hs1)
    have hneg : ((i0 : Int) == -1) = false := by simp
    clear HT0 HO HB hs1 hs0
    go_wp2_with fail
    go_loopw [5, 6] (fun a b wr => ∃ (i j : Nat) (ys : List Trv), i < j ∧ j ≤ n ∧ a = .int .i64 i ∧ b = .int .i64 j ∧ Hid (delAt (kpW x) xs i j ys) ∧ Hid (OwnT w0.heap.size wr (.slice (some ⟨g, 0, none⟩) n cap) ys) ∧ Hid (Blk wr B 3 #[.int .i64 x]) ∧ Since w0 wr) (fun _ b _ => n - (intOf b).toNat)
    case atStart => exact ⟨i0, i0 + 1, xs, by omega, by omega, rfl, by go_num, HA, HO1, HB1, hs01⟩
    case round =>
      obtain ⟨i, j, ys, hij, hjn, rfl, rfl, HD, HOw, HBw, hsw⟩ := hrel
      have hyl : n = ys.length := HD.out.1.symm ▸ HN.out
      by_cases hlt : j < n
      · have hj : j < ys.length := by omega
        have hjx : j < xs.length := by have := HN.out; omega
        have HV := Lib.hid (delAt_get HD.out hj hjx)
        obtain ⟨d0, d1, d2, d3, d4⟩ := ownT_cells (HOw.out.row hyl) hyl j hj
        rw [HV.out] at d0 d1 d2 d3 d4
        obtain ⟨t, ht⟩ : ∃ t, t = xs[j] := ⟨_, rfl⟩
        rw [← ht] at d0 d1 d2 d3 d4
        have HTx := Lib.hid ht
        clear ht
        have hs2 : Since wr (wr.alloc (.cells #[.int .i64 t.id, .bool t.inv, .int .i64 t.fr, .int .i64 t.dst, .int .i64 t.le] 77)) := (Since.refl wr).alloc _
        have HYL := Lib.hid hyl
        clear hyl
        rcases Bool.eq_false_or_eq_true (kpW x t) with he | he
        · have hb0 : (!kpW x t) = false := by rw [he]; rfl
          have HD2 : Hid (delAt (kpW x) xs (i + 1) (j + 1) (ys.set i t)) := by have := HTx.out; subst this; exact delAt_keep HD.out hij hjx he
          clear he
          go_wp2_with fail
          refine (closW_any t x B _ (HBw.out.since hs2)).mono ?_
          rintro en w3 ⟨rfl, hs3⟩
          rw [hb0]
          have hs23 := hs2.trans hs3
          have hs4 := hsw.trans hs23
          have HO3 := Lib.hid (HOw.out.since hs23)
          have HB3 := Lib.hid (HBw.out.since hs23)
          obtain ⟨e0, e1, e2, e3, e4, _⟩ := ((Blk.new rfl 77 #[.int .i64 t.id, .bool t.inv, .int .i64 t.fr, .int .i64 t.dst, .int .i64 t.le] : Blk (wr.alloc _) wr.heap.size _ _).since hs3).five
          have hi' : i < ys.length := by have := HYL.out; omega
          obtain ⟨c0, c1, c2, c3, c4⟩ := ownT_cells (HO3.out.row HYL.out) HYL.out i hi'
          obtain ⟨yo, hyo⟩ : ∃ yo, yo = ys[i] := ⟨_, rfl⟩
          rw [← hyo] at c0 c1 c2 c3 c4
          clear hyo
          have hown3 : w3.ownsRow w0.heap.size 77 5 (.slice (some ⟨g, 0, none⟩) n cap) n (tcells ys) := by have := HO3.out; unfold OwnT at this; rw [← HYL.out] at this; exact this
          have f0 := hown3.frozenAt (i * 5)
          have f1 := hown3.frozenAt (i * 5 + 1)
          have f2 := hown3.frozenAt (i * 5 + 2)
          have f3 := hown3.frozenAt (i * 5 + 3)
          have f4 := hown3.frozenAt (i * 5 + 4)
          have hst := row_set5 hown3 i hi' t
          have HST := Lib.hid (OwnT.ofRow hst (by rw [List.length_set]; exact HYL.out))
          have hgb' : w0.heap.size ≤ g := hgb
          have HB4 := Lib.hid (((((HB3.out.far (p := ⟨g, i * 5, none⟩) hBg (.int .i64 t.id)).far (p := ⟨g, i * 5 + 1, none⟩) hBg (.bool t.inv)).far (p := ⟨g, i * 5 + 2, none⟩) hBg (.int .i64 t.fr)).far (p := ⟨g, i * 5 + 3, none⟩) hBg (.int .i64 t.dst)).far (p := ⟨g, i * 5 + 4, none⟩) hBg (.int .i64 t.le))
          have hs5 := ((((hs4.setCell (a := ⟨g, i * 5, none⟩) hgb (.int .i64 t.id)).setCell (a := ⟨g, i * 5 + 1, none⟩) hgb (.bool t.inv)).setCell (a := ⟨g, i * 5 + 2, none⟩) hgb (.int .i64 t.fr)).setCell (a := ⟨g, i * 5 + 3, none⟩) hgb (.int .i64 t.dst)).setCell (a := ⟨g, i * 5 + 4, none⟩) hgb (.int .i64 t.le)
          have ii0 : (0 : Int) ≤ (i : Int) := by omega
          have ii1 : (i : Int) < (n : Int) := by omega
          have ii2 : i < n := by omega
          clear d0 d1 d2 d3 d4 hst hown3 HO3 HB3 hs2 hs3 hs23 hs4
          go_wp2
          go_roundw
          case rel => exact ⟨i + 1, j + 1, _, by omega, by omega, by go_num, by go_num, HD2, HST, HB4, hs5⟩
          case measure => simp [intOf]; omega
        · have hb0 : (!kpW x t) = true := by rw [he]; rfl
          have HD2 : Hid (delAt (kpW x) xs i (j + 1) ys) := by have := HTx.out; subst this; exact delAt_drop HD.out hij hjx he
          clear he
          go_wp2_with fail
          refine (closW_any t x B _ (HBw.out.since hs2)).mono ?_
          rintro en w3 ⟨rfl, hs3⟩
          rw [hb0]
          have hs23 := hs2.trans hs3
          have hs4 := hsw.trans hs23
          have HO3 := Lib.hid (HOw.out.since hs23)
          have HB3 := Lib.hid (HBw.out.since hs23)
          clear d0 d1 d2 d3 d4
          go_wp2
          go_roundw
          case rel => exact ⟨i, j + 1, _, by omega, by omega, rfl, by go_num, HD2, HO3, HB3, hs4⟩
          case measure => simp [intOf]; omega
      · obtain rfl : j = n := by omega
        obtain ⟨hrow, hgr⟩ := own_cut w0.heap.size wr g cap j i ys HOw.out hyl (by omega)
        have HR : Hid (OwnT w0.heap.size (wr.setCells g (i * 5) (Builtin.zeroCells (tv zeroT).cells (j - i)).toList) (.slice (some ⟨g, 0, none⟩) i cap) (xs.filter (kpW x)) ) := by
          have := delAt_end HD.out HN.out
          rw [← this]
          unfold Hid OwnT
          rw [List.length_take, ← hyl, Nat.min_eq_left (by omega)]
          exact hrow
        have hs6 : Hid (Since w0 (wr.setCells g (i * 5) (Builtin.zeroCells (tv zeroT).cells (j - i)).toList)) := hsw.grown hgr (fun k hk => by injection hk with hk; omega)
        have hcl : ∀ ty c, (Builtin.clear_ #[73] ty #[.slice (some ⟨g, i * 5, none⟩) (j - i) c]).run Try.prog wr = .ok (.tuple #[]) (wr.setCells g (i * 5) (Builtin.zeroCells (tv zeroT).cells (j - i)).toList) :=
          fun ty c => run_clear_trv w0.heap.size wr ty g cap j i c ys HOw.out hyl (by omega)
        have hci : ¬ cap = i := by omega
        have hic : i ≤ cap := by omega
        have hin2 : i ≤ j := by omega
        have ii0 : (0 : Int) ≤ (i : Int) := by omega
        have ii1 : (i : Int) ≤ (j : Int) := by omega
        have ii2 : (j : Int) ≤ (cap : Int) := by omega
        have ii3 : (i : Int) ≤ (cap : Int) := by omega
        clear hrow hgr hyl
        go_wp2
        go_ret
        exact ⟨_, rfl, HR.out, hs6.out⟩

set_option maxRecDepth 100000 in
theorem travFrom_any (v : Value) (g : Grf) (x : Int) (w : World) (h : GrfAt w v g) (h1 : g.vs.length ≤ 1048577) (h2 : g.es.length ≤ 1048577) :
    Calls Try.prog 58 #[v, .int .i64 x] w (TrOut w ((travG g).filter (kpF x))) := by
  have HG := Lib.hid h
  obtain ⟨a, b, rfl, ha, hb⟩ := h
  obtain ⟨ao, ac, rfl, _⟩ := ha.row
  obtain ⟨bo, bc, rfl⟩ := hb.len
  clear ha hb
  have hlen := Lib.hid (travG_len g h2)
  have hs0 : Since w ((w.alloc (.cells #[.slice ao g.vs.length ac, .slice bo g.es.length bc] 27)).alloc (.cells #[.int .i64 x] 3)) := ((Since.refl w).alloc _).alloc _
  have b1 : Hid (Blk ((w.alloc (.cells #[.slice ao g.vs.length ac, .slice bo g.es.length bc] 27)).alloc (.cells #[.int .i64 x] 3)) (w.heap.size + 1) 3 #[.int .i64 x]) := Blk.new (by simp) _ _
  go_enter Try.func58, Try.ntmps58
  go_wp2_with fail
  refine (trav_any _ g _ (HG.out.since hs0) h1 h2).mono ?_
  rintro en w1 ⟨v1, rfl, ho1, hs1⟩
  have HO := Lib.hid (ho1.mono hs0.size)
  have b2 := Lib.hid (b1.out.since hs1)
  have hs01 := hs0.trans hs1
  clear ho1 hs1 b1
  go_wp2_with fail
  refine (delF_any w _ _ x (w.heap.size + 1) _ HO.out hs01 b2.out hlen.out).mono ?_
  rintro en w2 ⟨v2, rfl, ho2, hs2⟩
  go_wp2
  go_ret
  exact ⟨_, rfl, ho2, hs2⟩
set_option maxRecDepth 100000 in
theorem travWith_any (v : Value) (g : Grf) (x y : Int) (w : World) (h : GrfAt w v g) (h1 : g.vs.length ≤ 1048577) (h2 : g.es.length ≤ 1048577) :
    Calls Try.prog 63 #[v, .int .i64 x, .int .i64 y] w (TrOut w (((travG g).filter (kpF x)).filter (kpW y))) := by
  have HG := Lib.hid h
  obtain ⟨a, b, rfl, ha, hb⟩ := h
  obtain ⟨ao, ac, rfl, _⟩ := ha.row
  obtain ⟨bo, bc, rfl⟩ := hb.len
  clear ha hb
  have hlen : Hid (((travG g).filter (kpF x)).length ≤ 2097154) := Nat.le_trans (List.length_filter_le _ _) (travG_len g h2)
  have hs0 : Since w ((w.alloc (.cells #[.slice ao g.vs.length ac, .slice bo g.es.length bc] 27)).alloc (.cells #[.int .i64 y] 3)) := ((Since.refl w).alloc _).alloc _
  have b1 : Hid (Blk ((w.alloc (.cells #[.slice ao g.vs.length ac, .slice bo g.es.length bc] 27)).alloc (.cells #[.int .i64 y] 3)) (w.heap.size + 1) 3 #[.int .i64 y]) := Blk.new (by simp) _ _
  go_enter Try.func63, Try.ntmps63
  go_wp2_with fail
  refine (travFrom_any _ g x _ (HG.out.since hs0) h1 h2).mono ?_
  rintro en w1 ⟨v1, rfl, ho1, hs1⟩
  have HO := Lib.hid (ho1.mono hs0.size)
  have b2 := Lib.hid (b1.out.since hs1)
  have hs01 := hs0.trans hs1
  clear ho1 hs1 b1
  go_wp2_with fail
  refine (delW_any w _ _ y (w.heap.size + 1) _ HO.out hs01 b2.out hlen.out).mono ?_
  rintro en w2 ⟨v2, rfl, ho2, hs2⟩
  go_wp2
  go_ret
  exact ⟨_, rfl, ho2, hs2⟩
end Go.Proofs.Ytilkheclimammaa
