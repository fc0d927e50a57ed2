/- Single tokens, copies and joins: the small functions of chapter 8, the model's and the program's. -/
import Derived.Test.YtiojgahjfndmdaaDoorXc
namespace Go.Proofs.YtiojgahjfndmdaaDoor
set_option maxRecDepth 100000
open Go.ChangeShapes Go.WideShapes Go.ChangeAt Go.RowKit
set_option linter.unusedVariables false
set_option linter.unusedSimpArgs false

def alone (xs : List Tok) (k : Int) : Bool := match xs with
  | [t] => t.kd == k
  | _ => false
theorem alone_one (t : Tok) (k : Int) : alone [t] k = (t.kd == k) := rfl
theorem alone_not {xs : List Tok} (h : xs.length ≠ 1) (k : Int) : alone xs k = false := by
  match xs, h with
  | [], _ => rfl
  | [_], h => exact (h rfl).elim
  | _ :: _ :: _, _ => rfl
set_option maxRecDepth 100000 in
theorem isAlone_any (v : Value) (xs : List Tok) (k : Int) (w : World) (h : ExAt w v xs) (hl : xs.length ≤ 1048577) : Calls Tryd.prog 56 #[v, .int .i64 k] w fun e w' => e = .returned (.bool (alone xs k)) ∧ Since w w' := by
  obtain ⟨b, rfl, hb⟩ := h
  obtain ⟨ao, cap, rfl, HC⟩ := hb.row
  clear hb
  have hs : Since w (w.alloc (.cells #[.slice ao xs.length cap] 26)) := (Since.refl w).alloc _
  by_cases h1 : xs.length = 1
  · obtain ⟨t, rfl⟩ : ∃ t, xs = [t] := List.length_eq_one_iff.1 h1
    clear h1
    obtain ⟨b, off, rfl, hb1, c0, _⟩ := HC.out 0 (by simp)
    simp only [List.getElem_cons_zero, Nat.zero_mul, Nat.add_zero] at c0
    rw [alone_one]
    simp only [List.length_cons, List.length_nil] at hs ⊢
    have c1 : (w.alloc (.cells #[.slice (some ⟨b, off, none⟩) 1 cap] 26)).cell? ⟨b, off, none⟩ = some (.int .i64 t.kd) := by rw [since_cells ((Since.refl w).alloc _) hb1]; exact c0
    clear c0 HC
    obtain ⟨q, hq⟩ : ∃ q, q = (t.kd == k) := ⟨_, rfl⟩
    rw [← hq]
    have HQ := Lib.hid hq.symm
    clear hq
    have hq2 := HQ.out
    go_enter Tryd.func56, Tryd.ntmps56
    go_wp2
    go_ret
    exact ⟨rfl, hs⟩
  · rw [alone_not h1]
    have hl1 : ((xs.length : Int) == 1) = false := by simp; omega
    obtain ⟨n, hn⟩ : ∃ n, n = xs.length := ⟨_, rfl⟩
    rw [← hn] at hl1 hs ⊢
    have hn9 : n ≤ 1048577 := by omega
    clear hn h1 HC
    go_enter Tryd.func56, Tryd.ntmps56
    go_wp2
    go_ret
    exact ⟨rfl, hs⟩
set_option maxRecDepth 100000 in
theorem l8Is_any (v : Value) (xs : List Tok) (k : Int) (w : World) (h : ExAt w v xs) (hl : xs.length ≤ 1048577) : Calls Tryd.prog 61 #[v, .int .i64 k] w fun e w' => e = .returned (.bool (alone xs k)) ∧ Since w w' := by
  obtain ⟨b, rfl, hb⟩ := h
  obtain ⟨ao, cap, rfl, HC⟩ := hb.row
  clear hb
  have hs : Since w (w.alloc (.cells #[.slice ao xs.length cap] 26)) := (Since.refl w).alloc _
  by_cases h1 : xs.length = 1
  · obtain ⟨t, rfl⟩ : ∃ t, xs = [t] := List.length_eq_one_iff.1 h1
    clear h1
    obtain ⟨b, off, rfl, hb1, c0, _⟩ := HC.out 0 (by simp)
    simp only [List.getElem_cons_zero, Nat.zero_mul, Nat.add_zero] at c0
    rw [alone_one]
    simp only [List.length_cons, List.length_nil] at hs ⊢
    have c1 : (w.alloc (.cells #[.slice (some ⟨b, off, none⟩) 1 cap] 26)).cell? ⟨b, off, none⟩ = some (.int .i64 t.kd) := by rw [since_cells ((Since.refl w).alloc _) hb1]; exact c0
    clear c0 HC
    obtain ⟨q, hq⟩ : ∃ q, q = (t.kd == k) := ⟨_, rfl⟩
    rw [← hq]
    have HQ := Lib.hid hq.symm
    clear hq
    have hq2 := HQ.out
    go_enter Tryd.func61, Tryd.ntmps61
    go_wp2
    go_ret
    exact ⟨rfl, hs⟩
  · rw [alone_not h1]
    have hl1 : ((xs.length : Int) == 1) = false := by simp; omega
    obtain ⟨n, hn⟩ : ∃ n, n = xs.length := ⟨_, rfl⟩
    rw [← hn] at hl1 hs ⊢
    have hn9 : n ≤ 1048577 := by omega
    clear hn h1 HC
    go_enter Tryd.func61, Tryd.ntmps61
    go_wp2
    go_ret
    exact ⟨rfl, hs⟩
theorem xout_mk {w w' : World} {b : Value} {xs : List Tok} (h : OwnK w.heap.size w' b xs) (hs : Since w w') : XOut w xs (.returned (.agg #[b])) w' := ⟨_, rfl, OwnX.mk h, hs⟩
set_option maxRecDepth 100000 in
theorem tokenExpr_any (t : Tok) (w : World) (ht : t.In) : Calls Tryd.prog 57 #[kv t] w (XOut w [t]) := by
  unfold kv
  go_enter Tryd.func57, Tryd.ntmps57
  go_wp2
  refine bodyPost_ret (v := .agg #[.slice (some ⟨w.heap.size + 1 + 1, 0, none⟩) 1 1]) (by simp [results, Tryd.results57, go_sem, *]) rfl ?_
  have hs := ((Since.refl w).alloc (.cells #[.int .i64 t.kd, .int .i64 t.lr, .int .i64 t.lo, .int .i64 t.hi] 65)).alloc (.cells #[.slice (some ⟨w.heap.size + 1 + 1, 0, none⟩) 1 1] 26)
  exact xout_mk (ownK_one w _ hs t ht _ (by simp)) (hs.alloc _)
theorem Blk.grwK {w w' : World} {g : Nat} {t : TypeId} {cs : Array Value} {row : Option Nat} (h : Blk w g t cs) (k : w.grownBy w' row) (hd : some g ≠ row) : Blk w' g t cs := (k.block g h.lt hd).trans h
theorem int_lit (n : Int) (h : 0 ≤ n ∧ n ≤ 10) : InI n := by unfold InI; omega
def leafK (k : Int) : Tok := ⟨k, 0, 0, 0⟩
theorem leafK_in (k : Int) (h : 0 ≤ k ∧ k ≤ 10) : (leafK k).In := ⟨int_lit k h, int_lit 0 (by decide), int_lit 0 (by decide), int_lit 0 (by decide)⟩
theorem leaf_any (k : Int) (w : World) (h : 0 ≤ k ∧ k ≤ 10) : Calls Tryd.prog 57 #[.agg #[.int .i64 k, .int .i64 0, .int .i64 0, .int .i64 0]] w (XOut w [leafK k]) := tokenExpr_any (leafK k) w (leafK_in k h)
set_option maxRecDepth 100000 in
theorem l8Leaf_any (k : Int) (w : World) (h : 0 ≤ k ∧ k ≤ 10) : Calls Tryd.prog 62 #[.int .i64 k] w (XOut w [leafK k]) := by
  go_enter Tryd.func62, Tryd.ntmps62
  go_wp2
  refine bodyPost_ret (v := .agg #[.slice (some ⟨w.heap.size + 1, 0, none⟩) 1 1]) (by simp [results, Tryd.results62, go_sem, *]) rfl ?_
  have hs := (Since.refl w).alloc (.cells #[.slice (some ⟨w.heap.size + 1, 0, none⟩) 1 1] 26)
  exact xout_mk (ownK_one w _ hs (leafK k) (leafK_in k h) _ (by simp)) (hs.alloc _)
set_option maxRecDepth 100000 in
theorem specLE_any (k : Int) (w : World) (h : InI k) : Calls Tryd.prog 122 #[.int .i64 k] w (XOut w [⟨3, k, 0, 0⟩]) := by
  go_enter Tryd.func122, Tryd.ntmps122
  go_wp2
  refine bodyPost_ret (v := .agg #[.slice (some ⟨w.heap.size + 1, 0, none⟩) 1 1]) (by simp [results, Tryd.results122, go_sem, *]) rfl ?_
  have hs := (Since.refl w).alloc (.cells #[.slice (some ⟨w.heap.size + 1, 0, none⟩) 1 1] 26)
  exact xout_mk (ownK_one w _ hs ⟨3, k, 0, 0⟩ ⟨int_lit 3 (by decide), h, int_lit 0 (by decide), int_lit 0 (by decide)⟩ _ (by simp)) (hs.alloc _)
/-- A result stored into its box: what the box's write keeps. -/
theorem xout_box {w w1 w2 : World} {b : Value} {xs : List Tok} {i : Nat} (h1 : Since w w1) (h : OwnK w1.heap.size w2 b xs) (hs : Since w1 w2) (hlt : w.heap.size + i < w1.heap.size) (u : Value) : XOut w xs (.returned (.agg #[b])) (w2.setCell ⟨w.heap.size + i, 0, none⟩ u) :=
  xout_mk ((h.far hlt u).mono h1.size) ((h1.trans hs).setCell (Nat.le_add_right _ _) u)
set_option maxRecDepth 100000 in
theorem copiedK_any (v : Value) (xs : List Tok) (w : World) (h : ToksAt w v xs) (hl : xs.length ≤ 1048577) :
    Calls Tryd.prog 95 #[v] w (TokOut w xs) := by
  have HA := Lib.hid h
  obtain ⟨ao, ac, rfl, _⟩ := h.row
  clear h
  obtain ⟨i0, hi, hz0, hz1, hz2⟩ := info_parts info_tok
  have HZ2 := Lib.hid hz2
  clear hz2
  obtain ⟨n, hn⟩ : ∃ n, n = xs.length := ⟨_, rfl⟩
  rw [← hn] at HA
  rw [← hn]
  have hn9 : n ≤ 1048577 := by omega
  have HN := Lib.hid hn
  clear hn hl
  go_enter Tryd.func95, Tryd.ntmps95
  go_wp2_with (first
    | (at_make; go_must (refine wpList_make_full _ rfl _ _ 24 rfl w.heap.size 65 i0 (kv zeroK) 4 Tryd.underlying24 hi hz0 hz1 .i64 .i64 _ _ n rfl rfl rfl rfl (by rw [HZ2.out]; omega) (by unfold maxLen; omega) (Nat.le_refl _) ?_); intro w1 hown hgrow)
    | (refine wpList_copyEK (o := ⟨some 9, _, _, _, _, _⟩) rfl (.tmp 7) (.tmp 8) rfl w.heap.size w.heap.size n n _ rfl hown ao n ac rfl xs (HA.out.since ((Since.refl w).grown hgrow (fun _ h => by simp at h))) HN.out.symm ?_; intro w2 ho2 hg2))
  have hsin : Since w w1 := (Since.refl w).grown hgrow (fun _ h => by simp at h)
  have hs2 := hsin.grown hg2 (fun k hk => by injection hk with hk; omega)
  have HO2 := Lib.hid ho2
  clear ho2 hg2 hown hgrow
  go_wp2
  go_ret
  exact ⟨_, rfl, HO2.out, hs2⟩
set_option maxRecDepth 100000 in
theorem copyExpr_any (v : Value) (xs : List Tok) (w : World) (h : ExAt w v xs) (hl : xs.length ≤ 1048577) : Calls Tryd.prog 58 #[v] w (XOut w xs) := by
  obtain ⟨b, rfl, hb⟩ := h
  have HB := Lib.hid hb
  obtain ⟨bo, bc, rfl⟩ := hb.len
  clear hb
  obtain ⟨y, hy⟩ : ∃ y, y = (w.alloc (.cells #[.slice bo xs.length bc] 26)).alloc (.cells #[.slice none 0 0] 26) := ⟨_, rfl⟩
  have hsy : Since w y := by rw [hy]; exact ((Since.refl w).alloc _).alloc _
  have hz : Hid (w.heap.size + 1 < y.heap.size) := by rw [hy]; unfold Hid; simp
  have BX : Hid (Blk y (w.heap.size + 1) 26 #[.slice none 0 0]) := by rw [hy]; exact Blk.new (by simp) _ _
  have HY := Lib.hid hy
  clear hy
  go_enter Tryd.func58, Tryd.ntmps58
  go_wp2_with fail
  rw [← HY.out]
  refine (copiedK_any _ xs _ (HB.out.since hsy) hl).mono ?_
  rintro e w1 ⟨v, rfl, ho, hs1⟩
  obtain ⟨p0, q0⟩ := (BX.out.since hs1).one
  obtain ⟨ao, ac, rfl⟩ := ho.len
  go_wp2_with fail
  refine bodyPost_ret (v := .agg #[.slice ao xs.length ac]) (by simp [results, Tryd.results58, go_sem, *]) rfl ?_
  exact xout_box (i := 1) hsy ho hs1 hz.out _
set_option maxRecDepth 100000 in
theorem l8Copy_any (v : Value) (xs : List Tok) (w : World) (h : ToksAt w v xs) (hl : xs.length ≤ 4194304) : Calls Tryd.prog 63 #[v] w (XOut w xs) := by
  have HB := Lib.hid h
  obtain ⟨bo, bc, rfl⟩ := h.len
  clear h
  obtain ⟨n, hn⟩ : ∃ n, n = xs.length := ⟨_, rfl⟩
  rw [← hn] at HB hl ⊢
  have HN := Lib.hid hn
  clear hn
  have hsa : Since w (w.alloc (.cells #[.slice none 0 0] 26)) := (Since.refl w).alloc _
  have hsb : Since (w.alloc (.cells #[.slice none 0 0] 26)) ((w.alloc (.cells #[.slice none 0 0] 26)).alloc (.cells #[] 65)) := (Since.refl _).alloc _
  have HO := Lib.hid (ownK_lit (w.alloc (.cells #[.slice none 0 0] 26)) _ (Since.refl _) (w.heap.size + 1) (by simp))
  have BX : Hid (Blk ((w.alloc (.cells #[.slice none 0 0] 26)).alloc (.cells #[] 65)) w.heap.size 26 #[.slice none 0 0]) := (Blk.new rfl _ _).alloc _
  have hlt : Hid (w.heap.size + 0 < (w.alloc (.cells #[.slice none 0 0] 26)).heap.size) := by unfold Hid; simp
  go_enter Tryd.func63, Tryd.ntmps63
  go_wp2_with (at_builtin; go_must (refine wpList_append_toks rfl (.tmp 3) (.tmp 4) rfl (w.alloc (.cells #[.slice none 0 0] 26)).heap.size (.slice (some ⟨w.heap.size + 1, 0, none⟩) 0 0) [] rfl HO.out bo n bc rfl xs (HB.out.since (hsa.trans hsb)) (by have := HN.out; simp; omega) hsb.size ?_); intro v3 w3 ho3 hg3 hb3; clear hb3; obtain ⟨ao, ac, rfl⟩ := ho3.len; obtain ⟨p0, q0⟩ := (BX.out.grwK hg3 (by simp [Value.ownBlock])).one)
  have hs3 := hsb.grown hg3 (fun i hi => (HO.out.2.lt i hi).1)
  have HO3 := Lib.hid ho3
  clear ho3 hg3
  go_wp2
  refine bodyPost_ret (v := .agg #[.slice ao xs.length ac]) (by simp [results, Tryd.results63, go_sem, *]) rfl ?_
  exact xout_box (i := 0) hsa HO3.out hs3 hlt.out _
/-- A token's literal laid in a block: a list of one. -/
theorem tok_lit (w1 : World) (t : Tok) (ht : t.In) : ToksAt (w1.alloc (.cells #[.int .i64 t.kd, .int .i64 t.lr, .int .i64 t.lo, .int .i64 t.hi] 65)) (.slice (some ⟨w1.heap.size, 0, none⟩) 1 1) [t] := (ownK_one w1 w1 (Since.refl w1) t ht _ rfl).at
end Go.Proofs.YtiojgahjfndmdaaDoor
