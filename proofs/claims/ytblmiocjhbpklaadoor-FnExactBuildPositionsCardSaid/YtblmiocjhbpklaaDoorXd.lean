/- Single tokens, copies and joins: the small functions of chapter 8, the model's and the program's. -/
import Derived.Test.YtblmiocjhbpklaaDoorXc
namespace Go.Proofs.YtblmiocjhbpklaaDoor
set_option maxRecDepth 100000
open Go.ChangeShapes Go.WideShapes Go.ChangeAt Go.RowKit
set_option linter.unusedVariables false
set_option linter.unusedSimpArgs false

def alone (xs : List Tok) (k : Int) : Bool := match xs with
  | [t] => t.kd == k
  | _ => false
theorem alone_one (t : Tok) (k : Int) : alone [t] k = (t.kd == k) := rfl
theorem alone_not {xs : List Tok} (h : xs.length ≠ 1) (k : Int) : alone xs k = false := by
  match xs, h with
  | [], _ => rfl
  | [_], h => exact (h rfl).elim
  | _ :: _ :: _, _ => rfl
theorem xout_mk {w w' : World} {b : Value} {xs : List Tok} (h : OwnK w.heap.size w' b xs) (hs : Since w w') : XOut w xs (.returned (.agg #[b])) w' := ⟨_, rfl, OwnX.mk h, hs⟩
theorem Blk.grwK {w w' : World} {g : Nat} {t : TypeId} {cs : Array Value} {row : Option Nat} (h : Blk w g t cs) (k : w.grownBy w' row) (hd : some g ≠ row) : Blk w' g t cs := (k.block g h.lt hd).trans h
theorem int_lit (n : Int) (h : 0 ≤ n ∧ n ≤ 10) : InI n := by unfold InI; omega
def leafK (k : Int) : Tok := ⟨k, 0, 0, 0⟩
theorem leafK_in (k : Int) (h : 0 ≤ k ∧ k ≤ 10) : (leafK k).In := ⟨int_lit k h, int_lit 0 (by decide), int_lit 0 (by decide), int_lit 0 (by decide)⟩
set_option maxRecDepth 100000 in
theorem l8Leaf_any (k : Int) (w : World) (h : 0 ≤ k ∧ k ≤ 10) : Calls Tryd.prog 141 #[.int .i64 k] w (XOut w [leafK k]) := by
  go_enter Tryd.func141, Tryd.ntmps141
  go_wp2
  refine bodyPost_ret (v := .agg #[.slice (some ⟨w.heap.size + 1, 0, none⟩) 1 1]) (by simp [results, Tryd.results141, go_sem, *]) rfl ?_
  have hs := (Since.refl w).alloc (.cells #[.slice (some ⟨w.heap.size + 1, 0, none⟩) 1 1] 26)
  exact xout_mk (ownK_one w _ hs (leafK k) (leafK_in k h) _ (by simp)) (hs.alloc _)
set_option maxRecDepth 100000 in
theorem specLE_any (k : Int) (w : World) (h : InI k) : Calls Tryd.prog 147 #[.int .i64 k] w (XOut w [⟨3, k, 0, 0⟩]) := by
  go_enter Tryd.func147, Tryd.ntmps147
  go_wp2
  refine bodyPost_ret (v := .agg #[.slice (some ⟨w.heap.size + 1, 0, none⟩) 1 1]) (by simp [results, Tryd.results147, go_sem, *]) rfl ?_
  have hs := (Since.refl w).alloc (.cells #[.slice (some ⟨w.heap.size + 1, 0, none⟩) 1 1] 26)
  exact xout_mk (ownK_one w _ hs ⟨3, k, 0, 0⟩ ⟨int_lit 3 (by decide), h, int_lit 0 (by decide), int_lit 0 (by decide)⟩ _ (by simp)) (hs.alloc _)
/-- A result stored into its box: what the box's write keeps. -/
theorem xout_box {w w1 w2 : World} {b : Value} {xs : List Tok} {i : Nat} (h1 : Since w w1) (h : OwnK w1.heap.size w2 b xs) (hs : Since w1 w2) (hlt : w.heap.size + i < w1.heap.size) (u : Value) : XOut w xs (.returned (.agg #[b])) (w2.setCell ⟨w.heap.size + i, 0, none⟩ u) :=
  xout_mk ((h.far hlt u).mono h1.size) ((h1.trans hs).setCell (Nat.le_add_right _ _) u)
set_option maxRecDepth 100000 in
theorem l8Copy_any (v : Value) (xs : List Tok) (w : World) (h : ToksAt w v xs) (hl : xs.length ≤ 4194304) : Calls Tryd.prog 140 #[v] w (XOut w xs) := by
  have HB := Lib.hid h
  obtain ⟨bo, bc, rfl⟩ := h.len
  clear h
  obtain ⟨n, hn⟩ : ∃ n, n = xs.length := ⟨_, rfl⟩
  rw [← hn] at HB hl ⊢
  have HN := Lib.hid hn
  clear hn
  have hsa : Since w (w.alloc (.cells #[.slice none 0 0] 26)) := (Since.refl w).alloc _
  have hsb : Since (w.alloc (.cells #[.slice none 0 0] 26)) ((w.alloc (.cells #[.slice none 0 0] 26)).alloc (.cells #[] 90)) := (Since.refl _).alloc _
  have HO := Lib.hid (ownK_lit (w.alloc (.cells #[.slice none 0 0] 26)) _ (Since.refl _) (w.heap.size + 1) (by simp))
  have BX : Hid (Blk ((w.alloc (.cells #[.slice none 0 0] 26)).alloc (.cells #[] 90)) w.heap.size 26 #[.slice none 0 0]) := (Blk.new rfl _ _).alloc _
  have hlt : Hid (w.heap.size + 0 < (w.alloc (.cells #[.slice none 0 0] 26)).heap.size) := by unfold Hid; simp
  go_enter Tryd.func140, Tryd.ntmps140
  go_wp2_with (at_builtin; go_must (refine wpList_append_toks rfl (.tmp 3) (.tmp 4) rfl (w.alloc (.cells #[.slice none 0 0] 26)).heap.size (.slice (some ⟨w.heap.size + 1, 0, none⟩) 0 0) [] rfl HO.out bo n bc rfl xs (HB.out.since (hsa.trans hsb)) (by have := HN.out; simp; omega) hsb.size ?_); intro v3 w3 ho3 hg3 hb3; clear hb3; obtain ⟨ao, ac, rfl⟩ := ho3.len; obtain ⟨p0, q0⟩ := (BX.out.grwK hg3 (by simp [Value.ownBlock])).one)
  have hs3 := hsb.grown hg3 (fun i hi => (HO.out.2.lt i hi).1)
  have HO3 := Lib.hid ho3
  clear ho3 hg3
  go_wp2
  refine bodyPost_ret (v := .agg #[.slice ao xs.length ac]) (by simp [results, Tryd.results140, go_sem, *]) rfl ?_
  exact xout_box (i := 0) hsa HO3.out hs3 hlt.out _
/-- A token's literal laid in a block: a list of one. -/
theorem tok_lit (w1 : World) (t : Tok) (ht : t.In) : ToksAt (w1.alloc (.cells #[.int .i64 t.kd, .int .i64 t.lr, .int .i64 t.lo, .int .i64 t.hi] 90)) (.slice (some ⟨w1.heap.size, 0, none⟩) 1 1) [t] := (ownK_one w1 w1 (Since.refl w1) t ht _ rfl).at
end Go.Proofs.YtblmiocjhbpklaaDoor
