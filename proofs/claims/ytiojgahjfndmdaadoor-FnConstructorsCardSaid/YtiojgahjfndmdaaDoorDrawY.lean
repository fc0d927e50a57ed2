/- The model's drawing of expressions: l8Any, DrawSplitExpr. -/
import Derived.Test.YtiojgahjfndmdaaDoorDrawX
import Derived.Test.YtiojgahjfndmdaaDoorSpl
namespace Go.Proofs.YtiojgahjfndmdaaDoor
set_option maxRecDepth 100000
open Go.ChangeShapes Go.WideShapes Go.ChangeAt Go.RowKit
set_option linter.unusedVariables false
set_option linter.unusedSimpArgs false

def AnyEx (B cb : Nat) (w : World) (e : Ending) (w' : World) : Prop := ∃ v xs, e = .returned v ∧ ExC w' v xs ∧ xs.length ≤ 26 ∧ Cur B w' cb ∧ Turn cb w w'
theorem anyEx_mk {B cb lo : Nat} {w w2 : World} {b : Value} {xs : List Tok} {t : TypeId} {cs : Array Value} (X : Nat) (hX : w.heap.size ≤ X) (hcb : cb < w.heap.size) (ho : OwnK lo w2 b xs) (hB : Blk w2 X t cs) (ht0 : t ≠ 65) (hn : xs.length ≤ 26) (hc : Cur B w2 cb) (ht : Turn cb w w2) (u : Value) :
    AnyEx B cb w (.returned (.agg #[b])) (w2.setCell ⟨X, 0, none⟩ u) :=
  ⟨_, xs, rfl, (OwnX.mk (ho.farT hB ht0 0 u)).atC, hn, hc.grown (grown_setX w2 X 0 u) (fun g hg => by injection hg; omega), ht.grown (grown_setX w2 X 0 u) (fun g hg => by injection hg; omega)⟩
theorem anyEx_drop {B cb lo n ac m c : Nat} {w w2 : World} {ao ad : Option Addr} {xs : List Tok} {t : TypeId} {cs : Array Value} (X : Nat) (hX : w.heap.size ≤ X) (hcb : cb < w.heap.size) (ho : OwnK lo w2 (.slice ao n ac) xs) (hB : Blk w2 X t cs) (ht0 : t ≠ 65) (hn : xs.length ≤ 26) (hc : Cur B w2 cb) (ht : Turn cb w w2) (u : Value)
    (h1 : 1 ≤ n) (hm : m = n - 1) (hmc : m ≤ c) (had : 1 < n → ∀ b off, ao = some ⟨b, off, none⟩ → ad = some ⟨b, off + 1 * 4, none⟩) :
    AnyEx B cb w (.returned (.agg #[.slice ad m c])) (w2.setCell ⟨X, 0, none⟩ u) :=
  ⟨_, xs.drop 1, rfl, ⟨⟨_, rfl, toks_dropO (ho.farT hB ht0 0 u).at h1 ad m c hm had⟩, ad, m, c, rfl, hmc⟩, by rw [List.length_drop]; omega, hc.grown (grown_setX w2 X 0 u) (fun g hg => by injection hg; omega), ht.grown (grown_setX w2 X 0 u) (fun g hg => by injection hg; omega)⟩
theorem turn_set {cb X : Nat} {w w2 : World} (h : Turn cb w w2) (hX : w.heap.size ≤ X) (i : Nat) (u : Value) : Turn cb w (w2.setCell ⟨X, i, none⟩ u) := h.grown (grown_setX w2 X i u) (fun g hg => by injection hg; omega)
theorem cur_set {B cb X : Nat} {w2 : World} (h : Cur B w2 cb) (hX : cb < X) (i : Nat) (u : Value) : Cur B (w2.setCell ⟨X, i, none⟩ u) cb := h.grown (grown_setX w2 X i u) (fun g hg => by injection hg; omega)
theorem blk_set {X G : Nat} {w : World} {t : TypeId} {cs : Array Value} (h : Blk w X t cs) (hne : X ≠ G) (i : Nat) (u : Value) : Blk (w.setCell ⟨G, i, none⟩ u) X t cs := (Below.heap_setCell w ⟨G, i, none⟩ u X hne).trans h
theorem toks_blkY {w : World} {L : Nat} {t : Tok} (h : Blk w L 65 #[.int .i64 t.kd, .int .i64 t.lr, .int .i64 t.lo, .int .i64 t.hi]) (ht : t.In) : ToksAt w (.slice (some ⟨L, 0, none⟩) 1 1) [t] := toks_blkX h ht
theorem ownK_set {w : World} {base g n cap : Nat} {xs : List Tok} (h : OwnK base w (.slice (some ⟨g, 0, none⟩) n cap) xs) (hn : n = xs.length) (h1 : 0 < xs.length) (e : Tok) (he : e.In) :
    OwnK base ((((w.setCell ⟨g, 0, none⟩ (.int .i64 e.kd)).setCell ⟨g, 1, none⟩ (.int .i64 e.lr)).setCell ⟨g, 2, none⟩ (.int .i64 e.lo)).setCell ⟨g, 3, none⟩ (.int .i64 e.hi)) (.slice (some ⟨g, 0, none⟩) n cap) (xs.set 0 e) := by
  subst hn
  refine ⟨fun x hx => ?_, ?_⟩
  · rcases List.mem_or_eq_of_mem_set hx with h2 | rfl
    · exact h.1 x h2
    · exact he
  · have := row_set4K h.2 0 h1 e
    rw [List.length_set]
    simpa using this
theorem tok_litY (w1 : World) (t : Tok) (ht : t.In) : ToksAt (w1.alloc (.cells #[.int .i64 t.kd, .int .i64 t.lr, .int .i64 t.lo, .int .i64 t.hi] 65)) (.slice (some ⟨w1.heap.size, 0, none⟩) 1 1) [t] := (ownK_one w1 w1 (Since.refl w1) t ht _ rfl).at
def lenBox (w : World) (X : Nat) : Nat := match w.cell? ⟨X, 0, none⟩ with
  | some (.slice _ n _) => n
  | _ => 0
theorem lenBox_of {w : World} {X n c : Nat} {ao : Option Addr} (h : w.cell? ⟨X, 0, none⟩ = some (.slice ao n c)) : lenBox w X = n := by unfold lenBox; rw [h]
set_option maxHeartbeats 8000000 in
set_option maxRecDepth 100000 in
theorem l8Any_any (B cb : Nat) (w : World) (hc : Cur B w cb) : Calls Tryd.prog 70 #[.pointer (some ⟨cb, 0, none⟩)] w (AnyEx B cb w) := by
  have hcb := hc.2.1
  obtain ⟨y, hy⟩ : ∃ y, y = w.alloc (.cells #[.slice none 0 0] 26) := ⟨_, rfl⟩
  have hs0 : Since w y := by rw [hy]; exact (Since.refl w).alloc _
  have hyz : w.heap.size + 1 = y.heap.size := by rw [hy]; simp
  have BR : Hid (Blk y w.heap.size 26 #[.slice none 0 0]) := by rw [hy]; exact Blk.new rfl _ _
  have HC := Lib.hid (hc.since hs0)
  clear hc
  go_enter Tryd.func70, Tryd.ntmps70
  go_wp2_with fail
  rw [← hy]
  clear hy
  refine (l8Expr_any B cb _ HC.out).mono ?_
  rintro e w1 ⟨v, xs, rfl, ho, hl1, hm1, hc1, ht1⟩
  obtain ⟨ao, ac, rfl, _, hac⟩ := ho.atC.open
  have hk : OwnK y.heap.size w1 (.slice ao xs.length ac) xs := by
    obtain ⟨b, hbe, hk, _⟩ := ho
    injection hbe with e; injection e with e; injection e with e _
    subst e
    exact hk
  obtain ⟨g, rfl⟩ : ∃ g, ao = some ⟨g, 0, none⟩ := by
    rcases hk.2.2 with ⟨e, _⟩ | ⟨g, cap, cur, e, _⟩
    · exfalso; injection e with _ e _; omega
    · injection e with e1; exact ⟨g, e1⟩
  obtain ⟨hg0, hg1⟩ := hk.lt g rfl
  obtain ⟨n, hn⟩ : ∃ n, n = xs.length := ⟨_, rfl⟩
  rw [← hn] at hk hac hl1 hm1 ⊢
  have HN := Lib.hid hn
  have hz1 := ht1.size
  obtain ⟨y1, hy1⟩ : ∃ y1, y1 = w1.alloc (.cells #[.slice (some ⟨g, 0, none⟩) n ac] 26) := ⟨_, rfl⟩
  have hs1 : Since w1 y1 := by rw [hy1]; exact (Since.refl w1).alloc _
  have hyz1 : w1.heap.size + 1 = y1.heap.size := by rw [hy1]; simp
  have BX : Hid (Blk y1 w1.heap.size 26 #[.slice (some ⟨g, 0, none⟩) n ac]) := by rw [hy1]; exact Blk.new rfl _ _
  have BR1 := Lib.hid ((BR.out.turnX ht1 (by omega)).since hs1)
  have HK1 := Lib.hid (hk.since hs1)
  have HC1 := Lib.hid (hc1.since hs1)
  have HT1 := Lib.hid (((Turn.of_since (cb := cb) hs0).trans ht1).trans (Turn.of_since hs1))
  clear ho hk hn hc1 ht1 HC BR
  go_wp2_with fail
  rw [← hy1]
  clear hy1
  refine (l1Below_any B cb 14 _ HC1.out (by decide) (by decide)).mono ?_
  rintro e w2 ⟨x, hx0, hx9, rfl, hc2, ht2⟩
  have hz2 := ht2.size
  have BX2 := Lib.hid (BX.out.turnX ht2 (by omega))
  have BR2 := Lib.hid (BR1.out.turnX ht2 (by omega))
  have HK2 := Lib.hid (HK1.out.turnX ht2 (by omega))
  have HC2 := Lib.hid hc2
  have HT2 := Lib.hid (HT1.out.trans ht2)
  have HFX : Hid (w.heap.size ≤ w1.heap.size ∧ cb < w1.heap.size ∧ w1.heap.size ≠ w.heap.size) := ⟨by omega, by omega, by omega⟩
  clear hc2 ht2 BX BR1 HK1 HC1 HT1
  rcases (by omega : x = 0 ∨ x = 1 ∨ x = 2 ∨ 3 ≤ x) with rfl | rfl | rfl | hx3
  · -- the first token cut off
    have h1n : (1 : Int) ≤ (n : Int) := by omega
    have hna : (n : Int) ≤ (ac : Int) := by omega
    have hn26 : Hid (xs.length ≤ 26) := by have := HN.out; unfold Hid; omega
    have FIN : Hid (w.heap.size ≠ w1.heap.size) := fun e => HFX.out.2.2 e.symm
    by_cases hac1 : ac = 1
    · subst hac1
      obtain rfl : n = 1 := by omega
      obtain ⟨q0, q1⟩ := BX2.out.one
      have BX3 := Lib.hid (BX2.out.set 0 (.slice (some ⟨g, 0, none⟩) 0 0))
      have BR3 := Lib.hid (blk_set BR2.out FIN.out 0 (.slice (some ⟨g, 0, none⟩) 0 0))
      have HK3 := Lib.hid (HK2.out.farT BX2.out (by decide) 0 (.slice (some ⟨g, 0, none⟩) 0 0))
      have HC3 := Lib.hid (cur_set HC2.out HFX.out.2.1 0 (.slice (some ⟨g, 0, none⟩) 0 0))
      have HT3 := Lib.hid (turn_set HT2.out HFX.out.1 0 (.slice (some ⟨g, 0, none⟩) 0 0))
      go_upto_region 12 with fail
      clear q0 q1
      generalize w2.setCell ⟨w1.heap.size, 0, none⟩ (.slice (some ⟨g, 0, none⟩) 0 0) = w3 at BX3 BR3 HK3 HC3 HT3 ⊢
      obtain ⟨q0, q1⟩ := BX3.out.one
      obtain ⟨r0, r1⟩ := BR3.out.one
      go_wp2_with fail
      refine bodyPost_ret (v := .agg #[(.slice (some ⟨g, 0, none⟩) 0 0)]) (by simp [results, Tryd.results70, go_sem, *]) rfl ?_
      exact anyEx_drop w.heap.size (Nat.le_refl _) hcb HK3.out BR3.out (by decide) hn26.out HC3.out HT3.out _ (by omega) rfl (Nat.le_refl _) (fun h => absurd h (by decide))
    · have hac2 : ¬ (ac = 1) := hac1
      obtain ⟨q0, q1⟩ := BX2.out.one
      have BX3 := Lib.hid (BX2.out.set 0 (.slice (some ⟨g, 4, none⟩) (n - 1) (ac - 1)))
      have BR3 := Lib.hid (blk_set BR2.out FIN.out 0 (.slice (some ⟨g, 4, none⟩) (n - 1) (ac - 1)))
      have HK3 := Lib.hid (HK2.out.farT BX2.out (by decide) 0 (.slice (some ⟨g, 4, none⟩) (n - 1) (ac - 1)))
      have HC3 := Lib.hid (cur_set HC2.out HFX.out.2.1 0 (.slice (some ⟨g, 4, none⟩) (n - 1) (ac - 1)))
      have HT3 := Lib.hid (turn_set HT2.out HFX.out.1 0 (.slice (some ⟨g, 4, none⟩) (n - 1) (ac - 1)))
      go_upto_region 12 with fail
      clear q0 q1
      generalize w2.setCell ⟨w1.heap.size, 0, none⟩ (.slice (some ⟨g, 4, none⟩) (n - 1) (ac - 1)) = w3 at BX3 BR3 HK3 HC3 HT3 ⊢
      obtain ⟨q0, q1⟩ := BX3.out.one
      obtain ⟨r0, r1⟩ := BR3.out.one
      go_wp2_with fail
      refine bodyPost_ret (v := .agg #[(.slice (some ⟨g, 4, none⟩) (n - 1) (ac - 1))]) (by simp [results, Tryd.results70, go_sem, *]) rfl ?_
      exact anyEx_drop w.heap.size (Nat.le_refl _) hcb HK3.out BR3.out (by decide) hn26.out HC3.out HT3.out _ (by omega) rfl (by omega) (fun _ b off e => by injection e with e; injection e with e1 e2; rw [← e1, ← e2])
  · -- the first token another
    have hxp : Hid (0 < xs.length) := by have := HN.out; unfold Hid; omega
    have hn26 : Hid (xs.length ≤ 26) := by have := HN.out; unfold Hid; omega
    have hgx : Hid (g ≠ w1.heap.size ∧ w.heap.size ≤ g ∧ cb < g ∧ g ≠ w.heap.size) := by unfold Hid; omega
    have h0n : (0 : Int) < (n : Int) := by omega
    have h0m : 0 < n := by omega
    have HKD : Hid (∀ w', Turn cb w2 w' → w'.cell? ⟨w1.heap.size, 0, none⟩ = some (.slice (some ⟨g, 0, none⟩) n ac)) := fun w' h => (BX2.out.turnX h (by have := HFX.out; omega)).one.1
    go_upto_region 6 with fail
    refine wp_region_held_drew (S := (fun w' => w'.cell? ⟨w1.heap.size, 0, none⟩ = some (.slice (some ⟨g, 0, none⟩) n ac))) (by kernel_rfl) (HKD.out _ (Turn.of_since (Since.refl _).drew)) (fun hHeld => ?_)
    have HC2d := Lib.hid (HC2.out.since (Since.refl w2).drew)
    have HT2d : Hid (Turn cb w2 w2.drew) := Turn.of_since (Since.refl _).drew
    refine take_yes 0 (some 16) (v := ?_) rfl (by kernel_rfl) (by kernel_rfl) (by kernel_rfl) (by kernel_rfl) (fun _ _ _ h => h) (by rfl) (by assumption) ?_ ?_
    rotate_left
    · (intro w' hSw; (try dsimp only at hSw); go_simp; try with_reducible rfl)
    try simp only [Act.put, List.setIfInBounds_toArray, List.set_cons_zero, List.set_cons_succ]
    refine take_yes 1 (some 17) (v := ?_) rfl (by kernel_rfl) (by kernel_rfl) (by kernel_rfl) (by kernel_rfl) (fun _ _ _ h => h) (by rfl) (by assumption) ?_ ?_
    rotate_left
    · (intro w' hSw; (try dsimp only at hSw); go_simp; try with_reducible rfl)
    try simp only [Act.put, List.setIfInBounds_toArray, List.set_cons_zero, List.set_cons_succ]
    refine take_yes 2 (some 18) (v := ?_) rfl (by kernel_rfl) (by kernel_rfl) (by kernel_rfl) (by kernel_rfl) (fun _ _ _ h => h) (by rfl) (by assumption) ?_ ?_
    rotate_left
    · (intro w' hSw; (try dsimp only at hSw); go_simp; try with_reducible rfl)
    try simp only [Act.put, List.setIfInBounds_toArray, List.set_cons_zero, List.set_cons_succ]
    refine take_yes 4 (some 20) (v := ?_) rfl (by kernel_rfl) (by kernel_rfl) (by kernel_rfl) (by kernel_rfl) (fun _ _ _ h => h) (by rfl) (by assumption) ?_ ?_
    rotate_left
    · (intro w' hSw; (try dsimp only at hSw); go_simp; try with_reducible rfl)
    try simp only [Act.put, List.setIfInBounds_toArray, List.set_cons_zero, List.set_cons_succ]
    refine take_yes 6 (some 22) (v := ?_) rfl (by kernel_rfl) (by kernel_rfl) (by kernel_rfl) (by kernel_rfl) (fun _ _ _ h => h) (by rfl) (by assumption) ?_ ?_
    rotate_left
    · (intro w' hSw; (try dsimp only at hSw); go_simp; try with_reducible rfl)
    try simp only [Act.put, List.setIfInBounds_toArray, List.set_cons_zero, List.set_cons_succ]
    refine take_yes 8 (some 24) (v := ?_) rfl (by kernel_rfl) (by kernel_rfl) (by kernel_rfl) (by kernel_rfl) (fun _ _ _ h => h) (by rfl) (by assumption) ?_ ?_
    rotate_left
    · (intro w' hSw; (try dsimp only at hSw); go_simp; try with_reducible rfl)
    try simp only [Act.put, List.setIfInBounds_toArray, List.set_cons_zero, List.set_cons_succ]
    refine take_run 3 rfl (by kernel_rfl) (by rfl) (fun K hK => ?_)
    go_simp
    refine (l1Below_any B cb 9 _ HC2d.out (by decide) (by decide)).mono ?_
    rintro en w3 ⟨ka, ka0, ka9, rfl, hc3, ht3⟩
    have HC3 := Lib.hid hc3
    have HT3 := Lib.hid (Turn.trans HT2d.out ht3)
    clear hc3 ht3
    refine hK.out _ _ (HKD.out _ HT3.out) (fun hHeld3 => ?_)
    clear hK K hHeld
    try simp only [Act.put, List.setIfInBounds_toArray, List.set_cons_zero, List.set_cons_succ]
    refine take_run 5 rfl (by kernel_rfl) (by rfl) (fun K hK => ?_)
    go_simp
    refine (l1Below_any B cb 10 _ HC3.out (by decide) (by decide)).mono ?_
    rintro en w4 ⟨kb, kb0, kb9, rfl, hc4, ht4⟩
    have HC4 := Lib.hid hc4
    have HT4 := Lib.hid (Turn.trans HT3.out ht4)
    clear hc4 ht4
    refine hK.out _ _ (HKD.out _ HT4.out) (fun hHeld4 => ?_)
    clear hK K hHeld3
    try simp only [Act.put, List.setIfInBounds_toArray, List.set_cons_zero, List.set_cons_succ]
    refine take_run 7 rfl (by kernel_rfl) (by rfl) (fun K hK => ?_)
    go_simp
    refine (l1Below_any B cb 3 _ HC4.out (by decide) (by decide)).mono ?_
    rintro en w5 ⟨kc, kc0, kc9, rfl, hc5, ht5⟩
    have HC5 := Lib.hid hc5
    have HT5 := Lib.hid (Turn.trans HT4.out ht5)
    clear hc5 ht5
    refine hK.out _ _ (HKD.out _ HT5.out) (fun hHeld5 => ?_)
    clear hK K hHeld4
    try simp only [Act.put, List.setIfInBounds_toArray, List.set_cons_zero, List.set_cons_succ]
    refine take_run 9 rfl (by kernel_rfl) (by rfl) (fun K hK => ?_)
    go_simp
    refine (l1Below_any B cb 5 _ HC5.out (by decide) (by decide)).mono ?_
    rintro en w6 ⟨kd, kd0, kd9, rfl, hc6, ht6⟩
    have HC6 := Lib.hid hc6
    have HT6 := Lib.hid (Turn.trans HT5.out ht6)
    clear hc6 ht6
    refine hK.out _ _ (HKD.out _ HT6.out) (fun hHeld6 => ?_)
    clear hK K hHeld5
    try simp only [Act.put, List.setIfInBounds_toArray, List.set_cons_zero, List.set_cons_succ]
    refine take_yes 10 (some 26) (v := ?_) rfl (by kernel_rfl) (by kernel_rfl) (by kernel_rfl) (by kernel_rfl) (fun _ _ _ h => h) (by rfl) (by assumption) ?_ ?_
    rotate_left
    · (intro w' hSw; (try dsimp only at hSw); go_simp; try with_reducible rfl)
    try simp only [Act.put, List.setIfInBounds_toArray, List.set_cons_zero, List.set_cons_succ]
    refine take_yes 11 (some 27) (v := ?_) rfl (by kernel_rfl) (by kernel_rfl) (by kernel_rfl) (by kernel_rfl) (fun _ _ _ h => h) (by rfl) (by assumption) ?_ ?_
    rotate_left
    · (intro w' hSw; (try dsimp only at hSw); go_simp; try with_reducible rfl)
    try simp only [Act.put, List.setIfInBounds_toArray, List.set_cons_zero, List.set_cons_succ]
    refine take_run 12 rfl (by kernel_rfl) (by rfl) (fun K hK => ?_)
    have HKN := Lib.hid (HK2.out.turnX HT6.out (by omega))
    have HBN := Lib.hid (BX2.out.turnX HT6.out (by have := HFX.out; omega))
    have HRN := Lib.hid (BR2.out.turnX HT6.out (by omega))
    have HTN := Lib.hid (HT2.out.trans HT6.out)
    have hown := HKN.out.2
    rw [← HN.out] at hown
    obtain ⟨d0, d1, d2, d3⟩ := ownK_cells hown HN.out 0 hxp.out
    have f0 := hown.frozenAt 0
    have f1 := hown.frozenAt 1
    have f2 := hown.frozenAt 2
    have f3 := hown.frozenAt 3
    simp only [Nat.zero_mul, Nat.zero_add] at d0 d1 d2 d3
    clear hown
    have HKS := Lib.hid (ownK_set HKN.out HN.out hxp.out ⟨ka, kb, kc, kd⟩ ⟨int_lit ka (by omega), int_lit kb (by omega), int_lit kc (by omega), int_lit kd (by omega)⟩)
    have HBS := Lib.hid (blk_set (blk_set (blk_set (blk_set HBN.out (fun e => hgx.out.1 e.symm) 0 (.int .i64 ka)) (fun e => hgx.out.1 e.symm) 1 (.int .i64 kb)) (fun e => hgx.out.1 e.symm) 2 (.int .i64 kc)) (fun e => hgx.out.1 e.symm) 3 (.int .i64 kd))
    have HRS := Lib.hid (blk_set (blk_set (blk_set (blk_set HRN.out (fun e => hgx.out.2.2.2 e.symm) 0 (.int .i64 ka)) (fun e => hgx.out.2.2.2 e.symm) 1 (.int .i64 kb)) (fun e => hgx.out.2.2.2 e.symm) 2 (.int .i64 kc)) (fun e => hgx.out.2.2.2 e.symm) 3 (.int .i64 kd))
    have HCS := Lib.hid (cur_set (cur_set (cur_set (cur_set HC6.out hgx.out.2.2.1 0 (.int .i64 ka)) hgx.out.2.2.1 1 (.int .i64 kb)) hgx.out.2.2.1 2 (.int .i64 kc)) hgx.out.2.2.1 3 (.int .i64 kd))
    have HTS := Lib.hid (turn_set (turn_set (turn_set (turn_set HTN.out hgx.out.2.1 0 (.int .i64 ka)) hgx.out.2.1 1 (.int .i64 kb)) hgx.out.2.1 2 (.int .i64 kc)) hgx.out.2.1 3 (.int .i64 kd))
    go_simp
    clear d0 d1 d2 d3 f0 f1 f2 f3
    refine hK.out _ _ (HBS.out.one.1) (fun hHeld7 => ?_)
    clear hK K hHeld6
    try simp only [Act.put, List.setIfInBounds_toArray, List.set_cons_zero, List.set_cons_succ]
    refine wpAnyH_done (by kernel_rfl) ?_ _
    clear hHeld7
    generalize ((((w6.setCell ⟨g, 0, none⟩ (.int .i64 ka)).setCell ⟨g, 1, none⟩ (.int .i64 kb)).setCell ⟨g, 2, none⟩ (.int .i64 kc)).setCell ⟨g, 3, none⟩ (.int .i64 kd)) = ws at HKS HBS HRS HCS HTS ⊢
    obtain ⟨q0, q1⟩ := HBS.out.one
    obtain ⟨r0, r1⟩ := HRS.out.one
    go_wp2_with fail
    refine bodyPost_ret (v := .agg #[.slice (some ⟨g, 0, none⟩) n ac]) (by simp [results, Tryd.results70, go_sem, *]) rfl ?_
    exact anyEx_mk w.heap.size (Nat.le_refl _) hcb HKS.out HRS.out (by decide) (by rw [List.length_set]; exact hn26.out) HCS.out HTS.out _
  · -- stars behind
    go_wp2_with fail
    go_loopw [] (fun wr => ∃ (v : Value) (ys : List Tok), Hid (OwnK y.heap.size wr v ys) ∧ Hid (1 ≤ ys.length ∧ ys.length ≤ 25) ∧ Hid (Blk wr w1.heap.size 26 #[v]) ∧ Hid (Blk wr w.heap.size 26 #[.slice none 0 0]) ∧ Hid (Cur B wr cb) ∧ Hid (Turn cb w wr)) (fun wr => 24 - lenBox wr w1.heap.size)
    case atStart => exact ⟨_, xs, HK2.out, (by have := HN.out; unfold Hid; omega), BX2.out, BR2.out, HC2.out, HT2.out⟩
    case round =>
      obtain ⟨v, ys, HO, HL, HB, HR, HCr, HTr⟩ := hrel
      obtain ⟨vo, m, vc, hm, rfl⟩ := HO.out.lenN
      obtain ⟨q0, q1⟩ := HB.out.one
      have HLB := Lib.hid (lenBox_of q0)
      have hm0 : (0 : Int) < (m : Int) := by have := HL.out; have := hm.out; omega
      by_cases h24 : (m : Int) < 24
      · have HBS : Hid (y.heap.size ≤ (wr.alloc (.cells #[.int .i64 6, .int .i64 0, .int .i64 0, .int .i64 0] 65)).heap.size) := by have := HTr.out.size; have := HB.out.lt; unfold Hid; simp; omega
        have hal : Since wr (wr.alloc (.cells #[.int .i64 6, .int .i64 0, .int .i64 0, .int .i64 0] 65)) := (Since.refl wr).alloc _
        have HB4 := Lib.hid (HB.out.since hal)
        have HR4 := Lib.hid (HR.out.since hal)
        have HC4 := Lib.hid (HCr.out.since hal)
        have HT4 := Lib.hid (HTr.out.trans (Turn.of_since hal))
        have HO4 := Lib.hid (HO.out.since hal)
        have HL3 := Lib.hid (tok_litY wr ⟨6, 0, 0, 0⟩ (leafK_in 6 (by decide)))
        obtain ⟨u0, u1⟩ := HB4.out.one
        clear hal
        go_wp2_with (at_builtin; go_must (refine wpList_append_toks rfl (.tmp 41) (.tmp 43) rfl y.heap.size (.slice vo m vc) ys rfl HO4.out _ _ _ rfl [⟨6, 0, 0, 0⟩] HL3.out (by have := HL.out; simp only [List.length_cons, List.length_nil]; omega) HBS.out ?_); intro v3 w5 ho5 hg5 hb5; obtain ⟨o5, n5, c5, hn5, hv5⟩ := ho5.lenN; subst hv5; have hB5 := Lib.hid (HB4.out.keep (KeepK.of_grown hg5 HO4.out) (by decide)); obtain ⟨z0, z1⟩ := hB5.out.one)
        have hT5 : Turn cb w w5 := HT4.out.grown hg5 (fun q hq => by have := (HO4.out.lt q hq).1; omega)
        have hC5 : Cur B w5 cb := HC4.out.grown hg5 (fun q hq => by have := (HO4.out.lt q hq).1; omega)
        have HR5 := Lib.hid (HR4.out.keep (KeepK.of_grown hg5 HO4.out) (by decide))
        have HB6 : Hid (Blk (w5.setCell ⟨w1.heap.size, 0, none⟩ (.slice o5 n5 c5)) w1.heap.size 26 #[.slice o5 n5 c5]) := hB5.out.set 0 (.slice o5 n5 c5)
        have HR6 := Lib.hid (blk_set HR5.out (fun e => HFX.out.2.2 e.symm) 0 (.slice o5 n5 c5) (G := w1.heap.size))
        have HO6 := Lib.hid (ho5.farT hB5.out (by decide) 0 (.slice o5 n5 c5))
        have HC6 := Lib.hid (cur_set hC5 HFX.out.2.1 0 (.slice o5 n5 c5))
        have HT6 := Lib.hid (turn_set hT5 HFX.out.1 0 (.slice o5 n5 c5))
        have HL6 : Hid (1 ≤ (ys ++ [(⟨6, 0, 0, 0⟩ : Tok)]).length ∧ (ys ++ [(⟨6, 0, 0, 0⟩ : Tok)]).length ≤ 26) := by have h1 := HL.out; unfold Hid; simp only [List.length_append, List.length_cons, List.length_nil]; omega
        clear ho5 hg5 hb5 z0 z1 hT5 hC5
        go_wp2
        go_roundw
        case rel => exact ⟨.slice o5 n5 c5, ys ++ [(⟨6, 0, 0, 0⟩ : Tok)], HO6.out, ⟨HL6.out.1, by have h1 := hm.out; have h2 := HL.out; simp only [List.length_append, List.length_cons, List.length_nil]; omega⟩, HB6.out, HR6.out, HC6.out, HT6.out⟩
        case measure => rw [lenBox_of HB6.out.one.1, HLB.out]; have h5 := hn5.out; have h6 := hm.out; simp only [List.length_append, List.length_cons, List.length_nil] at h5; omega
      · have hl25 : Hid (ys.length ≤ 25) := HL.out.2
        go_wp2_with fail
        refine (l1Once_any B cb 2 _ HCr.out (by decide) (by decide)).mono ?_
        rintro e w3 ⟨k, rfl, hc3, ht3⟩
        have HO3 := Lib.hid (HO.out.turnX ht3 (by omega))
        have HB3 := Lib.hid (HB.out.turnX ht3 (by have := HFX.out; omega))
        have HR3 := Lib.hid (HR.out.turnX ht3 (by omega))
        have HC3 := Lib.hid hc3
        have HT3 := Lib.hid (HTr.out.trans ht3)
        clear hc3 ht3 q0 q1 HO HB HR HCr HTr HLB
        obtain ⟨q0, q1⟩ := HB3.out.one
        cases k with
        | true =>
          have HBS : Hid (y.heap.size ≤ (w3.alloc (.cells #[.int .i64 6, .int .i64 0, .int .i64 0, .int .i64 0] 65)).heap.size) := by have := HT3.out.size; have := HB3.out.lt; unfold Hid; simp; omega
          have hal : Since w3 (w3.alloc (.cells #[.int .i64 6, .int .i64 0, .int .i64 0, .int .i64 0] 65)) := (Since.refl w3).alloc _
          have HB4 := Lib.hid (HB3.out.since hal)
          have HR4 := Lib.hid (HR3.out.since hal)
          have HC4 := Lib.hid (HC3.out.since hal)
          have HT4 := Lib.hid (HT3.out.trans (Turn.of_since hal))
          have HO4 := Lib.hid (HO3.out.since hal)
          have HL3 := Lib.hid (tok_litY w3 ⟨6, 0, 0, 0⟩ (leafK_in 6 (by decide)))
          obtain ⟨u0, u1⟩ := HB4.out.one
          clear hal
          go_upto_region 12 with (at_builtin; go_must (refine wpList_append_toks rfl (.tmp 49) (.tmp 51) rfl y.heap.size (.slice vo m vc) ys rfl HO4.out _ _ _ rfl [⟨6, 0, 0, 0⟩] HL3.out (by have := HL.out; simp only [List.length_cons, List.length_nil]; omega) HBS.out ?_); intro v3 w5 ho5 hg5 hb5; obtain ⟨o5, n5, c5, hn5, hv5⟩ := ho5.lenN; subst hv5; have hB5 := Lib.hid (HB4.out.keep (KeepK.of_grown hg5 HO4.out) (by decide)); obtain ⟨z0, z1⟩ := hB5.out.one)
          have hT5 : Turn cb w w5 := HT4.out.grown hg5 (fun q hq => by have := (HO4.out.lt q hq).1; omega)
          have hC5 : Cur B w5 cb := HC4.out.grown hg5 (fun q hq => by have := (HO4.out.lt q hq).1; omega)
          have HR5 := Lib.hid (HR4.out.keep (KeepK.of_grown hg5 HO4.out) (by decide))
          have HB6 : Hid (Blk (w5.setCell ⟨w1.heap.size, 0, none⟩ (.slice o5 n5 c5)) w1.heap.size 26 #[.slice o5 n5 c5]) := hB5.out.set 0 (.slice o5 n5 c5)
          have HR6 := Lib.hid (blk_set HR5.out (fun e => HFX.out.2.2 e.symm) 0 (.slice o5 n5 c5) (G := w1.heap.size))
          have HO6 := Lib.hid (ho5.farT hB5.out (by decide) 0 (.slice o5 n5 c5))
          have HC6 := Lib.hid (cur_set hC5 HFX.out.2.1 0 (.slice o5 n5 c5))
          have HT6 := Lib.hid (turn_set hT5 HFX.out.1 0 (.slice o5 n5 c5))
          have HL6 : Hid (1 ≤ (ys ++ [(⟨6, 0, 0, 0⟩ : Tok)]).length ∧ (ys ++ [(⟨6, 0, 0, 0⟩ : Tok)]).length ≤ 26) := by have h1 := HL.out; unfold Hid; simp only [List.length_append, List.length_cons, List.length_nil]; omega
          clear ho5 hg5 hb5 z0 z1 hT5 hC5
          clear q0 q1 u0 u1
          obtain ⟨q0, q1⟩ := HB6.out.one
          obtain ⟨r0, r1⟩ := HR6.out.one
          go_wp2_with fail
          refine bodyPost_ret (v := .agg #[.slice o5 n5 c5]) (by simp [results, Tryd.results70, go_sem, *]) rfl ?_
          exact anyEx_mk w.heap.size (Nat.le_refl _) hcb HO6.out HR6.out (by decide) (by have := hl25.out; simp only [List.length_append, List.length_cons, List.length_nil]; omega) HC6.out HT6.out _
        | false =>
          obtain ⟨r0, r1⟩ := HR3.out.one
          go_wp2_with fail
          refine bodyPost_ret (v := .agg #[.slice vo m vc]) (by simp [results, Tryd.results70, go_sem, *]) rfl ?_
          exact anyEx_mk w.heap.size (Nat.le_refl _) hcb HO3.out HR3.out (by decide) (by have := hl25.out; omega) HC3.out HT3.out _
  · -- as drawn
    have e0 : (x == 0) = false := by simp; omega
    have e1 : (x == 1) = false := by simp; omega
    have e2 : (x == 2) = false := by simp; omega
    obtain ⟨q0, q1⟩ := BX2.out.one
    obtain ⟨r0, r1⟩ := BR2.out.one
    go_wp2_with fail
    refine bodyPost_ret (v := .agg #[.slice (some ⟨g, 0, none⟩) n ac]) (by simp [results, Tryd.results70, go_sem, *]) rfl ?_
    exact anyEx_mk w.heap.size (Nat.le_refl _) hcb HK2.out BR2.out (by decide) (by have := HN.out; omega) HC2.out HT2.out _
theorem toks_farS {w : World} {X n c : Nat} {o : Option Addr} {v : Value} {xs : List Tok} (h : ToksAt w v xs) (hB : Blk w X 26 #[.slice o n c]) (u : Value) : ToksAt (w.setCell ⟨X, 0, none⟩ u) v xs := by
  obtain ⟨h1, h2 | ⟨b, off, cap, h2, h3, h4⟩⟩ := h
  · exact ⟨h1, .inl h2⟩
  · by_cases hx : xs.length = 0
    · exact ⟨h1, .inl ⟨List.length_eq_zero_iff.1 hx, some ⟨b, off, none⟩, cap, by rw [h2, hx]⟩⟩
    · have hb : b ≠ X := by
        intro e; subst e
        have hc := (h4 0 (by omega)).1
        unfold World.cell? at hc
        rw [show w.heap[b]? = some (.cells #[.slice o n c] 26 (0, 0)) from hB] at hc
        simp at hc
        rcases off with _ | off <;> simp at hc
      have hh : ∀ k, (w.setCell ⟨X, 0, none⟩ u).cell? ⟨b, k, none⟩ = w.cell? ⟨b, k, none⟩ := fun k => World.cell?_of_block (w := w) (w' := w.setCell ⟨X, 0, none⟩ u) (a := ⟨b, k, none⟩) (Below.heap_setCell w ⟨X, 0, none⟩ u b hb)
      refine ⟨h1, .inr ⟨b, off, cap, h2, by simp [World.setCell]; exact h3, fun i hi => ?_⟩⟩
      rw [hh, hh, hh, hh]
      exact h4 i hi
end Go.Proofs.YtiojgahjfndmdaaDoor
