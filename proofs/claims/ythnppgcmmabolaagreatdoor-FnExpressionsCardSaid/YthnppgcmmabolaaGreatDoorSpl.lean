/- SplitExpr, the program's and the model's. -/
import Derived.Test.YthnppgcmmabolaaGreatDoorTap
import Derived.Test.YthnppgcmmabolaaGreatDoorIx
import Derived.Test.YthnppgcmmabolaaGreatDoorK1
namespace Go.Proofs.YthnppgcmmabolaaGreatDoor
set_option maxRecDepth 100000
open Go.ChangeShapes Go.WideShapes Go.ChangeAt Go.RowKit
set_option linter.unusedVariables false
set_option linter.unusedSimpArgs false

/-- An expression whose slice is not longer than its capacity. -/
def CapX (v : Value) : Prop := ∃ ao n c, v = .agg #[.slice ao n c] ∧ n ≤ c
def ExC (w : World) (v : Value) (xs : List Tok) : Prop := ExAt w v xs ∧ CapX v
theorem OwnX.atC {lo hi : Nat} {w : World} {v : Value} {xs : List Tok} (h : OwnX lo hi w v xs) : ExC w v xs := by
  refine ⟨h.at, ?_⟩
  obtain ⟨b, rfl, h1, _⟩ := h
  rcases h1.2.2 with ⟨rfl, _⟩ | ⟨g, cap, cur, rfl, _, _, hc, _⟩
  · exact ⟨none, 0, 0, rfl, Nat.le_refl _⟩
  · exact ⟨_, _, cap, rfl, hc⟩
theorem ExC.open {w : World} {v : Value} {xs : List Tok} (h : ExC w v xs) : ∃ ao c, v = .agg #[.slice ao xs.length c] ∧ ToksAt w (.slice ao xs.length c) xs ∧ xs.length ≤ c := by
  obtain ⟨⟨b, rfl, hb⟩, ao, n, c, e, hc⟩ := h
  obtain ⟨ao', c', rfl⟩ := hb.len
  injection e with e; injection e with e; injection e with e _; injection e with e1 e2 e3
  subst e1; subst e2; subst e3
  exact ⟨_, _, rfl, hb, hc⟩
theorem scan_le {xs : List Tok} {K k m : Nat} (h : Scan xs K k m) : m ≤ k := by
  induction h with
  | done => exact Nat.zero_le _
  | step k m hk hok h ih => omega
set_option maxHeartbeats 1000000 in
set_option maxRecDepth 100000 in
theorem l8Start_any (v : Value) (xs : List Tok) (K : Nat) (w : World) (h : ToksAt w v xs) (hS : Scan xs K xs.length 1) (hl : xs.length ≤ 1048577) :
    Calls Tryz.prog 22 #[v] w fun e w' => e = .returned (.int .i64 K) ∧ Since w w' := by
  obtain ⟨ao, ac, rfl, HC⟩ := h.row
  clear h
  obtain ⟨n, hn⟩ : ∃ n, n = xs.length := ⟨_, rfl⟩
  rw [← hn] at hS ⊢
  have HN := Lib.hid hn
  have hn9 : n ≤ 1048577 := by omega
  have HSC := Lib.hid hS
  clear hn hl hS
  go_enter Tryz.func22, Tryz.ntmps22
  go_wp2
  go_loopw [3, 4] (fun d i wr => ∃ (k m : Nat), k ≤ n ∧ i = .int .i64 k ∧ d = .int .i64 m ∧ Hid (Scan xs K k m) ∧ Since w wr) (fun _ i _ => (intOf i).toNat)
  case atStart => exact ⟨n, 1, Nat.le_refl _, rfl, rfl, HSC.out, Since.refl w⟩
  case round =>
    obtain ⟨k, m, hk, rfl, rfl, HS, HW⟩ := hrel
    rcases scan_cases HS.out with ⟨rfl, rfl⟩ | ⟨j, p, hj, rfl, rfl, hok, hsc⟩
    · go_wp2
      go_ret
      exact ⟨rfl, HW⟩
    · obtain ⟨b, off, rfl, hb, c0, c1, c2, c3⟩ := HC.out j hj
      have s1 := since_cells HW hb
      rw [← s1] at c0 c1 c2 c3
      clear s1
      have hml := scan_le HS.out
      have HSC2 := Lib.hid hsc
      have har : ariT xs[j] = (opN xs[j] : Int) := by unfold ariT; rw [if_pos hok]
      have hop := opN_le xs[j]
      obtain ⟨t, ht⟩ : ∃ t, t = xs[j] := ⟨_, rfl⟩
      rw [← ht] at c0 c1 c2 c3 HSC2 har hop
      have HAR := Lib.hid har
      clear ht hok hsc HS har
      have hj0 : (0 : Int) ≤ (j : Int) := by omega
      have hjn : (j : Int) < (n : Int) := by omega
      have hp0 : (0 : Int) < (p : Int) + 1 := by omega
      go_wp2_with fail
      refine (l8Arity_any t _).mono ?_
      rintro e w1 ⟨rfl, hs1⟩
      rw [HAR.out]
      have hw1 := HW.trans hs1
      go_wp2
      go_roundw
      case rel => exact ⟨j, p + opN t, by omega, by go_num, by go_num, HSC2.out, hw1⟩
      case measure => simp [intOf]
/-- What a function answers that gives two expressions. -/
def SpOut (w : World) (xs ys : List Tok) (e : Ending) (w' : World) : Prop :=
  ∃ v u m, e = .returned (.tuple #[v, u]) ∧ OwnX w.heap.size m w' v xs ∧ OwnX m w'.heap.size w' u ys ∧ (w.heap.size ≤ m ∧ m ≤ w'.heap.size) ∧ Since w w'
theorem InR.none (lo hi : Nat) : InR lo hi (.slice none 0 0) := fun k hk => by cases hk
theorem ownX_nil (lo hi : Nat) (w : World) : OwnX lo hi w (.agg #[.slice none 0 0]) [] := ⟨_, rfl, ⟨fun x hx => by simp at hx, World.ownsRow_nil _ _ _ _⟩, InR.none _ _⟩
theorem spOut_nil {w w' : World} (hs : Since w w') : SpOut w [] [] (.returned (.tuple #[.agg #[.slice none 0 0], .agg #[.slice none 0 0]])) w' :=
  ⟨_, _, w'.heap.size, rfl, ownX_nil _ _ _, ownX_nil _ _ _, ⟨hs.size, Nat.le_refl _⟩, hs⟩
theorem OwnX.farT {lo hi X : Nat} {w : World} {v : Value} {xs : List Tok} {t : TypeId} {cs : Array Value} (h : OwnX lo hi w v xs) (hb : Blk w X t cs) (ht : t ≠ 42) (i : Nat) (u : Value) : OwnX lo hi (w.setCell ⟨X, i, none⟩ u) v xs := by
  obtain ⟨b, rfl, h1, r1⟩ := h; exact ⟨b, rfl, h1.farT hb ht i u, r1⟩
theorem OwnX.lenN {lo hi : Nat} {w : World} {v : Value} {xs : List Tok} (h : OwnX lo hi w v xs) : ∃ ao N c, Hid (N = xs.length) ∧ v = .agg #[.slice ao N c] := by
  obtain ⟨b, rfl, h1, _⟩ := h
  obtain ⟨ao, N, c, hN, rfl⟩ := h1.lenN
  exact ⟨ao, N, c, hN, rfl⟩
theorem spOut_mk {w w3 : World} {v u : Value} {xs ys : List Tok} (m : Nat) (h1 : OwnX w.heap.size m w3 v xs) (h2 : OwnX m w3.heap.size w3 u ys) (h3 : w.heap.size ≤ m ∧ m ≤ w3.heap.size) (hs : Since w w3) : SpOut w xs ys (.returned (.tuple #[v, u])) w3 := ⟨v, u, m, rfl, h1, h2, h3, hs⟩
theorem treeT_some {xs : List Tok} {T : Tr} (h : treeO xs = some T) : treeT xs = T := by unfold treeT; rw [h]; rfl
set_option maxHeartbeats 2000000 in
set_option maxRecDepth 100000 in
theorem implSX_any (v : Value) (xs : List Tok) (w : World) (hf : Forms w) (h : ExC w v xs) (hl : xs.length ≤ 1048577) :
    Calls Tryz.prog 6 #[v] w (SpOut w (partsX xs).1 (partsX xs).2) := by
  obtain ⟨ao, ac, rfl, ha, _⟩ := h.open
  have HA := Lib.hid ha
  obtain ⟨n, hn⟩ : ∃ n, n = xs.length := ⟨_, rfl⟩
  rw [← hn] at HA ⊢
  clear hn h ha
  obtain ⟨y, hy⟩ : ∃ y, y = ((w.alloc (.cells #[.slice ao n ac] 26)).alloc (.cells #[.slice none 0 0] 26)).alloc (.cells #[.slice none 0 0] 26) := ⟨_, rfl⟩
  have hsy : Since w y := by rw [hy]; exact (((Since.refl w).alloc _).alloc _).alloc _
  have BR : Hid (Blk y (w.heap.size + 1) 26 #[.slice none 0 0]) := by rw [hy]; exact (Blk.new (by simp) _ _).alloc _
  have BS : Hid (Blk y (w.heap.size + 1 + 1) 26 #[.slice none 0 0]) := by rw [hy]; exact Blk.new (by simp) _ _
  have hzy : Hid (w.heap.size + 1 + 1 < y.heap.size) := by rw [hy]; unfold Hid; simp
  have HF := Lib.hid (hf.since hsy)
  have HY := Lib.hid hy
  clear hy hf
  go_enter Tryz.func6, Tryz.ntmps6
  go_wp2_with fail
  rw [← HY.out]
  refine (treeOf_any _ xs _ HF.out ⟨_, rfl, HA.out.since hsy⟩ hl).mono ?_
  rintro e w1 ⟨v1, rfl, ht, hs1⟩
  have hyw := hsy.trans hs1
  cases ho : treeO xs with
  | none =>
    obtain rfl : v1 = .pointer none := by unfold treeT at ht; rw [ho] at ht; exact ht
    have HP := Lib.hid (partsX_none ho)
    clear ht ho
    obtain ⟨r0, r1⟩ := (BR.out.since hs1).one
    obtain ⟨q0, q1⟩ := (BS.out.since hs1).one
    go_wp2
    refine bodyPost_ret (v := .tuple #[.agg #[.slice none 0 0], .agg #[.slice none 0 0]]) (by simp [results, Tryz.results6, go_sem, *]) rfl ?_
    rw [HP.out]
    refine spOut_nil ?_
    first | exact hyw | exact (hyw.setCell (by show w.heap.size ≤ w.heap.size + 1; omega) _).setCell (by show w.heap.size ≤ w.heap.size + 1 + 1; omega) _
  | some T =>
    obtain ⟨hok, hpost⟩ := treeO_some ho
    have HP := Lib.hid (partsX_some ho)
    have hTl : T.len ≤ 1048577 := by rw [← post_len, ← hpost]; exact hl
    rw [treeT_some ho] at ht
    cases T with
    | nil => exact hok.elim
    | node t l r =>
      obtain ⟨_, g, lv, rv, a, b, c, d, rfl, hg, hB, hab, hbc, hga, hgc, hL, hR⟩ := ht
      have BX := Lib.hid hB
      have HL := Lib.hid hL
      have HR := Lib.hid hR
      obtain ⟨pl, rfl⟩ := hL.isPtr
      obtain ⟨pr, rfl⟩ := hR.isPtr
      clear hB hL hR ho hok hpost
      simp only [Tr.len] at hTl
      simp only [Tr.left, Tr.right] at HP
      go_upto_region 4 with fail
      have HKC : Hid (∀ w', Since w1 w' → w'.cell? ⟨g, 4, none⟩ = some (.pointer pl) ∧ w'.cell? ⟨g, 5, none⟩ = some (.pointer pr)) := by
        intro w' hs
        obtain ⟨⟨z0, _⟩, z2, _⟩ := (BX.out.since hs).at6
        exact ⟨z0, z2⟩
      refine wp_region_held_drew (S := (fun w' => w'.cell? ⟨g, 4, none⟩ = some (.pointer pl) ∧ w'.cell? ⟨g, 5, none⟩ = some (.pointer pr))) (by kernel_rfl) (HKC.out _ (Since.refl _).drew) (fun hHeld => ?_)
      refine take_yes 0 (some 11) (v := ?_) rfl (by kernel_rfl) (by kernel_rfl) (by kernel_rfl) (by kernel_rfl) (fun _ _ _ h => h) (by rfl) (by assumption) ?_ ?_
      rotate_left
      · (intro w' hSw; (try dsimp only at hSw); go_simp; try with_reducible rfl)
      try simp only [Act.put, List.setIfInBounds_toArray, List.set_cons_zero, List.set_cons_succ]
      refine take_yes 1 (some 12) (v := ?_) rfl (by kernel_rfl) (by kernel_rfl) (by kernel_rfl) (by kernel_rfl) (fun _ _ _ h => h) (by rfl) (by assumption) ?_ ?_
      rotate_left
      · (intro w' hSw; (try dsimp only at hSw); go_simp; try with_reducible rfl)
      try simp only [Act.put, List.setIfInBounds_toArray, List.set_cons_zero, List.set_cons_succ]
      refine take_yes 2 (some 13) (v := ?_) rfl (by kernel_rfl) (by kernel_rfl) (by kernel_rfl) (by kernel_rfl) (fun _ _ _ h => h) (by rfl) (by assumption) ?_ ?_
      rotate_left
      · (intro w' hSw; (try dsimp only at hSw); go_simp; try with_reducible rfl)
      try simp only [Act.put, List.setIfInBounds_toArray, List.set_cons_zero, List.set_cons_succ]
      refine take_yes 3 (some 14) (v := ?_) rfl (by kernel_rfl) (by kernel_rfl) (by kernel_rfl) (by kernel_rfl) (fun _ _ _ h => h) (by rfl) (by assumption) ?_ ?_
      rotate_left
      · (intro w' hSw; (try dsimp only at hSw); go_simp; try with_reducible rfl)
      try simp only [Act.put, List.setIfInBounds_toArray, List.set_cons_zero, List.set_cons_succ]
      refine take_yes 5 (some 16) (v := ?_) rfl (by kernel_rfl) (by kernel_rfl) (by kernel_rfl) (by kernel_rfl) (fun _ _ _ h => h) (by rfl) (by assumption) ?_ ?_
      rotate_left
      · (intro w' hSw; (try dsimp only at hSw); go_simp; try with_reducible rfl)
      try simp only [Act.put, List.setIfInBounds_toArray, List.set_cons_zero, List.set_cons_succ]
      refine take_yes 6 (some 17) (v := ?_) rfl (by kernel_rfl) (by kernel_rfl) (by kernel_rfl) (by kernel_rfl) (fun _ _ _ h => h) (by rfl) (by assumption) ?_ ?_
      rotate_left
      · (intro w' hSw; (try dsimp only at hSw); go_simp; try with_reducible rfl)
      try simp only [Act.put, List.setIfInBounds_toArray, List.set_cons_zero, List.set_cons_succ]
      refine take_yes 7 (some 18) (v := ?_) rfl (by kernel_rfl) (by kernel_rfl) (by kernel_rfl) (by kernel_rfl) (fun _ _ _ h => h) (by rfl) (by assumption) ?_ ?_
      rotate_left
      · (intro w' hSw; (try dsimp only at hSw); go_simp; try with_reducible rfl)
      try simp only [Act.put, List.setIfInBounds_toArray, List.set_cons_zero, List.set_cons_succ]
      refine take_yes 8 (some 19) (v := ?_) rfl (by kernel_rfl) (by kernel_rfl) (by kernel_rfl) (by kernel_rfl) (fun _ _ _ h => h) (by rfl) (by assumption) ?_ ?_
      rotate_left
      · (intro w' hSw; (try dsimp only at hSw); go_simp; try with_reducible rfl)
      try simp only [Act.put, List.setIfInBounds_toArray, List.set_cons_zero, List.set_cons_succ]
      refine take_run 4 rfl (by kernel_rfl) (by rfl) (fun K hK => ?_)
      go_simp
      refine (nodeExpr_any l a b _ _ (HL.out.since (Since.refl _).drew) (by omega)).mono ?_
      rintro e w2 ⟨v2, rfl, ho2, hs2⟩
      have hc2 := Since.of_drew hs2
      have HO2 := Lib.hid ho2
      obtain ⟨lo2, N2, lc2, hN2, rfl⟩ := ho2.lenN
      clear ho2
      refine hK.out _ _ (HKC.out _ hc2) (fun hHeld2 => ?_)
      clear hK K hHeld
      try simp only [Act.put, List.setIfInBounds_toArray, List.set_cons_zero, List.set_cons_succ]
      refine take_run 9 rfl (by kernel_rfl) (by rfl) (fun K hK => ?_)
      go_simp
      refine (nodeExpr_any r c d _ _ (HR.out.since hc2) (by omega)).mono ?_
      rintro e w3 ⟨v3, rfl, ho3, hs3⟩
      have hc3 := hc2.trans hs3
      have HO3 := Lib.hid ho3
      obtain ⟨lo3, N3, lc3, hN3, rfl⟩ := ho3.lenN
      clear ho3
      refine hK.out _ _ (HKC.out _ hc3) (fun hHeld3 => ?_)
      clear hK K hHeld2
      try simp only [Act.put, List.setIfInBounds_toArray, List.set_cons_zero, List.set_cons_succ]
      have hyc := hs1.trans hc3
      obtain ⟨r0, r1⟩ := (BR.out.since hyc).one
      refine take_run 10 rfl (by kernel_rfl) (by rfl) (fun K hK => ?_)
      go_simp
      have BR4 := Lib.hid ((BR.out.since hyc).set 0 (.slice lo2 N2 lc2))
      have BS4 := Lib.hid ((BS.out.since hyc).far (p := ⟨w.heap.size + 1, 0, none⟩) (by simp) (.slice lo2 N2 lc2))
      have HK4 : w3.heap.size ≤ w3.heap.size := Nat.le_refl _
      have HO2b := Lib.hid ((HO2.out.since hs3).farT (BR.out.since hyc) (by decide) 0 (.slice lo2 N2 lc2))
      have HO3b := Lib.hid (HO3.out.farT (BR.out.since hyc) (by decide) 0 (.slice lo2 N2 lc2))
      have hw4 : Hid (Since w (w3.setCell ⟨w.heap.size + 1, 0, none⟩ (.slice lo2 N2 lc2))) := (hsy.trans hyc).setCell (by show w.heap.size ≤ w.heap.size + 1; omega) _
      have HZ4 : Hid ((w3.setCell ⟨w.heap.size + 1, 0, none⟩ (.slice lo2 N2 lc2)).heap.size = w3.heap.size) := by unfold Hid; simp
      have hKC4 : (w3.setCell ⟨w.heap.size + 1, 0, none⟩ (.slice lo2 N2 lc2)).cell? ⟨g, 4, none⟩ = some (.pointer pl) ∧ (w3.setCell ⟨w.heap.size + 1, 0, none⟩ (.slice lo2 N2 lc2)).cell? ⟨g, 5, none⟩ = some (.pointer pr) := by
        obtain ⟨⟨z0, _⟩, z2, _⟩ := ((BX.out.since hc3).far (p := ⟨w.heap.size + 1, 0, none⟩) (by have := hg.1; have := hzy.out; simp; omega) (.slice lo2 N2 lc2)).at6
        exact ⟨z0, z2⟩
      have BX4 := Lib.hid ((BX.out.since hc3).far (p := ⟨w.heap.size + 1, 0, none⟩) (by have := hg.1; have := hzy.out; simp; omega) (.slice lo2 N2 lc2))
      generalize w3.setCell ⟨w.heap.size + 1, 0, none⟩ (.slice lo2 N2 lc2) = w4 at BR4 BS4 HO2b HO3b hw4 HZ4 hKC4 BX4 ⊢
      refine hK.out _ _ hKC4 (fun hHeld4 => ?_)
      clear hK K hHeld3 r0 r1 hKC4
      try simp only [Act.put, List.setIfInBounds_toArray, List.set_cons_zero, List.set_cons_succ]
      obtain ⟨q0, q1⟩ := BS4.out.one
      refine take_run 11 rfl (by kernel_rfl) (by rfl) (fun K hK => ?_)
      go_simp
      have BR5 := Lib.hid (BR4.out.far (p := ⟨w.heap.size + 1 + 1, 0, none⟩) (by simp) (.slice lo3 N3 lc3))
      have BS5 := Lib.hid (BS4.out.set 0 (.slice lo3 N3 lc3))
      have HO2c := Lib.hid (HO2b.out.farT BS4.out (by decide) 0 (.slice lo3 N3 lc3))
      have HO3c := Lib.hid (HO3b.out.farT BS4.out (by decide) 0 (.slice lo3 N3 lc3))
      have hw5 : Hid (Since w (w4.setCell ⟨w.heap.size + 1 + 1, 0, none⟩ (.slice lo3 N3 lc3))) := hw4.out.setCell (by show w.heap.size ≤ w.heap.size + 1 + 1; omega) _
      have HZ5 : Hid ((w4.setCell ⟨w.heap.size + 1 + 1, 0, none⟩ (.slice lo3 N3 lc3)).heap.size = w3.heap.size) := by unfold Hid; rw [← HZ4.out]; simp
      have hKC5 : (w4.setCell ⟨w.heap.size + 1 + 1, 0, none⟩ (.slice lo3 N3 lc3)).cell? ⟨g, 4, none⟩ = some (.pointer pl) ∧ (w4.setCell ⟨w.heap.size + 1 + 1, 0, none⟩ (.slice lo3 N3 lc3)).cell? ⟨g, 5, none⟩ = some (.pointer pr) := by
        obtain ⟨⟨z0, _⟩, z2, _⟩ := (BX4.out.far (p := ⟨w.heap.size + 1 + 1, 0, none⟩) (by have := hg.1; have := hzy.out; simp; omega) (.slice lo3 N3 lc3)).at6
        exact ⟨z0, z2⟩
      generalize w4.setCell ⟨w.heap.size + 1 + 1, 0, none⟩ (.slice lo3 N3 lc3) = w5 at BR5 BS5 HO2c HO3c hw5 HZ5 hKC5 ⊢
      refine hK.out _ _ hKC5 (fun hHeld5 => ?_)
      clear hK K hHeld4 q0 q1 hKC5
      try simp only [Act.put, List.setIfInBounds_toArray, List.set_cons_zero, List.set_cons_succ]
      refine wpAnyH_done (by kernel_rfl) ?_ _
      obtain ⟨r0, r1⟩ := BR5.out.one
      obtain ⟨q0, q1⟩ := BS5.out.one
      clear hHeld5 HKC
      go_wp2
      refine bodyPost_ret (v := .tuple #[.agg #[.slice lo2 N2 lc2], .agg #[.slice lo3 N3 lc3]]) (by simp [results, Tryz.results6, go_sem, *]) rfl ?_
      rw [HP.out]
      exact spOut_mk w2.heap.size (HO2c.out.wider hyw.size (Nat.le_refl _)) (HO3c.out.wider (by omega) (by rw [HZ5.out]; exact Nat.le_refl _)) ⟨by have := hyw.size; have := hc2.size; omega, by rw [HZ5.out]; exact hs3.size⟩ hw5.out
set_option maxHeartbeats 2000000 in
set_option maxRecDepth 100000 in
theorem specSX_any (v : Value) (xs : List Tok) (w : World) (h : ExC w v xs) (hl : xs.length ≤ 1048577) :
    Calls Tryz.prog 7 #[v] w (SpOut w (partsX xs).1 (partsX xs).2) := by
  obtain ⟨ao, ac, rfl, ha, hac⟩ := h.open
  have HA := Lib.hid ha
  obtain ⟨_, _, e0, HC⟩ := ha.row
  injection e0 with e1 _ e3
  subst e1; subst e3
  obtain ⟨n, hn⟩ : ∃ n, n = xs.length := ⟨_, rfl⟩
  rw [← hn] at HA hac ⊢
  have HN := Lib.hid hn
  have hn9 : n ≤ 1048577 := by omega
  clear hn h ha
  obtain ⟨y, hy⟩ : ∃ y, y = ((w.alloc (.cells #[.slice ao n ac] 26)).alloc (.cells #[.slice none 0 0] 26)).alloc (.cells #[.slice none 0 0] 26) := ⟨_, rfl⟩
  have hsy : Since w y := by rw [hy]; exact (((Since.refl w).alloc _).alloc _).alloc _
  have BE : Hid (Blk y w.heap.size 26 #[.slice ao n ac]) := by rw [hy]; exact ((Blk.new rfl _ _).alloc _).alloc _
  have BR : Hid (Blk y (w.heap.size + 1) 26 #[.slice none 0 0]) := by rw [hy]; exact (Blk.new (by simp) _ _).alloc _
  have BS : Hid (Blk y (w.heap.size + 1 + 1) 26 #[.slice none 0 0]) := by rw [hy]; exact Blk.new (by simp) _ _
  have HY := Lib.hid hy
  obtain ⟨p0, p1⟩ := BE.out.one
  rw [hy] at p0 p1
  clear hy
  go_enter Tryz.func7, Tryz.ntmps7
  go_wp2_with fail
  rw [← HY.out]
  clear p0 p1
  refine (specIX_any _ xs _ ⟨_, rfl, HA.out.since hsy⟩ hl).mono ?_
  rintro e w1 ⟨rfl, hs1⟩
  have hyw := hsy.trans hs1
  cases ho : treeO xs with
  | none =>
    have hb : isXB xs = false := by unfold isXB; rw [ho]; rfl
    rw [hb]
    have HP := Lib.hid (partsX_none ho)
    clear ho hb
    obtain ⟨r0, r1⟩ := (BR.out.since hs1).one
    obtain ⟨q0, q1⟩ := (BS.out.since hs1).one
    go_wp2
    refine bodyPost_ret (v := .tuple #[.agg #[.slice none 0 0], .agg #[.slice none 0 0]]) (by simp [results, Tryz.results7, go_sem, *]) rfl ?_
    rw [HP.out]
    refine spOut_nil ?_
    first | exact hyw | exact (hyw.setCell (by show w.heap.size ≤ w.heap.size + 1; omega) _).setCell (by show w.heap.size ≤ w.heap.size + 1 + 1; omega) _
  | some T =>
    have hb : isXB xs = true := by unfold isXB; rw [ho]; rfl
    rw [hb]
    clear hb
    obtain ⟨hok, hpost⟩ := treeO_some ho
    have HP := Lib.hid (partsX_some ho)
    clear ho
    cases T with
    | nil => exact hok.elim
    | node t l r =>
      obtain ⟨htok, hcase⟩ := hok
      simp only [Tr.left, Tr.right] at HP
      obtain ⟨q, hq⟩ : ∃ q, q = l.post.length := ⟨_, rfl⟩
      obtain ⟨m, hm⟩ : ∃ m, m = r.post.length := ⟨_, rfl⟩
      have hnn : n = q + m + 1 := by rw [HN.out, hpost, hq, hm]; simp [Tr.post]; omega
      subst hnn
      have HQ := Lib.hid hq
      have HMM := Lib.hid hm
      clear hq hm
      have hxq : q + m < xs.length := by have := HN.out; omega
      have hxt : xs[q + m] = t := by
        have h1 : xs[q + m]? = some t := by
          rw [hpost, show (Tr.node t l r).post = (l.post ++ r.post) ++ [t] from rfl, show q + m = (l.post ++ r.post).length from by rw [HQ.out, HMM.out, List.length_append], List.getElem?_append_right (Nat.le_refl _), Nat.sub_self]
          rfl
        rw [List.getElem?_eq_getElem hxq] at h1
        exact Option.some.inj h1
      have HTK1 : Hid (xs.take (q + m) = l.post ++ r.post) := by unfold Hid; rw [hpost, show (Tr.node t l r).post = (l.post ++ r.post) ++ [t] from rfl]; exact List.take_left' (by rw [HQ.out, HMM.out, List.length_append])
      obtain ⟨b, off, rfl, hb, c0, c1, c2, c3⟩ := HC.out (q + m) hxq
      have s1 := since_cells hyw hb
      rw [← s1, hxt] at c0 c1 c2 c3
      clear s1 hxt
      have har : Hid (ariT t = (opN t : Int)) := by unfold Hid ariT; rw [if_pos htok]
      clear htok hpost
      have hkq : ((q + m : Nat) : Int) < ((q + m + 1 : Nat) : Int) := by omega
      have hk0 : (0 : Int) ≤ ((q + m : Nat) : Int) := by omega
      have hqa : q + m ≤ ac := by omega
      obtain ⟨p0, p1⟩ := (BE.out.since hs1).one
      go_wp2_with fail
      clear c0 c1 c2 c3 p0 p1
      refine (l8Arity_any t _).mono ?_
      rintro e w5 ⟨rfl, hs5⟩
      rw [har.out]
      have hs5 := hs1.trans hs5
      obtain ⟨p0, p1⟩ := (BE.out.since hs5).one
      obtain ⟨r0, r1⟩ := (BR.out.since hs5).one
      obtain ⟨q0, q1⟩ := (BS.out.since hs5).one
      have HTA : Hid (ToksAt w (.slice (some ⟨b, off, none⟩) (q + m) ac) (l.post ++ r.post)) := by
        unfold Hid; rw [← HTK1.out]; exact toks_takeO HA.out (by omega) _ _ (fun _ _ e => e)
      rcases hcase with ⟨h0, rfl, rfl⟩ | ⟨h1, hlo, rfl⟩ | ⟨h2, hlo, hro⟩
      · rw [h0]
        clear h0
        go_wp2
        refine bodyPost_ret (v := .tuple #[.agg #[.slice none 0 0], .agg #[.slice none 0 0]]) (by simp [results, Tryz.results7, go_sem, *]) rfl ?_
        rw [HP.out]
        refine spOut_nil ?_
        first | exact hsy.trans hs5 | exact ((hsy.trans hs5).setCell (by show w.heap.size ≤ w.heap.size + 1; omega) _).setCell (by show w.heap.size ≤ w.heap.size + 1 + 1; omega) _
      · rw [h1]
        clear h1
        go_wp2_with fail
        clear p0 p1 q0 q1 r0 r1
        refine (l8Copy_any _ (l.post ++ Tr.nil.post) _ (HTA.out.since (hsy.trans hs5)) (by rw [List.length_append, ← HQ.out, ← HMM.out]; omega)).mono ?_
        rintro e w2 ⟨v2, rfl, ho2, hs2⟩
        have HO2 : Hid (OwnX w5.heap.size w2.heap.size w2 v2 l.post) := by have := ho2; rwa [show l.post ++ Tr.nil.post = l.post from List.append_nil _] at this
        clear ho2
        obtain ⟨lo2, N2, lc2, hN2, rfl⟩ := HO2.out.lenN
        have hs52 := hs5.trans hs2
        obtain ⟨r0, r1⟩ := (BR.out.since hs52).one
        obtain ⟨q0, q1⟩ := ((BS.out.since hs52).far (p := ⟨w.heap.size + 1, 0, none⟩) (by simp) (.slice lo2 N2 lc2)).one
        obtain ⟨r2, r3⟩ := ((BR.out.since hs52).set 0 (.slice lo2 N2 lc2)).one
        go_wp2
        refine bodyPost_ret (v := .tuple #[.agg #[.slice lo2 N2 lc2], .agg #[.slice none 0 0]]) (by simp [results, Tryz.results7, go_sem, *]) rfl ?_
        rw [HP.out]
        have hw3 := (hsy.trans hs52).setCell (a := ⟨w.heap.size + 1, 0, none⟩) (by show w.heap.size ≤ w.heap.size + 1; omega) (.slice lo2 N2 lc2)
        have HO3 := HO2.out.farT (BR.out.since hs52) (by decide) 0 (.slice lo2 N2 lc2)
        have BS3 := (BS.out.since hs52).far (p := ⟨w.heap.size + 1, 0, none⟩) (by simp) (.slice lo2 N2 lc2)
        first
          | exact spOut_mk w2.heap.size (HO3.wider (hsy.trans hs5).size (Nat.le_refl _)) (ownX_nil _ _ _) ⟨(hsy.trans hs52).size, by simp⟩ hw3
          | exact spOut_mk w2.heap.size ((HO3.farT BS3 (by decide) 0 _).wider (hsy.trans hs5).size (Nat.le_refl _)) (ownX_nil _ _ _) ⟨(hsy.trans hs52).size, by simp⟩ (hw3.setCell (by show w.heap.size ≤ w.heap.size + 1 + 1; omega) _)
      · rw [h2]
        clear h2
        have HSC : Hid (Scan (l.post ++ r.post) l.post.length (l.post ++ r.post).length 1) := scan_two l.post r hro
        have hmp : 0 < m := by rw [HMM.out, post_len]; cases r with
          | nil => exact hro.elim
          | node _ _ _ => simp [Tr.len]
        clear hro hlo
        go_wp2_with fail
        clear p0 p1 q0 q1 r0 r1
        refine (l8Start_any _ (l.post ++ r.post) l.post.length _ (HTA.out.since (hsy.trans hs5)) HSC.out (by rw [List.length_append, ← HQ.out, ← HMM.out]; omega)).mono ?_
        rintro e w6 ⟨rfl, hs6⟩
        rw [← HQ.out]
        have hs5 := hs5.trans hs6
        go_upto_region 9 with fail
        have hne : ¬ (ac = q) := by omega
        have hqac : q ≤ ac := by omega
        have hqaci : (q : Int) ≤ (ac : Int) := by omega
        have hqmi : (q : Int) ≤ (q : Int) + (m : Int) := by omega
        have hqm0 : (0 : Int) ≤ (q : Int) + (m : Int) := by omega
        have hqma : (q : Int) + (m : Int) ≤ (ac : Int) := by omega
        have hq0 : (0 : Int) ≤ (q : Int) := by omega
        have HT1 : Hid (ToksAt w (.slice (some ⟨b, off, none⟩) q ac) l.post) := by
          have := toks_takeO HTA.out (k := q) (by omega) (some ⟨b, off, none⟩) ac (fun _ _ e => e)
          unfold Hid; rwa [show (l.post ++ r.post).take q = l.post from List.take_left' HQ.out.symm] at this
        have HT2 : Hid (ToksAt w (.slice (some ⟨b, off + q * 4, none⟩) m (ac - q)) r.post) := by
          have := toks_dropO HTA.out (k := q) (by omega) (some ⟨b, off + q * 4, none⟩) m (ac - q) (by omega) (fun _ b1 o1 e => by injection e with e; injection e with e1 e2; rw [e1, e2])
          unfold Hid; rwa [show (l.post ++ r.post).drop q = r.post from List.drop_left' HQ.out.symm] at this
        have HKC : Hid (∀ w', Since w6 w' → w'.cell? ⟨w.heap.size, 0, none⟩ = some (.slice (some ⟨b, off, none⟩) (q + m + 1) ac)) := by
          intro w' hs
          exact (BE.out.since (hs5.trans hs)).one.1
        refine wp_region_held_drew (S := (fun w' => w'.cell? ⟨w.heap.size, 0, none⟩ = some (.slice (some ⟨b, off, none⟩) (q + m + 1) ac))) (by kernel_rfl) (HKC.out _ (Since.refl _).drew) (fun hHeld => ?_)
        refine take_yes 0 (some 36) (v := ?_) rfl (by kernel_rfl) (by kernel_rfl) (by kernel_rfl) (by kernel_rfl) (fun _ _ _ h => h) (by rfl) (by assumption) ?_ ?_
        rotate_left
        · (intro w' hSw; (try dsimp only at hSw); go_simp; try with_reducible rfl)
        try simp only [Act.put, List.setIfInBounds_toArray, List.set_cons_zero, List.set_cons_succ]
        refine take_yes 1 (some 37) (v := ?_) rfl (by kernel_rfl) (by kernel_rfl) (by kernel_rfl) (by kernel_rfl) (fun _ _ _ h => h) (by rfl) (by assumption) ?_ ?_
        rotate_left
        · (intro w' hSw; (try dsimp only at hSw); go_simp; try with_reducible rfl)
        try simp only [Act.put, List.setIfInBounds_toArray, List.set_cons_zero, List.set_cons_succ]
        refine take_yes 2 (some 38) (v := ?_) rfl (by kernel_rfl) (by kernel_rfl) (by kernel_rfl) (by kernel_rfl) (fun _ _ _ h => h) (by rfl) (by assumption) ?_ ?_
        rotate_left
        · (intro w' hSw; (try dsimp only at hSw); go_simp; try with_reducible rfl)
        try simp only [Act.put, List.setIfInBounds_toArray, List.set_cons_zero, List.set_cons_succ]
        refine take_yes 3 (some 39) (v := ?_) rfl (by kernel_rfl) (by kernel_rfl) (by kernel_rfl) (by kernel_rfl) (fun _ _ _ h => h) (by rfl) (by assumption) ?_ ?_
        rotate_left
        · (intro w' hSw; (try dsimp only at hSw); go_simp; try with_reducible rfl)
        try simp only [Act.put, List.setIfInBounds_toArray, List.set_cons_zero, List.set_cons_succ]
        refine take_yes 5 (some 41) (v := ?_) rfl (by kernel_rfl) (by kernel_rfl) (by kernel_rfl) (by kernel_rfl) (fun _ _ _ h => h) (by rfl) (by assumption) ?_ ?_
        rotate_left
        · (intro w' hSw; (try dsimp only at hSw); go_simp; try with_reducible rfl)
        try simp only [Act.put, List.setIfInBounds_toArray, List.set_cons_zero, List.set_cons_succ]
        refine take_yes 6 (some 42) (v := ?_) rfl (by kernel_rfl) (by kernel_rfl) (by kernel_rfl) (by kernel_rfl) (fun _ _ _ h => h) (by rfl) (by assumption) ?_ ?_
        rotate_left
        · (intro w' hSw; (try dsimp only at hSw); go_simp; try with_reducible rfl)
        try simp only [Act.put, List.setIfInBounds_toArray, List.set_cons_zero, List.set_cons_succ]
        refine take_yes 7 (some 43) (v := ?_) rfl (by kernel_rfl) (by kernel_rfl) (by kernel_rfl) (by kernel_rfl) (fun _ _ _ h => h) (by rfl) (by assumption) ?_ ?_
        rotate_left
        · (intro w' hSw; (try dsimp only at hSw); go_simp; try with_reducible rfl)
        try simp only [Act.put, List.setIfInBounds_toArray, List.set_cons_zero, List.set_cons_succ]
        refine take_yes 8 (some 44) (v := ?_) rfl (by kernel_rfl) (by kernel_rfl) (by kernel_rfl) (by kernel_rfl) (fun _ _ _ h => h) (by rfl) (by assumption) ?_ ?_
        rotate_left
        · (intro w' hSw; (try dsimp only at hSw); go_simp; try with_reducible rfl)
        try simp only [Act.put, List.setIfInBounds_toArray, List.set_cons_zero, List.set_cons_succ]
        refine take_yes 9 (some 45) (v := ?_) rfl (by kernel_rfl) (by kernel_rfl) (by kernel_rfl) (by kernel_rfl) (fun _ _ _ h => h) (by rfl) (by assumption) ?_ ?_
        rotate_left
        · (intro w' hSw; (try dsimp only at hSw); go_simp; try with_reducible rfl)
        try simp only [Act.put, List.setIfInBounds_toArray, List.set_cons_zero, List.set_cons_succ]
        refine take_run 4 rfl (by kernel_rfl) (by rfl) (fun K hK => ?_)
        go_simp
        refine (l8Copy_any _ l.post _ (HT1.out.since (hsy.trans hs5).drew) (by rw [← HQ.out]; omega)).mono ?_
        rintro e w2 ⟨v2, rfl, ho2, hs2⟩
        have hc2 := Since.of_drew hs2
        have HO2 := Lib.hid ho2
        obtain ⟨lo2, N2, lc2, hN2, rfl⟩ := ho2.lenN
        clear ho2
        refine hK.out _ _ (HKC.out _ hc2) (fun hHeld2 => ?_)
        clear hK K hHeld
        try simp only [Act.put, List.setIfInBounds_toArray, List.set_cons_zero, List.set_cons_succ]
        refine take_run 10 rfl (by kernel_rfl) (by rfl) (fun K hK => ?_)
        go_simp
        rw [show ((q : Int) + (m : Int)).toNat - q = m from by omega]
        refine (l8Copy_any _ r.post _ (HT2.out.since ((hsy.trans hs5).trans hc2)) (by rw [← HMM.out]; omega)).mono ?_
        rintro e w3 ⟨v3, rfl, ho3, hs3⟩
        have hc3 := hc2.trans hs3
        have HO3 := Lib.hid ho3
        obtain ⟨lo3, N3, lc3, hN3, rfl⟩ := ho3.lenN
        clear ho3
        refine hK.out _ _ (HKC.out _ hc3) (fun hHeld3 => ?_)
        clear hK K hHeld2
        try simp only [Act.put, List.setIfInBounds_toArray, List.set_cons_zero, List.set_cons_succ]
        have hyc := hs5.trans hc3
        obtain ⟨r0, r1⟩ := (BR.out.since hyc).one
        refine take_run 11 rfl (by kernel_rfl) (by rfl) (fun K hK => ?_)
        go_simp
        have BR4 := Lib.hid ((BR.out.since hyc).set 0 (.slice lo2 N2 lc2))
        have BS4 := Lib.hid ((BS.out.since hyc).far (p := ⟨w.heap.size + 1, 0, none⟩) (by simp) (.slice lo2 N2 lc2))
        have HK4 : w3.heap.size ≤ w3.heap.size := Nat.le_refl _
        have HO2b := Lib.hid ((HO2.out.since hs3).farT (BR.out.since hyc) (by decide) 0 (.slice lo2 N2 lc2))
        have HO3b := Lib.hid (HO3.out.farT (BR.out.since hyc) (by decide) 0 (.slice lo2 N2 lc2))
        have hw4 : Hid (Since w (w3.setCell ⟨w.heap.size + 1, 0, none⟩ (.slice lo2 N2 lc2))) := (hsy.trans hyc).setCell (by show w.heap.size ≤ w.heap.size + 1; omega) _
        have HZ4 : Hid ((w3.setCell ⟨w.heap.size + 1, 0, none⟩ (.slice lo2 N2 lc2)).heap.size = w3.heap.size) := by unfold Hid; simp
        have hKC4 : (w3.setCell ⟨w.heap.size + 1, 0, none⟩ (.slice lo2 N2 lc2)).cell? ⟨w.heap.size, 0, none⟩ = some (.slice (some ⟨b, off, none⟩) (q + m + 1) ac) := ((BE.out.since hyc).far (p := ⟨w.heap.size + 1, 0, none⟩) (by simp) (.slice lo2 N2 lc2)).one.1
        have BX4 := Lib.hid ((BE.out.since hyc).far (p := ⟨w.heap.size + 1, 0, none⟩) (by simp) (.slice lo2 N2 lc2))
        generalize w3.setCell ⟨w.heap.size + 1, 0, none⟩ (.slice lo2 N2 lc2) = w4 at BR4 BS4 HO2b HO3b hw4 HZ4 hKC4 BX4 ⊢
        refine hK.out _ _ hKC4 (fun hHeld4 => ?_)
        clear hK K hHeld3 r0 r1 hKC4
        try simp only [Act.put, List.setIfInBounds_toArray, List.set_cons_zero, List.set_cons_succ]
        obtain ⟨q0, q1⟩ := BS4.out.one
        refine take_run 12 rfl (by kernel_rfl) (by rfl) (fun K hK => ?_)
        go_simp
        have BR5 := Lib.hid (BR4.out.far (p := ⟨w.heap.size + 1 + 1, 0, none⟩) (by simp) (.slice lo3 N3 lc3))
        have BS5 := Lib.hid (BS4.out.set 0 (.slice lo3 N3 lc3))
        have HO2c := Lib.hid (HO2b.out.farT BS4.out (by decide) 0 (.slice lo3 N3 lc3))
        have HO3c := Lib.hid (HO3b.out.farT BS4.out (by decide) 0 (.slice lo3 N3 lc3))
        have hw5 : Hid (Since w (w4.setCell ⟨w.heap.size + 1 + 1, 0, none⟩ (.slice lo3 N3 lc3))) := hw4.out.setCell (by show w.heap.size ≤ w.heap.size + 1 + 1; omega) _
        have HZ5 : Hid ((w4.setCell ⟨w.heap.size + 1 + 1, 0, none⟩ (.slice lo3 N3 lc3)).heap.size = w3.heap.size) := by unfold Hid; rw [← HZ4.out]; simp
        have hKC5 : (w4.setCell ⟨w.heap.size + 1 + 1, 0, none⟩ (.slice lo3 N3 lc3)).cell? ⟨w.heap.size, 0, none⟩ = some (.slice (some ⟨b, off, none⟩) (q + m + 1) ac) := (BX4.out.far (p := ⟨w.heap.size + 1 + 1, 0, none⟩) (by simp; omega) (.slice lo3 N3 lc3)).one.1
        generalize w4.setCell ⟨w.heap.size + 1 + 1, 0, none⟩ (.slice lo3 N3 lc3) = w5 at BR5 BS5 HO2c HO3c hw5 HZ5 hKC5 ⊢
        refine hK.out _ _ hKC5 (fun hHeld5 => ?_)
        clear hK K hHeld4 q0 q1 hKC5
        try simp only [Act.put, List.setIfInBounds_toArray, List.set_cons_zero, List.set_cons_succ]
        refine wpAnyH_done (by kernel_rfl) ?_ _
        obtain ⟨r0, r1⟩ := BR5.out.one
        obtain ⟨q0, q1⟩ := BS5.out.one
        clear hHeld5 HKC
        go_wp2
        refine bodyPost_ret (v := .tuple #[.agg #[.slice lo2 N2 lc2], .agg #[.slice lo3 N3 lc3]]) (by simp [results, Tryz.results7, go_sem, *]) rfl ?_
        rw [HP.out]
        exact spOut_mk w2.heap.size (HO2c.out.wider (hsy.trans hs5).size (Nat.le_refl _)) (HO3c.out.wider (by omega) (by rw [HZ5.out]; exact Nat.le_refl _)) ⟨(hsy.trans (hs5.trans hc2)).size, by rw [HZ5.out]; exact hs3.size⟩ hw5.out
end Go.Proofs.YthnppgcmmabolaaGreatDoor
