/- ExpandExpr, the model's and the program's. -/
import Derived.Test.YtgnjgfifgfbmcaaDoorEpK
import Derived.Test.YtgnjgfifgfbmcaaDoorIx
import Derived.Test.YtgnjgfifgfbmcaaDoorL1
namespace Go.Proofs.YtgnjgfifgfbmcaaDoor
set_option maxRecDepth 100000
open Go.ChangeShapes Go.WideShapes Go.ChangeAt Go.RowKit
set_option linter.unusedVariables false
set_option linter.unusedSimpArgs false

theorem validXB_tree {xs : List Tok} (h : validXB xs = true) : xs.length ≤ 24 ∧ (treeT xs).ok ∧ xs = (treeT xs).post := by
  unfold validXB isXB at h
  rw [Bool.and_eq_true, decide_eq_true_eq] at h
  obtain ⟨h1, h2⟩ := h
  cases e : treeO xs with
  | none => rw [e] at h2; cases h2
  | some T =>
    obtain ⟨h3, h4⟩ := treeO_some e
    rw [treeT_some e]
    exact ⟨h1, h3, h4⟩
theorem exB_no {xs : List Tok} (h : exB xs = false) : exX xs = [] := by unfold exX; rw [h]; rfl
theorem exB_yes {xs : List Tok} (h : exB xs = true) : exX xs = (exT (treeT xs)).post := by unfold exX; rw [if_pos h]
theorem exB_valid {xs : List Tok} (h : validXB xs = false) : exB xs = false := by unfold exB; rw [h]; rfl
theorem exB_size {xs : List Tok} (h : ¬ szT (treeT xs) ≤ 5000) : exB xs = false := by unfold exB; rw [decide_eq_false h]; simp
theorem exB_long {xs : List Tok} (h : ¬ (exT (treeT xs)).post.length ≤ 400) : exB xs = false := by unfold exB; rw [decide_eq_false h]; simp
theorem exB_all {xs : List Tok} (h1 : validXB xs = true) (h2 : szT (treeT xs) ≤ 5000) (h3 : (exT (treeT xs)).post.length ≤ 400) : exB xs = true := by
  unfold exB; rw [h1, decide_eq_true h2, decide_eq_true h3]; rfl
set_option maxHeartbeats 2000000 in
set_option maxRecDepth 100000 in
theorem specEX_any (v : Value) (xs : List Tok) (w : World) (h : ExC w v xs) (hl : xs.length ≤ 1048577) :
    Calls Tryd.prog 21 #[v] w (XBOut w (exX xs) (exB xs)) := by
  obtain ⟨ao, ac, rfl, ha, hac⟩ := h.open
  have HA := Lib.hid ha
  have HIN := Lib.hid ha.1
  obtain ⟨n, hn⟩ : ∃ n, n = xs.length := ⟨_, rfl⟩
  rw [← hn] at HA hac ⊢
  have HN := Lib.hid hn
  have hn9 : n ≤ 1048577 := by omega
  clear hn h ha
  obtain ⟨y, hy⟩ : ∃ y, y = (w.alloc (.cells #[.slice ao n ac] 26)).alloc (.cells #[.slice none 0 0] 26) := ⟨_, rfl⟩
  have hsy : Since w y := by rw [hy]; exact ((Since.refl w).alloc _).alloc _
  have BE : Hid (Blk y w.heap.size 26 #[.slice ao n ac]) := by rw [hy]; exact (Blk.new rfl _ _).alloc _
  have BR : Hid (Blk y (w.heap.size + 1) 26 #[.slice none 0 0]) := by rw [hy]; exact Blk.new (by simp) _ _
  have HY := Lib.hid hy
  clear hy
  go_enter Tryd.func21, Tryd.ntmps21
  go_wp2_with fail
  rw [← HY.out]
  refine (specVX_any _ xs _ ⟨_, rfl, HA.out.since hsy⟩ hl).mono ?_
  rintro e w1 ⟨rfl, hs1⟩
  have hyw := hsy.trans hs1
  obtain ⟨r0, r1⟩ := (BR.out.since hs1).one
  obtain ⟨p0, p1⟩ := (BE.out.since hs1).one
  cases hv : validXB xs with
  | false =>
    have HP : Hid (exB xs = false) := exB_valid hv
    have HQ := Lib.hid (exB_no HP.out)
    clear hv
    go_wp2
    refine bodyPost_ret (v := .tuple #[.agg #[.slice none 0 0], .bool false]) (by simp [results, Tryd.results21, go_sem, *]) rfl ?_
    rw [HP.out, HQ.out]
    refine xbOut_nil ?_
    first | exact hyw | exact hyw.setCell (by show w.heap.size ≤ w.heap.size + 1; omega) _
  | true =>
    have HV := Lib.hid hv
    obtain ⟨h24, hok, hpost⟩ := validXB_tree hv
    clear hv
    obtain ⟨T, hT⟩ : ∃ T, T = treeT xs := ⟨_, rfl⟩
    rw [← hT] at hok hpost
    have HT := Lib.hid hT
    have HAT : Hid (∀ W, Since w W → ToksAt W (.slice ao n ac) T.post) := fun W k => by rw [← hpost]; exact HA.out.since k
    have HIN2 : Hid (∀ x ∈ T.post, x.In) := by unfold Hid; rw [← hpost]; exact HIN.out
    have hlen : Hid (n = T.len) := by unfold Hid; rw [HN.out, hpost, post_len]
    have HOK := Lib.hid hok
    obtain ⟨Z, hZ⟩ : ∃ Z, Z = szT T := ⟨_, rfl⟩
    have hZ9 : Z ≤ 100000 := by rw [hZ]; exact szT_le T
    have HSZ : Hid (∀ W, Since w W → Calls Tryd.prog 62 #[.slice ao n ac] W (IOut W Z)) := fun W k => by rw [hZ]; exact l10Size_any T ao n ac W HOK.out (HAT.out W k) hac hlen.out hn9 HIN2.out
    have HZ := Lib.hid hZ
    clear hT hok hpost hZ
    go_wp2_with fail
    refine (HSZ.out _ hyw).mono ?_
    rintro e w2 ⟨rfl, hs2⟩
    have hyw2 := hyw.trans hs2
    have BR2 := Lib.hid (BR.out.since (hs1.trans hs2))
    have BE2 := Lib.hid (BE.out.since (hs1.trans hs2))
    clear p0 p1 r0 r1
    obtain ⟨r0, r1⟩ := BR2.out.one
    obtain ⟨p0, p1⟩ := BE2.out.one
    by_cases h5 : Z ≤ 5000
    · have h5i : ¬ ((5000 : Int) < (Z : Int)) := by omega
      have HEX : Hid (∀ W, Since w W → Calls Tryd.prog 63 #[.slice ao n ac] W (XOut W (exT T).post)) := fun W k => l10Expand_any T ao n ac W HOK.out (HAT.out W k) hac hlen.out hn9 HIN2.out (by rw [← HZ.out]; exact h5)
      have HZ5 : Hid (szT (treeT xs) ≤ 5000) := by unfold Hid; rw [← HT.out, ← HZ.out]; exact h5
      clear h5
      go_wp2_with fail
      clear p0 p1 r0 r1
      refine (HEX.out _ hyw2).mono ?_
      rintro e w3 ⟨v3, rfl, ⟨b3, rfl, ho3, _⟩, hs3⟩
      obtain ⟨ro, N, rc, hN, rfl⟩ := ho3.lenN
      have HO3 : Hid (OwnK w.heap.size w3 (.slice ro N rc) (exT T).post) := ho3.mono hyw2.size
      have hc3 := hyw2.trans hs3
      have BR3 := Lib.hid (BR2.out.since hs3)
      clear ho3 hs3
      have hal : Since w3 (w3.alloc (.cells #[.slice ro N rc] 26)) := (Since.refl w3).alloc _
      obtain ⟨r0, r1⟩ := (BR3.out.since hal).one
      have HO4 := Lib.hid (HO3.out.since hal)
      have hc4 := hc3.trans hal
      by_cases h4 : N ≤ 400
      · have h4i : ¬ ((400 : Int) < (N : Int)) := by omega
        have HP : Hid (exB xs = true) := exB_all HV.out HZ5.out (by rw [← HT.out, ← hN.out]; exact h4)
        have HQ : Hid (exX xs = (exT T).post) := by unfold Hid; rw [exB_yes HP.out, HT.out]
        clear h4
        have BR4 := Lib.hid (BR3.out.since hal)
        go_wp2_with fail
        refine bodyPost_ret (v := .tuple #[.agg #[.slice ro N rc], .bool true]) (by simp [results, Tryd.results21, go_sem, *]) rfl ?_
        rw [HP.out, HQ.out]
        exact xbOut_box HO4.out hc4 BR4.out (by decide) (by omega) _
      · have h4i : (400 : Int) < (N : Int) := by omega
        have HP : Hid (exB xs = false) := exB_long (by rw [← HT.out, ← hN.out]; exact h4)
        have HQ := Lib.hid (exB_no HP.out)
        clear h4
        go_wp2
        refine bodyPost_ret (v := .tuple #[.agg #[.slice none 0 0], .bool false]) (by simp [results, Tryd.results21, go_sem, *]) rfl ?_
        rw [HP.out, HQ.out]
        refine xbOut_nil ?_
        first | exact hc4 | exact hc4.setCell (by show w.heap.size ≤ w.heap.size + 1; omega) _
    · have h5i : (5000 : Int) < (Z : Int) := by omega
      have HP : Hid (exB xs = false) := exB_size (by rw [← HT.out, ← HZ.out]; exact h5)
      have HQ := Lib.hid (exB_no HP.out)
      clear h5
      go_wp2
      refine bodyPost_ret (v := .tuple #[.agg #[.slice none 0 0], .bool false]) (by simp [results, Tryd.results21, go_sem, *]) rfl ?_
      rw [HP.out, HQ.out]
      refine xbOut_nil ?_
      first | exact hyw2 | exact hyw2.setCell (by show w.heap.size ≤ w.heap.size + 1; omega) _
set_option maxHeartbeats 2000000 in
set_option maxRecDepth 100000 in
theorem implEX_any (v : Value) (xs : List Tok) (w : World) (hf : Forms w) (h : ExAt w v xs) (hl : xs.length ≤ 1048577) :
    Calls Tryd.prog 20 #[v] w (XBOut w (exX xs) (exB xs)) := by
  obtain ⟨a, rfl, ha⟩ := h
  have HA := Lib.hid ha
  obtain ⟨ao, ac, rfl⟩ := ha.len
  obtain ⟨n, hn⟩ : ∃ n, n = xs.length := ⟨_, rfl⟩
  rw [← hn] at HA ⊢
  have HN := Lib.hid hn
  have hn9 : n ≤ 1048577 := by omega
  clear hn ha
  have HF := Lib.hid hf
  clear hf
  obtain ⟨y, hy⟩ : ∃ y, y = (w.alloc (.cells #[.slice ao n ac] 26)).alloc (.cells #[.slice none 0 0] 26) := ⟨_, rfl⟩
  have hsy : Since w y := by rw [hy]; exact ((Since.refl w).alloc _).alloc _
  have BE : Hid (Blk y w.heap.size 26 #[.slice ao n ac]) := by rw [hy]; exact (Blk.new rfl _ _).alloc _
  have BR : Hid (Blk y (w.heap.size + 1) 26 #[.slice none 0 0]) := by rw [hy]; exact Blk.new (by simp) _ _
  have HY := Lib.hid hy
  clear hy
  go_enter Tryd.func20, Tryd.ntmps20
  go_wp2_with fail
  rw [← HY.out]
  refine (implVX_any _ xs _ (HF.out.since hsy) ⟨_, rfl, HA.out.since hsy⟩ hl).mono ?_
  rintro e w1 ⟨rfl, hs1⟩
  have hyw := hsy.trans hs1
  obtain ⟨r0, r1⟩ := (BR.out.since hs1).one
  obtain ⟨p0, p1⟩ := (BE.out.since hs1).one
  cases hv : validXB xs with
  | false =>
    have HP : Hid (exB xs = false) := exB_valid hv
    have HQ := Lib.hid (exB_no HP.out)
    clear hv
    go_wp2
    refine bodyPost_ret (v := .tuple #[.agg #[.slice none 0 0], .bool false]) (by simp [results, Tryd.results20, go_sem, *]) rfl ?_
    rw [HP.out, HQ.out]
    refine xbOut_nil ?_
    first | exact hyw | exact hyw.setCell (by show w.heap.size ≤ w.heap.size + 1; omega) _
  | true =>
    have HV := Lib.hid hv
    obtain ⟨h24, hok, hpost⟩ := validXB_tree hv
    clear hv hpost
    obtain ⟨T, hT⟩ : ∃ T, T = treeT xs := ⟨_, rfl⟩
    rw [← hT] at hok
    have HT := Lib.hid hT
    have HOK := Lib.hid hok
    have HTO : Hid (∀ W, Since w W → Calls Tryd.prog 45 #[.agg #[.slice ao n ac]] W (TreOut W T)) := fun W k => by rw [hT]; exact treeOf_any _ xs W (HF.out.since k) ⟨_, rfl, HA.out.since k⟩ hl
    obtain ⟨Z, hZ⟩ : ∃ Z, Z = szT T := ⟨_, rfl⟩
    have hZ9 : Z ≤ 100000 := by rw [hZ]; exact szT_le T
    have HSZ : Hid (∀ a b V W, TreeAt W T a b V → Calls Tryd.prog 60 #[V] W (IOut W Z)) := fun a b V W k => by rw [hZ]; exact sizeBound_any T a b V W k (.inr HOK.out)
    have HZ := Lib.hid hZ
    clear hT hok hZ
    go_wp2_with fail
    refine (HTO.out _ hyw).mono ?_
    rintro e w2 ⟨v2, rfl, ht2, hs2⟩
    obtain ⟨pt, rfl⟩ := ht2.isPtr
    have HT2 := Lib.hid ht2
    clear ht2
    have hyw2 := hyw.trans hs2
    have BR2 := Lib.hid (BR.out.since (hs1.trans hs2))
    clear p0 p1 r0 r1
    obtain ⟨r0, r1⟩ := BR2.out.one
    go_wp2_with fail
    refine (HSZ.out _ _ _ _ HT2.out).mono ?_
    rintro e w3 ⟨rfl, hs3⟩
    have hyw3 := hyw2.trans hs3
    have BR3 := Lib.hid (BR2.out.since hs3)
    have HT3 := Lib.hid (HT2.out.since hs3)
    clear r0 r1
    obtain ⟨r0, r1⟩ := BR3.out.one
    by_cases h5 : Z ≤ 5000
    · have h5i : ¬ ((5000 : Int) < (Z : Int)) := by omega
      have HEX : Hid (∀ a b V W, TreeAt W T a b V → Calls Tryd.prog 61 #[V] W (TokOut W (exT T).post)) := fun a b V W k => expanded_any T a b V W k (.inr HOK.out) (by rw [← HZ.out]; exact h5)
      have HZ5 : Hid (szT (treeT xs) ≤ 5000) := by unfold Hid; rw [← HT.out, ← HZ.out]; exact h5
      clear h5
      go_wp2_with fail
      clear r0 r1
      refine (HEX.out _ _ _ _ HT3.out).mono ?_
      rintro e w4 ⟨v4, rfl, ho4, hs4⟩
      obtain ⟨ro, N, rc, hN, rfl⟩ := ho4.lenN
      have HO4 : Hid (OwnK w.heap.size w4 (.slice ro N rc) (exT T).post) := ho4.mono hyw3.size
      have hc4 := hyw3.trans hs4
      have BR4 := Lib.hid (BR3.out.since hs4)
      clear ho4 hs4
      obtain ⟨r0, r1⟩ := BR4.out.one
      by_cases h4 : N ≤ 400
      · have h4i : ¬ ((400 : Int) < (N : Int)) := by omega
        have HP : Hid (exB xs = true) := exB_all HV.out HZ5.out (by rw [← HT.out, ← hN.out]; exact h4)
        have HQ : Hid (exX xs = (exT T).post) := by unfold Hid; rw [exB_yes HP.out, HT.out]
        clear h4
        go_wp2_with fail
        refine bodyPost_ret (v := .tuple #[.agg #[.slice ro N rc], .bool true]) (by simp [results, Tryd.results20, go_sem, *]) rfl ?_
        rw [HP.out, HQ.out]
        exact xbOut_box HO4.out hc4 BR4.out (by decide) (by omega) _
      · have h4i : (400 : Int) < (N : Int) := by omega
        have HP : Hid (exB xs = false) := exB_long (by rw [← HT.out, ← hN.out]; exact h4)
        have HQ := Lib.hid (exB_no HP.out)
        clear h4
        go_wp2
        refine bodyPost_ret (v := .tuple #[.agg #[.slice none 0 0], .bool false]) (by simp [results, Tryd.results20, go_sem, *]) rfl ?_
        rw [HP.out, HQ.out]
        refine xbOut_nil ?_
        first | exact hc4 | exact hc4.setCell (by show w.heap.size ≤ w.heap.size + 1; omega) _
    · have h5i : (5000 : Int) < (Z : Int) := by omega
      have HP : Hid (exB xs = false) := exB_size (by rw [← HT.out, ← HZ.out]; exact h5)
      have HQ := Lib.hid (exB_no HP.out)
      clear h5
      go_wp2
      refine bodyPost_ret (v := .tuple #[.agg #[.slice none 0 0], .bool false]) (by simp [results, Tryd.results20, go_sem, *]) rfl ?_
      rw [HP.out, HQ.out]
      refine xbOut_nil ?_
      first | exact hyw3 | exact hyw3.setCell (by show w.heap.size ≤ w.heap.size + 1; omega) _
end Go.Proofs.YtgnjgfifgfbmcaaDoor
