/- DvC, DwC: small words and contracts that the other texts use. -/
import Derived.Test.YtiojgahjfndmdaaDoorL2
import Derived.Test.YtiojgahjfndmdaaDoorL3
import Derived.Test.YtiojgahjfndmdaaDoorK0
import Derived.Test.YtiojgahjfndmdaaDoorL1
import Derived.Test.YtiojgahjfndmdaaDoorOpenI
/- Derivative and DerivativeWord, the model's and the program's. -/
namespace Go.Proofs.YtiojgahjfndmdaaDoor
set_option maxRecDepth 100000
open Go.ChangeShapes Go.WideShapes Go.ChangeAt Go.RowKit
set_option linter.unusedVariables false
set_option linter.unusedSimpArgs false

theorem derX_none {xs : List Tok} (c : Int) (h : treeO xs = none) : derX xs c = ([], false) := by unfold derX; rw [h]
theorem derX_out {xs : List Tok} {T : Tr} (c : Int) (h : treeO xs = some T) (hn : ¬ (xs.length ≤ 400 ∧ inB c 0 8 = true ∧ (derT c T).length ≤ 400)) : derX xs c = ([], false) := by unfold derX; rw [h]; exact if_neg hn
theorem derX_in {xs : List Tok} {T : Tr} (c : Int) (h : treeO xs = some T) (hn : xs.length ≤ 400 ∧ inB c 0 8 = true ∧ (derT c T).length ≤ 400) : derX xs c = (derT c T, true) := by unfold derX; rw [h]; exact if_pos hn
theorem derX_len (xs : List Tok) (c : Int) : (derX xs c).1.length ≤ 400 := by
  cases h : (derX xs c).2 with
  | true => exact (derX_ok h).2
  | false =>
    cases ht : treeO xs with
    | none => rw [derX_none c ht]; simp
    | some T =>
      by_cases hn : xs.length ≤ 400 ∧ inB c 0 8 = true ∧ (derT c T).length ≤ 400
      · rw [derX_in c ht hn] at h; cases h
      · rw [derX_out c ht hn]; simp
theorem derX_no {xs : List Tok} {c : Int} (h : (derX xs c).2 = false) : (derX xs c).1 = [] := by
  cases ht : treeO xs with
  | none => rw [derX_none c ht]
  | some T =>
    by_cases hn : xs.length ≤ 400 ∧ inB c 0 8 = true ∧ (derT c T).length ≤ 400
    · rw [derX_in c ht hn] at h; cases h
    · rw [derX_out c ht hn]
theorem derWL_len : ∀ (w : List Int) (xs : List Tok), xs.length ≤ 400 → (derWL xs w).1.length ≤ 400
  | [], xs, h => h
  | c :: w, xs, h => by
    unfold derWL
    split
    · exact derWL_len w _ (derX_len xs c)
    · simp
theorem derW_len (xs : List Tok) (w : List Int) : (derW xs w).1.length ≤ 400 := by
  unfold derW
  split
  · rename_i h; exact derWL_len w xs h.2
  · simp
theorem isXB_some {xs : List Tok} {T : Tr} (h : treeO xs = some T) : isXB xs = true := by unfold isXB; rw [h]; rfl
theorem isXB_nope {xs : List Tok} (h : treeO xs = none) : isXB xs = false := by unfold isXB; rw [h]; rfl
/-- The tree of an expression that is not too long. -/
theorem derivableTree_any (v : Value) (xs : List Tok) (w : World) (hf : Forms w) (h : ExAt w v xs) (hl : xs.length ≤ 1048577) :
    Calls Tryd.prog 77 #[v] w (TreOut w (if xs.length ≤ 400 then treeT xs else .nil)) := by
  obtain ⟨a, rfl, ha⟩ := h
  have HA := Lib.hid ha
  obtain ⟨ao, ac, rfl⟩ := ha.len
  clear ha
  obtain ⟨n, hn⟩ : ∃ n, n = xs.length := ⟨_, rfl⟩
  rw [← hn] at HA ⊢
  clear hn
  obtain ⟨y, hy⟩ : ∃ y, y = w.alloc (.cells #[.slice ao n ac] 26) := ⟨_, rfl⟩
  have hsy : Since w y := by rw [hy]; exact (Since.refl w).alloc _
  have HF := Lib.hid (hf.since hsy)
  have HY := Lib.hid hy
  clear hf hy
  by_cases h4 : n ≤ 400
  · rw [if_pos h4]
    have h4i : (n : Int) ≤ 400 := by omega
    clear h4
    go_enter Tryd.func77, Tryd.ntmps77
    go_wp2_with fail
    rw [← HY.out]
    refine (treeOf_any _ xs _ HF.out ⟨_, rfl, HA.out.since hsy⟩ hl).mono ?_
    rintro e w1 ⟨v1, rfl, ht, hs1⟩
    have HT := Lib.hid (ht.wider hsy.size (Nat.le_refl _))
    obtain ⟨p, rfl⟩ := ht.isPtr
    clear ht
    go_wp2
    go_ret
    exact ⟨_, rfl, HT.out, hsy.trans hs1⟩
  · rw [if_neg h4]
    have h4i : ¬ ((n : Int) ≤ 400) := by omega
    clear h4
    go_enter Tryd.func77, Tryd.ntmps77
    go_wp2
    go_ret
    exact ⟨_, rfl, rfl, by first | exact hsy | exact (HY.out ▸ hsy)⟩
set_option maxHeartbeats 2000000 in
set_option maxRecDepth 100000 in
theorem specDV_any (v : Value) (xs : List Tok) (c : Int) (w : World) (h : ExC w v xs) (hl : xs.length ≤ 1048577) :
    Calls Tryd.prog 33 #[v, .int .i64 c] w (XBOut w (derX xs c).1 (derX xs c).2) := by
  obtain ⟨ao, ac, rfl, ha, hac⟩ := h.open
  have HA := Lib.hid ha
  have HIN := Lib.hid ha.1
  obtain ⟨n, hn⟩ : ∃ n, n = xs.length := ⟨_, rfl⟩
  rw [← hn] at HA hac ⊢
  have HN := Lib.hid hn
  have hn9 : n ≤ 1048577 := by omega
  clear hn h ha
  obtain ⟨y, hy⟩ : ∃ y, y = (w.alloc (.cells #[.slice ao n ac] 26)).alloc (.cells #[.slice none 0 0] 26) := ⟨_, rfl⟩
  have hsy : Since w y := by rw [hy]; exact ((Since.refl w).alloc _).alloc _
  have BE : Hid (Blk y w.heap.size 26 #[.slice ao n ac]) := by rw [hy]; exact (Blk.new rfl _ _).alloc _
  have BR : Hid (Blk y (w.heap.size + 1) 26 #[.slice none 0 0]) := by rw [hy]; exact Blk.new (by simp) _ _
  have HY := Lib.hid hy

  clear hy
  go_enter Tryd.func33, Tryd.ntmps33
  go_wp2_with fail
  rw [← HY.out]
  refine (specIX_any _ xs _ ⟨_, rfl, HA.out.since hsy⟩ hl).mono ?_
  rintro e w1 ⟨rfl, hs1⟩
  have hyw := hsy.trans hs1
  obtain ⟨r0, r1⟩ := (BR.out.since hs1).one
  obtain ⟨p0, p1⟩ := (BE.out.since hs1).one
  cases ho : treeO xs with
  | none =>
    rw [isXB_nope ho]
    have HP := Lib.hid (derX_none c ho)
    clear ho
    go_wp2
    refine bodyPost_ret (v := .tuple #[.agg #[.slice none 0 0], .bool false]) (by simp [results, Tryd.results33, go_sem, *]) rfl ?_
    rw [HP.out]
    refine xbOut_nil ?_
    first | exact hyw | exact hyw.setCell (by show w.heap.size ≤ w.heap.size + 1; omega) _
  | some T =>
    rw [isXB_some ho]
    have HO0 := Lib.hid ho
    obtain ⟨hok, hpost⟩ := treeO_some ho
    clear ho
    by_cases h4 : n ≤ 400
    · have h4i : (n : Int) ≤ 400 := by omega
      obtain ⟨zb, hzb⟩ : ∃ zb, zb = inB c 0 8 := ⟨_, rfl⟩
      have HL := Lib.hid (fun W => hzb ▸ l2Letter_any c W)
      have HB := Lib.hid hzb.symm
      clear hzb
      go_wp2_with fail
      refine (HL.out _).mono ?_
      rintro e w2 ⟨rfl, rfl⟩
      cases zb with
      | false =>
        have HP : Hid (derX xs c = ([], false)) := derX_out c HO0.out (fun h => by have := HB.out; rw [h.2.1] at this; cases this)
        clear h4 hok hpost
        go_wp2
        refine bodyPost_ret (v := .tuple #[.agg #[.slice none 0 0], .bool false]) (by simp [results, Tryd.results33, go_sem, *]) rfl ?_
        rw [HP.out]
        refine xbOut_nil ?_
        first | exact hyw | exact hyw.setCell (by show w.heap.size ≤ w.heap.size + 1; omega) _
      | true =>
        have HAT : Hid (ToksAt w1 (.slice ao n ac) T.post) := by unfold Hid; rw [← hpost]; exact HA.out.since hyw
        have HIN2 : Hid (∀ x ∈ T.post, x.In) := by unfold Hid; rw [← hpost]; exact HIN.out
        have hlen : Hid (n = T.len) := by unfold Hid; rw [HN.out, hpost, post_len]
        have HOK := Lib.hid hok
        have BR2 := Lib.hid (BR.out.since hs1)
        clear hpost hok
        go_wp2_with fail
        clear p0 p1 r0 r1
        refine (l9Deriv_any c T ao n ac _ HOK.out HAT.out hac hlen.out h4 HIN2.out).mono ?_
        rintro e w3 ⟨v3, rfl, ⟨b3, rfl, ho3, _⟩, hs3⟩
        obtain ⟨ro, N, rc, hN, rfl⟩ := ho3.lenN
        have HO3 : Hid (OwnK w.heap.size w3 (.slice ro N rc) (derT c T)) := ho3.mono hyw.size
        have hc3 := hyw.trans hs3
        have BR3 := Lib.hid (BR2.out.since hs3)
        clear ho3 hs3
        obtain ⟨r0, r1⟩ := (BR3.out.since ((Since.refl w3).alloc (.cells #[.slice ro N rc] 26))).one
        have HO4 := Lib.hid (HO3.out.since ((Since.refl w3).alloc (.cells #[.slice ro N rc] 26)))
        have BR4 := Lib.hid (BR3.out.since ((Since.refl w3).alloc (.cells #[.slice ro N rc] 26)))
        have hc4 : Since w (w3.alloc (.cells #[.slice ro N rc] 26)) := hc3.alloc _
        by_cases h9 : N ≤ 400
        · have HP : Hid (derX xs c = (derT c T, true)) := derX_in c HO0.out ⟨by have := HN.out; omega, HB.out, by have := hN.out; omega⟩
          have h9i : (N : Int) ≤ 400 := by omega
          clear h9
          go_wp2_with fail
          refine bodyPost_ret (v := .tuple #[.agg #[.slice ro N rc], .bool true]) (by simp [results, Tryd.results33, go_sem, *]) rfl ?_
          rw [HP.out]
          exact xbOut_box HO4.out hc4 BR4.out (by decide) (by omega) _
        · have HP : Hid (derX xs c = ([], false)) := derX_out c HO0.out (fun h => by have := hN.out; omega)
          have h9i : ¬ ((N : Int) ≤ 400) := by omega
          clear h9
          go_wp2
          refine bodyPost_ret (v := .tuple #[.agg #[.slice none 0 0], .bool false]) (by simp [results, Tryd.results33, go_sem, *]) rfl ?_
          rw [HP.out]
          refine xbOut_nil ?_
          first | exact hc4 | exact hc4.setCell (by show w.heap.size ≤ w.heap.size + 1; omega) _
    · have h4i : ¬ ((n : Int) ≤ 400) := by omega
      have HP : Hid (derX xs c = ([], false)) := derX_out c HO0.out (fun h => by have := HN.out; omega)
      clear h4 hok hpost
      go_wp2
      refine bodyPost_ret (v := .tuple #[.agg #[.slice none 0 0], .bool false]) (by simp [results, Tryd.results33, go_sem, *]) rfl ?_
      rw [HP.out]
      refine xbOut_nil ?_
      first | exact hyw | exact hyw.setCell (by show w.heap.size ≤ w.heap.size + 1; omega) _
set_option maxHeartbeats 2000000 in
set_option maxRecDepth 100000 in
theorem implDV_any (v : Value) (xs : List Tok) (c : Int) (w : World) (hf : Forms w) (h : ExC w v xs) (hl : xs.length ≤ 1048577) :
    Calls Tryd.prog 32 #[v, .int .i64 c] w (XBOut w (derX xs c).1 (derX xs c).2) := by
  obtain ⟨ao, ac, rfl, ha, hac⟩ := h.open
  have HA := Lib.hid ha
  have HIN := Lib.hid ha.1
  obtain ⟨n, hn⟩ : ∃ n, n = xs.length := ⟨_, rfl⟩
  rw [← hn] at HA hac ⊢
  have HN := Lib.hid hn
  have hn9 : n ≤ 1048577 := by omega
  clear hn h ha
  obtain ⟨y, hy⟩ : ∃ y, y = (w.alloc (.cells #[.slice ao n ac] 26)).alloc (.cells #[.slice none 0 0] 26) := ⟨_, rfl⟩
  have hsy : Since w y := by rw [hy]; exact ((Since.refl w).alloc _).alloc _
  have BE : Hid (Blk y w.heap.size 26 #[.slice ao n ac]) := by rw [hy]; exact (Blk.new rfl _ _).alloc _
  have BR : Hid (Blk y (w.heap.size + 1) 26 #[.slice none 0 0]) := by rw [hy]; exact Blk.new (by simp) _ _
  have HY := Lib.hid hy
  have HF := Lib.hid (hf.since hsy)
  clear hy hf
  go_enter Tryd.func32, Tryd.ntmps32
  go_wp2_with fail
  rw [← HY.out]
  refine (derivableTree_any _ xs _ HF.out ⟨_, rfl, HA.out.since hsy⟩ hl).mono ?_
  rintro e w1 ⟨v1, rfl, ht, hs1⟩
  have hyw := hsy.trans hs1
  rw [← HN.out] at ht
  obtain ⟨r0, r1⟩ := (BR.out.since hs1).one
  cases ho : treeO xs with
  | none =>
    have HP := Lib.hid (derX_none c ho)
    have ht0 : treeT xs = .nil := by unfold treeT; rw [ho]; rfl
    rw [ht0, ite_self] at ht
    obtain rfl : v1 = .pointer none := ht
    clear ho ht0
    go_wp2
    refine bodyPost_ret (v := .tuple #[.agg #[.slice none 0 0], .bool false]) (by simp [results, Tryd.results32, go_sem, *]) rfl ?_
    rw [HP.out]
    refine xbOut_nil ?_
    first | exact hyw | exact hyw.setCell (by show w.heap.size ≤ w.heap.size + 1; omega) _
  | some T =>
    have HO0 := Lib.hid ho
    obtain ⟨hok, hpost⟩ := treeO_some ho
    rw [treeT_some ho] at ht
    clear ho
    by_cases h4 : n ≤ 400
    · rw [if_pos h4] at ht
      have HT := Lib.hid ht
      obtain ⟨g, rfl⟩ : ∃ g, v1 = .pointer (some ⟨g, 0, none⟩) := by
        cases T with
        | nil => exact hok.elim
        | node t l r => obtain ⟨_, g, _, _, _, _, _, _, e, _⟩ := ht; exact ⟨g, e⟩
      have hTl : T.len ≤ 400 := by rw [← post_len, ← hpost, ← HN.out]; exact h4
      have HOK := Lib.hid hok
      clear ht hpost hok
      obtain ⟨zb, hzb⟩ : ∃ zb, zb = inB c 0 8 := ⟨_, rfl⟩
      have HL := Lib.hid (fun W => hzb ▸ isLetter_any c W)
      have HB := Lib.hid hzb.symm
      clear hzb
      go_wp2_with fail
      refine (HL.out _).mono ?_
      rintro e w2 ⟨rfl, rfl⟩
      cases zb with
      | false =>
        have HP : Hid (derX xs c = ([], false)) := derX_out c HO0.out (fun h => by have := HB.out; rw [h.2.1] at this; cases this)
        clear h4
        go_wp2
        refine bodyPost_ret (v := .tuple #[.agg #[.slice none 0 0], .bool false]) (by simp [results, Tryd.results32, go_sem, *]) rfl ?_
        rw [HP.out]
        refine xbOut_nil ?_
        first | exact hyw | exact hyw.setCell (by show w.heap.size ≤ w.heap.size + 1; omega) _
      | true =>
        have BR2 := Lib.hid (BR.out.since hs1)
        go_wp2_with fail
        clear r0 r1
        refine (derivative_any c T _ _ _ _ HT.out HOK.out hTl).mono ?_
        rintro e w3 ⟨v3, rfl, ⟨b3, rfl, ho3, _⟩, hs3⟩
        obtain ⟨ro, N, rc, hN, rfl⟩ := ho3.lenN
        have HO3 : Hid (OwnK w.heap.size w3 (.slice ro N rc) (derT c T)) := ho3.mono hyw.size
        have hc3 := hyw.trans hs3
        have BR3 := Lib.hid (BR2.out.since hs3)
        clear ho3 hs3
        obtain ⟨r0, r1⟩ := (BR3.out.since ((Since.refl w3).alloc (.cells #[.slice ro N rc] 26))).one
        have HO4 := Lib.hid (HO3.out.since ((Since.refl w3).alloc (.cells #[.slice ro N rc] 26)))
        have BR4 := Lib.hid (BR3.out.since ((Since.refl w3).alloc (.cells #[.slice ro N rc] 26)))
        have hc4 : Since w (w3.alloc (.cells #[.slice ro N rc] 26)) := hc3.alloc _
        by_cases h9 : N ≤ 400
        · have HP : Hid (derX xs c = (derT c T, true)) := derX_in c HO0.out ⟨by have := HN.out; omega, HB.out, by have := hN.out; omega⟩
          have h9i : (N : Int) ≤ 400 := by omega
          clear h9
          go_wp2_with fail
          refine bodyPost_ret (v := .tuple #[.agg #[.slice ro N rc], .bool true]) (by simp [results, Tryd.results32, go_sem, *]) rfl ?_
          rw [HP.out]
          exact xbOut_box HO4.out hc4 BR4.out (by decide) (by omega) _
        · have HP : Hid (derX xs c = ([], false)) := derX_out c HO0.out (fun h => by have := hN.out; omega)
          have h9i : ¬ ((N : Int) ≤ 400) := by omega
          clear h9
          go_wp2
          refine bodyPost_ret (v := .tuple #[.agg #[.slice none 0 0], .bool false]) (by simp [results, Tryd.results32, go_sem, *]) rfl ?_
          rw [HP.out]
          refine xbOut_nil ?_
          first | exact hc4 | exact hc4.setCell (by show w.heap.size ≤ w.heap.size + 1; omega) _
    · rw [if_neg h4] at ht
      obtain rfl : v1 = .pointer none := ht
      have HP : Hid (derX xs c = ([], false)) := derX_out c HO0.out (fun h => by have := HN.out; omega)
      clear h4 hok hpost
      go_wp2
      refine bodyPost_ret (v := .tuple #[.agg #[.slice none 0 0], .bool false]) (by simp [results, Tryd.results32, go_sem, *]) rfl ?_
      rw [HP.out]
      refine xbOut_nil ?_
      first | exact hyw | exact hyw.setCell (by show w.heap.size ≤ w.heap.size + 1; omega) _
end Go.Proofs.YtiojgahjfndmdaaDoor

/- DerivativeWord, the model's and the program's. -/
namespace Go.Proofs.YtiojgahjfndmdaaDoor
set_option maxRecDepth 100000
open Go.ChangeShapes Go.WideShapes Go.ChangeAt Go.RowKit
set_option linter.unusedVariables false
set_option linter.unusedSimpArgs false

theorem derWL_step {cur : List Tok} {W : List Int} {k : Nat} (hk : k < W.length) : derWL cur (W.drop k) = if (derX cur W[k]).2 = true then derWL (derX cur W[k]).1 (W.drop (k + 1)) else ([], false) := by
  rw [List.drop_eq_getElem_cons hk]; rfl
theorem derW_no {xs : List Tok} {W : List Int} (h : ¬ (isXB xs = true ∧ xs.length ≤ 400)) : derW xs W = ([], false) := by unfold derW; exact if_neg h
theorem derW_yes {xs : List Tok} {W : List Int} (h : isXB xs = true ∧ xs.length ≤ 400) : derW xs W = derWL xs W := by unfold derW; exact if_pos h
set_option maxHeartbeats 8000000 in
set_option maxRecDepth 100000 in
theorem specDW_any (v u : Value) (xs : List Tok) (W : List Int) (w : World) (h : ExC w v xs) (hl : xs.length ≤ 1048577) (hW : IntsAt w u W) (hl2 : W.length ≤ 1048577) :
    Calls Tryd.prog 30 #[v, u] w (XBOut w (derW xs W).1 (derW xs W).2) := by
  obtain ⟨ao, ac, rfl, ha, hac⟩ := h.open
  have HA := Lib.hid ha
  obtain ⟨n, hn⟩ : ∃ n, n = xs.length := ⟨_, rfl⟩
  rw [← hn] at HA hac ⊢
  have HN := Lib.hid hn
  have hn9 : n ≤ 1048577 := by omega
  obtain ⟨wo, wc, rfl, HWC⟩ := hW.row
  obtain ⟨m, hm⟩ : ∃ m, m = W.length := ⟨_, rfl⟩
  rw [← hm] at hl2 ⊢
  have HM := Lib.hid hm
  have hWin := hW.1
  have HWI : Hid (∀ (k : Nat) (h : k < W.length), InI W[k]) := fun k hk => hWin _ (List.getElem_mem hk)
  clear hn h ha hm hW hWin
  obtain ⟨y, hy⟩ : ∃ y, y = (w.alloc (.cells #[.slice ao n ac] 26)).alloc (.cells #[.slice none 0 0] 26) := ⟨_, rfl⟩
  have hsy : Since w y := by rw [hy]; exact ((Since.refl w).alloc _).alloc _
  have BE : Hid (Blk y w.heap.size 26 #[.slice ao n ac]) := by rw [hy]; exact (Blk.new rfl _ _).alloc _
  have BR : Hid (Blk y (w.heap.size + 1) 26 #[.slice none 0 0]) := by rw [hy]; exact Blk.new (by simp) _ _
  have HY := Lib.hid hy

  clear hy
  go_enter Tryd.func30, Tryd.ntmps30
  go_wp2_with fail
  rw [← HY.out]
  refine (specIX_any _ xs _ ⟨_, rfl, HA.out.since hsy⟩ hl).mono ?_
  rintro e w1 ⟨rfl, hs1⟩
  have hyw := hsy.trans hs1
  obtain ⟨r0, r1⟩ := (BR.out.since hs1).one
  obtain ⟨p0, p1⟩ := (BE.out.since hs1).one
  cases hb : isXB xs with
  | false =>
    have HP : Hid (derW xs W = ([], false)) := derW_no (fun h => by rw [hb] at h; cases h.1)
    clear hb
    go_wp2
    refine bodyPost_ret (v := .tuple #[.agg #[.slice none 0 0], .bool false]) (by simp [results, Tryd.results30, go_sem, *]) rfl ?_
    rw [HP.out]
    refine xbOut_nil ?_
    first | exact hyw | exact hyw.setCell (by show w.heap.size ≤ w.heap.size + 1; omega) _
  | true =>
    have HB := Lib.hid hb
    clear hb
    by_cases h4 : n ≤ 400
    · have h4i : (n : Int) ≤ 400 := by omega
      go_wp2_with fail
      clear p0 p1 r0 r1
      refine (l8Copy_any _ xs _ (HA.out.since hyw) (by omega)).mono ?_
      rintro e w3 ⟨v3, rfl, ⟨b3, rfl, ho3, _⟩, hs3⟩
      obtain ⟨xo, xn, xc, hxN, rfl⟩ := ho3.lenN
      have HO3 : Hid (OwnK w.heap.size w3 (.slice xo xn xc) xs) := ho3.mono hyw.size
      have hyw3 := hyw.trans hs3
      have BR3 := Lib.hid ((BR.out.since hs1).since hs3)
      clear ho3 hs3
      obtain ⟨X, hX⟩ : ∃ X, X = w3.heap.size := ⟨_, rfl⟩
      have hX2 : w.heap.size + 1 < X := by rw [hX]; exact BR3.out.lt
      obtain ⟨y4, hy4⟩ : ∃ y4, y4 = w3.alloc (.cells #[.slice xo xn xc] 26) := ⟨_, rfl⟩
      have al4 : Since w3 y4 := by rw [hy4]; exact (Since.refl w3).alloc _
      have BX4 : Hid (Blk y4 X 26 #[.slice xo xn xc]) := by rw [hy4, hX]; exact Blk.new rfl _ _
      have BR4 := Lib.hid (BR3.out.since al4)
      have HO4 := Lib.hid (HO3.out.since al4)
      have hyw4 := hyw3.trans al4
      have HY4 := Lib.hid hy4
      have HXX := Lib.hid hX
      clear hy4 hX HO3 BR3 al4
      go_wp2_with fail
      rw [← HY4.out]
      try rw [← HXX.out]
      have HP4 : Hid (derW xs W = derWL xs W ∧ isXB xs = true ∧ xs.length ≤ 400) := ⟨derW_yes ⟨HB.out, by have := HN.out; omega⟩, HB.out, by have := HN.out; omega⟩
      go_loopw [7] (fun i wr => ∃ (k : Nat) (cur : List Tok) (xo : Option Addr) (xn xc : Nat), k ≤ m ∧ i = .int .i64 k ∧ Hid (Blk wr X 26 #[.slice xo xn xc]) ∧ Hid (OwnK w.heap.size wr (.slice xo xn xc) cur) ∧ Hid (derW xs W = derWL cur (W.drop k)) ∧ Hid (isXB cur = true ∧ cur.length ≤ 400) ∧ Hid (Blk wr (w.heap.size + 1) 26 #[.slice none 0 0]) ∧ Hid (Since w wr)) (fun i _ => m - (intOf i).toNat)
      case atStart => exact ⟨0, xs, xo, xn, xc, Nat.zero_le _, rfl, BX4.out, HO4.out, by rw [HP4.out.1]; rfl, HP4.out.2, BR4.out, hyw4⟩
      case round =>
        obtain ⟨k, cur, xo, xn, xc, hk, rfl, HBX, HOX, HDW, HCU, HBR, HW⟩ := hrel
        have hw0 := HW.out
        clear HW
        have hzX := HBX.out.lt
        by_cases hlt : k < m
        · have hx : k < W.length := by have := HM.out; omega
          obtain ⟨wb, woff, rfl, hwb, wc0⟩ := HWC.out k hx
          have hki : (k : Int) < (m : Int) := by omega
          have hk0 : (0 : Int) ≤ (k : Int) := by omega
          have HST := Lib.hid (derWL_step (cur := cur) hx)
          obtain ⟨c, hc⟩ : ∃ c, c = W[k] := ⟨_, rfl⟩
          rw [← hc] at wc0 HST
          have hci : InI c := by rw [hc]; exact HWI.out k hx
          have hcur : cur.length ≤ 1048577 := by have := HCU.out.2; omega
          have HDE : Hid ((derX cur c).2 = true → isXB (derX cur c).1 = true ∧ (derX cur c).1.length ≤ 400) := fun h => derX_ok h
          have HDN : Hid ((derX cur c).2 = false → (derX cur c).1 = []) := fun h => derX_no h
          have WC := Lib.hid wc0
          clear hc wc0
          have HDV : Hid (∀ V U, Since w U → ExC U V cur → Calls Tryd.prog 33 #[V, .int .i64 c] U (XBOut U (derX cur c).1 (derX cur c).2)) := fun V U _ h => specDV_any V cur c U h hcur
          obtain ⟨D, hD⟩ : ∃ D, D = (derX cur c).1 := ⟨_, rfl⟩
          obtain ⟨bb, hbb⟩ : ∃ bb, bb = (derX cur c).2 := ⟨_, rfl⟩
          rw [← hD, ← hbb] at HDV HDE HST
          rw [← hD, ← hbb] at HDN
          clear hD hbb
          cases bb with
          | false =>
            go_upto_region 7 with fail
            have HKC : Hid (∀ w', Blk w' X 26 #[.slice xo xn xc] → Since w w' → w'.cell? ⟨X, 0, none⟩ = some (.slice xo xn xc) ∧ w'.cell? ⟨wb, woff + k, none⟩ = some (.int .i64 c)) := by
              intro w' hb0 hs
              obtain ⟨r00, _⟩ := hb0.one
              exact ⟨r00, (since_cells hs hwb _).trans WC.out⟩
            refine wp_region_held_drew (S := (fun w' => w'.cell? ⟨X, 0, none⟩ = some (.slice xo xn xc) ∧ w'.cell? ⟨wb, woff + k, none⟩ = some (.int .i64 c))) (by kernel_rfl) (HKC.out _ (HBX.out.drew) (Since.drew hw0)) (fun hHeld => ?_)
            refine take_yes 0 (some 30) (v := ?_) rfl (by kernel_rfl) (by kernel_rfl) (by kernel_rfl) (by kernel_rfl) (fun _ _ _ h => h) (by rfl) (by assumption) ?_ ?_
            rotate_left
            · (intro w' hSw; (try dsimp only at hSw); go_simp; try with_reducible rfl)
            try simp only [Act.put, List.setIfInBounds_toArray, List.set_cons_zero, List.set_cons_succ]
            refine take_yes 1 (some 31) (v := ?_) rfl (by kernel_rfl) (by kernel_rfl) (by kernel_rfl) (by kernel_rfl) (fun _ _ _ h => h) (by rfl) (by assumption) ?_ ?_
            rotate_left
            · (intro w' hSw; (try dsimp only at hSw); go_simp; try with_reducible rfl)
            try simp only [Act.put, List.setIfInBounds_toArray, List.set_cons_zero, List.set_cons_succ]
            refine take_yes 2 (some 32) (v := ?_) rfl (by kernel_rfl) (by kernel_rfl) (by kernel_rfl) (by kernel_rfl) (fun _ _ _ h => h) (by rfl) (by assumption) ?_ ?_
            rotate_left
            · (intro w' hSw; (try dsimp only at hSw); go_simp; try with_reducible rfl)
            try simp only [Act.put, List.setIfInBounds_toArray, List.set_cons_zero, List.set_cons_succ]
            refine take_yes 3 (some 33) (v := ?_) rfl (by kernel_rfl) (by kernel_rfl) (by kernel_rfl) (by kernel_rfl) (fun _ _ _ h => h) (by rfl) (by assumption) ?_ ?_
            rotate_left
            · (intro w' hSw; (try dsimp only at hSw); go_simp; try with_reducible rfl)
            try simp only [Act.put, List.setIfInBounds_toArray, List.set_cons_zero, List.set_cons_succ]
            refine take_yes 4 (some 34) (v := ?_) rfl (by kernel_rfl) (by kernel_rfl) (by kernel_rfl) (by kernel_rfl) (fun _ _ _ h => h) (by rfl) (by assumption) ?_ ?_
            rotate_left
            · (intro w' hSw; (try dsimp only at hSw); go_simp; try with_reducible rfl)
            try simp only [Act.put, List.setIfInBounds_toArray, List.set_cons_zero, List.set_cons_succ]
            refine take_two 5 9 rfl rfl (by kernel_rfl) (by rfl) (by rfl) (fun K hK => ?_) (fun K hK => ?_)
            · skip
              have dr_6 : Since wr wr.drew := (Since.refl _).drew
              have c_7 := Since.trans hw0 dr_6
              have M_8 := Lib.hid (HBX.out.since dr_6)
              clear HBX
              have M_9 := Lib.hid (HBR.out.since dr_6)
              clear HBR
              have M_10 := Lib.hid (HOX.out.since dr_6)
              clear HOX
              clear dr_6
              go_simp
              refine (HDV.out _ _ c_7 (OwnX.mk M_10.out).atC).mono ?_
              rintro en q_1 ⟨v_2, rfl, ⟨v_2b, rfl, ho_3, _⟩, hs_4⟩
              obtain ⟨d_5o, d_5n, d_5c, d_5N, rfl⟩ := ho_3.lenN
              have O_11 := Lib.hid (ho_3.mono (base' := w.heap.size) c_7.size)
              clear ho_3
              have c_12 := Since.trans c_7 hs_4
              have M_13 := Lib.hid (M_8.out.since hs_4)
              clear M_8
              have M_14 := Lib.hid (M_9.out.since hs_4)
              clear M_9
              have M_15 := Lib.hid (M_10.out.since hs_4)
              clear M_10
              clear hs_4
              refine hK.out _ _ (HKC.out _ M_13.out c_12) (fun hHeld_16 => ?_)
              clear hK K hHeld
              try simp only [Act.put, List.setIfInBounds_toArray, List.set_cons_zero, List.set_cons_succ]
              refine take_yes 6 (some 29) (v := ?_) rfl (by kernel_rfl) (by kernel_rfl) (by kernel_rfl) (by kernel_rfl) (fun _ _ _ h => h) (by rfl) (by assumption) ?_ ?_
              rotate_left
              · (intro w' hSw; (try dsimp only at hSw); go_simp; try with_reducible rfl)
              try simp only [Act.put, List.setIfInBounds_toArray, List.set_cons_zero, List.set_cons_succ]
              refine take_yes 7 (some 36) (v := ?_) rfl (by kernel_rfl) (by kernel_rfl) (by kernel_rfl) (by kernel_rfl) (fun _ _ _ h => h) (by rfl) (by assumption) ?_ ?_
              rotate_left
              · (intro w' hSw; (try dsimp only at hSw); go_simp; try with_reducible rfl)
              try simp only [Act.put, List.setIfInBounds_toArray, List.set_cons_zero, List.set_cons_succ]
              refine take_yes 8 (some 37) (v := ?_) rfl (by kernel_rfl) (by kernel_rfl) (by kernel_rfl) (by kernel_rfl) (fun _ _ _ h => h) (by rfl) (by assumption) ?_ ?_
              rotate_left
              · (intro w' hSw; (try dsimp only at hSw); go_simp; try with_reducible rfl)
              try simp only [Act.put, List.setIfInBounds_toArray, List.set_cons_zero, List.set_cons_succ]
              refine take_run 9 rfl (by kernel_rfl) (by rfl) (fun K hK => ?_)
              go_simp
              have al_18 : Since q_1 (q_1.alloc (.cells #[.slice none 0 0] 26)) := ((Since.refl _).alloc _)
              have B_19 : Hid (Blk (q_1.alloc (.cells #[.slice none 0 0] 26)) q_1.heap.size 26 #[.slice none 0 0]) := (Blk.new rfl _ _ : Blk (q_1.alloc (.cells #[.slice none 0 0] 26)) _ _ _)
              have zA_17 : w.heap.size ≤ q_1.heap.size := c_12.size
              have yA_17_X : X < q_1.heap.size := M_13.out.lt
              have yA_17_R : w.heap.size + 1 < q_1.heap.size := M_14.out.lt
              have c_20 := Since.trans c_12 al_18
              have M_21 := Lib.hid (M_13.out.since al_18)
              clear M_13
              have M_22 := Lib.hid (M_14.out.since al_18)
              clear M_14
              have M_23 := Lib.hid (M_15.out.since al_18)
              clear M_15
              have M_24 := Lib.hid (O_11.out.since al_18)
              clear O_11
              clear al_18
              refine hK.out _ _ (HKC.out _ M_21.out c_20) (fun hHeld_25 => ?_)
              clear hK K hHeld_16
              try simp only [Act.put, List.setIfInBounds_toArray, List.set_cons_zero, List.set_cons_succ]
              obtain ⟨A_17, hA_17⟩ : ∃ A, A = q_1.heap.size := ⟨_, rfl⟩
              rw [← hA_17] at B_19 zA_17 yA_17_X yA_17_R
              try rw [← hA_17]
              clear hA_17
              generalize q_1.alloc (.cells #[.slice none 0 0] 26) = wA_26 at M_21 M_22 B_19 M_23 M_24 c_20 hHeld_25 ⊢
              refine take_run 10 rfl (by kernel_rfl) (by rfl) (fun K hK => ?_)
              obtain ⟨q0, q1⟩ := B_19.out.one
              go_simp
              clear q0 q1
              have c_27 := Since.setCell c_20 (a := ⟨A_17, 0, none⟩) (by show w.heap.size ≤ A_17; omega) (.slice d_5o d_5n d_5c)
              have M_29 := Lib.hid (M_23.out.farT B_19.out (by decide) 0 (.slice d_5o d_5n d_5c))
              clear M_23
              have M_30 := Lib.hid (M_24.out.farT B_19.out (by decide) 0 (.slice d_5o d_5n d_5c))
              clear M_24
              have M_31 := Lib.hid (M_21.out.far (p := ⟨A_17, 0, none⟩) (by show X ≠ A_17; omega) (.slice d_5o d_5n d_5c))
              clear M_21
              have M_32 := Lib.hid (M_22.out.far (p := ⟨A_17, 0, none⟩) (by show w.heap.size + 1 ≠ A_17; omega) (.slice d_5o d_5n d_5c))
              clear M_22
              have B_33 := Lib.hid (B_19.out.set 0 (.slice d_5o d_5n d_5c))
              clear B_19
              refine hK.out _ _ (HKC.out _ M_31.out c_27) (fun hHeld_34 => ?_)
              clear hK K hHeld_25
              try simp only [Act.put, List.setIfInBounds_toArray, List.set_cons_zero, List.set_cons_succ]
              generalize wA_26.setCell ⟨A_17, 0, none⟩ (.slice d_5o d_5n d_5c) = wS_28 at M_31 M_32 B_33 M_29 M_30 c_27 hHeld_34 ⊢
              refine take_yes 11 (some 9) (v := ?_) rfl (by kernel_rfl) (by kernel_rfl) (by kernel_rfl) (by kernel_rfl) (fun _ _ _ h => h) (by rfl) (by assumption) ?_ ?_
              rotate_left
              · (intro w' hSw; (try dsimp only at hSw); go_simp; try with_reducible rfl)
              try simp only [Act.put, List.setIfInBounds_toArray, List.set_cons_zero, List.set_cons_succ]
              refine wpAnyH_done (by kernel_rfl) ?_ _
              clear hHeld_34 HKC
              have HP : Hid (derW xs W = ([], false)) := by unfold Hid; rw [HDW.out, HST.out]; rfl
              obtain ⟨q0, q1⟩ := M_32.out.one
              have hcz := c_27
              go_wp2
              refine bodyPost_ret (v := .tuple #[.agg #[.slice none 0 0], .bool false]) (by simp [results, Tryd.results30, go_sem, *]) rfl ?_
              rw [HP.out]
              refine xbOut_nil ?_
              first | exact hcz | exact hcz.setCell (by show w.heap.size ≤ w.heap.size + 1; omega) _
            · skip
              go_simp
              have al_36 : Since wr ((wr.alloc (.cells #[.slice none 0 0] 26)).drew) := ((Since.refl _).alloc _).drew
              have B_37 : Hid (Blk ((wr.alloc (.cells #[.slice none 0 0] 26)).drew) wr.heap.size 26 #[.slice none 0 0]) := (Blk.new rfl _ _ : Blk (wr.alloc (.cells #[.slice none 0 0] 26)) _ _ _).drew
              have zA_35 : w.heap.size ≤ wr.heap.size := hw0.size
              have yA_35_X : X < wr.heap.size := HBX.out.lt
              have yA_35_R : w.heap.size + 1 < wr.heap.size := HBR.out.lt
              have c_38 := Since.trans hw0 al_36
              have M_39 := Lib.hid (HBX.out.since al_36)
              clear HBX
              have M_40 := Lib.hid (HBR.out.since al_36)
              clear HBR
              have M_41 := Lib.hid (HOX.out.since al_36)
              clear HOX
              clear al_36
              refine hK.out _ _ (HKC.out _ M_39.out c_38) (fun hHeld_42 => ?_)
              clear hK K hHeld
              try simp only [Act.put, List.setIfInBounds_toArray, List.set_cons_zero, List.set_cons_succ]
              obtain ⟨A_35, hA_35⟩ : ∃ A, A = wr.heap.size := ⟨_, rfl⟩
              rw [← hA_35] at B_37 zA_35 yA_35_X yA_35_R
              try rw [← hA_35]
              clear hA_35
              generalize (wr.alloc (.cells #[.slice none 0 0] 26)).drew = wA_43 at M_39 M_40 B_37 M_41 c_38 hHeld_42 ⊢
              refine take_run 5 rfl (by kernel_rfl) (by rfl) (fun K hK => ?_)
              go_simp
              refine (HDV.out _ _ c_38 (OwnX.mk M_41.out).atC).mono ?_
              rintro en q_44 ⟨v_45, rfl, ⟨v_45b, rfl, ho_46, _⟩, hs_47⟩
              obtain ⟨d_48o, d_48n, d_48c, d_48N, rfl⟩ := ho_46.lenN
              have O_49 := Lib.hid (ho_46.mono (base' := w.heap.size) c_38.size)
              clear ho_46
              have c_50 := Since.trans c_38 hs_47
              have M_51 := Lib.hid (M_39.out.since hs_47)
              clear M_39
              have M_52 := Lib.hid (M_40.out.since hs_47)
              clear M_40
              have M_53 := Lib.hid (B_37.out.since hs_47)
              clear B_37
              have M_54 := Lib.hid (M_41.out.since hs_47)
              clear M_41
              clear hs_47
              refine hK.out _ _ (HKC.out _ M_51.out c_50) (fun hHeld_55 => ?_)
              clear hK K hHeld_42
              try simp only [Act.put, List.setIfInBounds_toArray, List.set_cons_zero, List.set_cons_succ]
              refine take_yes 6 (some 29) (v := ?_) rfl (by kernel_rfl) (by kernel_rfl) (by kernel_rfl) (by kernel_rfl) (fun _ _ _ h => h) (by rfl) (by assumption) ?_ ?_
              rotate_left
              · (intro w' hSw; (try dsimp only at hSw); go_simp; try with_reducible rfl)
              try simp only [Act.put, List.setIfInBounds_toArray, List.set_cons_zero, List.set_cons_succ]
              refine take_yes 7 (some 36) (v := ?_) rfl (by kernel_rfl) (by kernel_rfl) (by kernel_rfl) (by kernel_rfl) (fun _ _ _ h => h) (by rfl) (by assumption) ?_ ?_
              rotate_left
              · (intro w' hSw; (try dsimp only at hSw); go_simp; try with_reducible rfl)
              try simp only [Act.put, List.setIfInBounds_toArray, List.set_cons_zero, List.set_cons_succ]
              refine take_yes 8 (some 37) (v := ?_) rfl (by kernel_rfl) (by kernel_rfl) (by kernel_rfl) (by kernel_rfl) (fun _ _ _ h => h) (by rfl) (by assumption) ?_ ?_
              rotate_left
              · (intro w' hSw; (try dsimp only at hSw); go_simp; try with_reducible rfl)
              try simp only [Act.put, List.setIfInBounds_toArray, List.set_cons_zero, List.set_cons_succ]
              refine take_run 10 rfl (by kernel_rfl) (by rfl) (fun K hK => ?_)
              obtain ⟨q0, q1⟩ := M_53.out.one
              go_simp
              clear q0 q1
              have c_56 := Since.setCell c_50 (a := ⟨A_35, 0, none⟩) (by show w.heap.size ≤ A_35; omega) (.slice d_48o d_48n d_48c)
              have M_58 := Lib.hid (M_54.out.farT M_53.out (by decide) 0 (.slice d_48o d_48n d_48c))
              clear M_54
              have M_59 := Lib.hid (O_49.out.farT M_53.out (by decide) 0 (.slice d_48o d_48n d_48c))
              clear O_49
              have M_60 := Lib.hid (M_51.out.far (p := ⟨A_35, 0, none⟩) (by show X ≠ A_35; omega) (.slice d_48o d_48n d_48c))
              clear M_51
              have M_61 := Lib.hid (M_52.out.far (p := ⟨A_35, 0, none⟩) (by show w.heap.size + 1 ≠ A_35; omega) (.slice d_48o d_48n d_48c))
              clear M_52
              have B_62 := Lib.hid (M_53.out.set 0 (.slice d_48o d_48n d_48c))
              clear M_53
              refine hK.out _ _ (HKC.out _ M_60.out c_56) (fun hHeld_63 => ?_)
              clear hK K hHeld_55
              try simp only [Act.put, List.setIfInBounds_toArray, List.set_cons_zero, List.set_cons_succ]
              generalize q_44.setCell ⟨A_35, 0, none⟩ (.slice d_48o d_48n d_48c) = wS_57 at M_60 M_61 B_62 M_58 M_59 c_56 hHeld_63 ⊢
              refine take_yes 11 (some 9) (v := ?_) rfl (by kernel_rfl) (by kernel_rfl) (by kernel_rfl) (by kernel_rfl) (fun _ _ _ h => h) (by rfl) (by assumption) ?_ ?_
              rotate_left
              · (intro w' hSw; (try dsimp only at hSw); go_simp; try with_reducible rfl)
              try simp only [Act.put, List.setIfInBounds_toArray, List.set_cons_zero, List.set_cons_succ]
              refine wpAnyH_done (by kernel_rfl) ?_ _
              clear hHeld_63 HKC
              have HP : Hid (derW xs W = ([], false)) := by unfold Hid; rw [HDW.out, HST.out]; rfl
              obtain ⟨q0, q1⟩ := M_61.out.one
              have hcz := c_56
              go_wp2
              refine bodyPost_ret (v := .tuple #[.agg #[.slice none 0 0], .bool false]) (by simp [results, Tryd.results30, go_sem, *]) rfl ?_
              rw [HP.out]
              refine xbOut_nil ?_
              first | exact hcz | exact hcz.setCell (by show w.heap.size ≤ w.heap.size + 1; omega) _
          | true =>
            go_upto_region 7 with fail
            have HKC : Hid (∀ w', Blk w' X 26 #[.slice xo xn xc] → Since w w' → w'.cell? ⟨X, 0, none⟩ = some (.slice xo xn xc) ∧ w'.cell? ⟨wb, woff + k, none⟩ = some (.int .i64 c)) := by
              intro w' hb0 hs
              obtain ⟨r00, _⟩ := hb0.one
              exact ⟨r00, (since_cells hs hwb _).trans WC.out⟩
            refine wp_region_held_drew (S := (fun w' => w'.cell? ⟨X, 0, none⟩ = some (.slice xo xn xc) ∧ w'.cell? ⟨wb, woff + k, none⟩ = some (.int .i64 c))) (by kernel_rfl) (HKC.out _ (HBX.out.drew) (Since.drew hw0)) (fun hHeld => ?_)
            refine take_yes 0 (some 30) (v := ?_) rfl (by kernel_rfl) (by kernel_rfl) (by kernel_rfl) (by kernel_rfl) (fun _ _ _ h => h) (by rfl) (by assumption) ?_ ?_
            rotate_left
            · (intro w' hSw; (try dsimp only at hSw); go_simp; try with_reducible rfl)
            try simp only [Act.put, List.setIfInBounds_toArray, List.set_cons_zero, List.set_cons_succ]
            refine take_yes 1 (some 31) (v := ?_) rfl (by kernel_rfl) (by kernel_rfl) (by kernel_rfl) (by kernel_rfl) (fun _ _ _ h => h) (by rfl) (by assumption) ?_ ?_
            rotate_left
            · (intro w' hSw; (try dsimp only at hSw); go_simp; try with_reducible rfl)
            try simp only [Act.put, List.setIfInBounds_toArray, List.set_cons_zero, List.set_cons_succ]
            refine take_yes 2 (some 32) (v := ?_) rfl (by kernel_rfl) (by kernel_rfl) (by kernel_rfl) (by kernel_rfl) (fun _ _ _ h => h) (by rfl) (by assumption) ?_ ?_
            rotate_left
            · (intro w' hSw; (try dsimp only at hSw); go_simp; try with_reducible rfl)
            try simp only [Act.put, List.setIfInBounds_toArray, List.set_cons_zero, List.set_cons_succ]
            refine take_yes 3 (some 33) (v := ?_) rfl (by kernel_rfl) (by kernel_rfl) (by kernel_rfl) (by kernel_rfl) (fun _ _ _ h => h) (by rfl) (by assumption) ?_ ?_
            rotate_left
            · (intro w' hSw; (try dsimp only at hSw); go_simp; try with_reducible rfl)
            try simp only [Act.put, List.setIfInBounds_toArray, List.set_cons_zero, List.set_cons_succ]
            refine take_yes 4 (some 34) (v := ?_) rfl (by kernel_rfl) (by kernel_rfl) (by kernel_rfl) (by kernel_rfl) (fun _ _ _ h => h) (by rfl) (by assumption) ?_ ?_
            rotate_left
            · (intro w' hSw; (try dsimp only at hSw); go_simp; try with_reducible rfl)
            try simp only [Act.put, List.setIfInBounds_toArray, List.set_cons_zero, List.set_cons_succ]
            refine take_two 5 9 rfl rfl (by kernel_rfl) (by rfl) (by rfl) (fun K hK => ?_) (fun K hK => ?_)
            · skip
              have dr_69 : Since wr wr.drew := (Since.refl _).drew
              have c_70 := Since.trans hw0 dr_69
              have M_71 := Lib.hid (HBX.out.since dr_69)
              clear HBX
              have M_72 := Lib.hid (HBR.out.since dr_69)
              clear HBR
              have M_73 := Lib.hid (HOX.out.since dr_69)
              clear HOX
              clear dr_69
              go_simp
              refine (HDV.out _ _ c_70 (OwnX.mk M_73.out).atC).mono ?_
              rintro en q_64 ⟨v_65, rfl, ⟨v_65b, rfl, ho_66, _⟩, hs_67⟩
              obtain ⟨d_68o, d_68n, d_68c, d_68N, rfl⟩ := ho_66.lenN
              have O_74 := Lib.hid (ho_66.mono (base' := w.heap.size) c_70.size)
              clear ho_66
              have c_75 := Since.trans c_70 hs_67
              have M_76 := Lib.hid (M_71.out.since hs_67)
              clear M_71
              have M_77 := Lib.hid (M_72.out.since hs_67)
              clear M_72
              have M_78 := Lib.hid (M_73.out.since hs_67)
              clear M_73
              clear hs_67
              refine hK.out _ _ (HKC.out _ M_76.out c_75) (fun hHeld_79 => ?_)
              clear hK K hHeld
              try simp only [Act.put, List.setIfInBounds_toArray, List.set_cons_zero, List.set_cons_succ]
              refine take_yes 6 (some 29) (v := ?_) rfl (by kernel_rfl) (by kernel_rfl) (by kernel_rfl) (by kernel_rfl) (fun _ _ _ h => h) (by rfl) (by assumption) ?_ ?_
              rotate_left
              · (intro w' hSw; (try dsimp only at hSw); go_simp; try with_reducible rfl)
              try simp only [Act.put, List.setIfInBounds_toArray, List.set_cons_zero, List.set_cons_succ]
              refine take_yes 7 (some 36) (v := ?_) rfl (by kernel_rfl) (by kernel_rfl) (by kernel_rfl) (by kernel_rfl) (fun _ _ _ h => h) (by rfl) (by assumption) ?_ ?_
              rotate_left
              · (intro w' hSw; (try dsimp only at hSw); go_simp; try with_reducible rfl)
              try simp only [Act.put, List.setIfInBounds_toArray, List.set_cons_zero, List.set_cons_succ]
              refine take_yes 8 (some 37) (v := ?_) rfl (by kernel_rfl) (by kernel_rfl) (by kernel_rfl) (by kernel_rfl) (fun _ _ _ h => h) (by rfl) (by assumption) ?_ ?_
              rotate_left
              · (intro w' hSw; (try dsimp only at hSw); go_simp; try with_reducible rfl)
              try simp only [Act.put, List.setIfInBounds_toArray, List.set_cons_zero, List.set_cons_succ]
              refine take_run 9 rfl (by kernel_rfl) (by rfl) (fun K hK => ?_)
              go_simp
              have al_81 : Since q_64 (q_64.alloc (.cells #[.slice none 0 0] 26)) := ((Since.refl _).alloc _)
              have B_82 : Hid (Blk (q_64.alloc (.cells #[.slice none 0 0] 26)) q_64.heap.size 26 #[.slice none 0 0]) := (Blk.new rfl _ _ : Blk (q_64.alloc (.cells #[.slice none 0 0] 26)) _ _ _)
              have zA_80 : w.heap.size ≤ q_64.heap.size := c_75.size
              have yA_80_X : X < q_64.heap.size := M_76.out.lt
              have yA_80_R : w.heap.size + 1 < q_64.heap.size := M_77.out.lt
              have c_83 := Since.trans c_75 al_81
              have M_84 := Lib.hid (M_76.out.since al_81)
              clear M_76
              have M_85 := Lib.hid (M_77.out.since al_81)
              clear M_77
              have M_86 := Lib.hid (M_78.out.since al_81)
              clear M_78
              have M_87 := Lib.hid (O_74.out.since al_81)
              clear O_74
              clear al_81
              refine hK.out _ _ (HKC.out _ M_84.out c_83) (fun hHeld_88 => ?_)
              clear hK K hHeld_79
              try simp only [Act.put, List.setIfInBounds_toArray, List.set_cons_zero, List.set_cons_succ]
              obtain ⟨A_80, hA_80⟩ : ∃ A, A = q_64.heap.size := ⟨_, rfl⟩
              rw [← hA_80] at B_82 zA_80 yA_80_X yA_80_R
              try rw [← hA_80]
              clear hA_80
              generalize q_64.alloc (.cells #[.slice none 0 0] 26) = wA_89 at M_84 M_85 B_82 M_86 M_87 c_83 hHeld_88 ⊢
              refine take_run 10 rfl (by kernel_rfl) (by rfl) (fun K hK => ?_)
              obtain ⟨q0, q1⟩ := B_82.out.one
              go_simp
              clear q0 q1
              have c_90 := Since.setCell c_83 (a := ⟨A_80, 0, none⟩) (by show w.heap.size ≤ A_80; omega) (.slice d_68o d_68n d_68c)
              have M_92 := Lib.hid (M_86.out.farT B_82.out (by decide) 0 (.slice d_68o d_68n d_68c))
              clear M_86
              have M_93 := Lib.hid (M_87.out.farT B_82.out (by decide) 0 (.slice d_68o d_68n d_68c))
              clear M_87
              have M_94 := Lib.hid (M_84.out.far (p := ⟨A_80, 0, none⟩) (by show X ≠ A_80; omega) (.slice d_68o d_68n d_68c))
              clear M_84
              have M_95 := Lib.hid (M_85.out.far (p := ⟨A_80, 0, none⟩) (by show w.heap.size + 1 ≠ A_80; omega) (.slice d_68o d_68n d_68c))
              clear M_85
              have B_96 := Lib.hid (B_82.out.set 0 (.slice d_68o d_68n d_68c))
              clear B_82
              refine hK.out _ _ (HKC.out _ M_94.out c_90) (fun hHeld_97 => ?_)
              clear hK K hHeld_88
              try simp only [Act.put, List.setIfInBounds_toArray, List.set_cons_zero, List.set_cons_succ]
              generalize wA_89.setCell ⟨A_80, 0, none⟩ (.slice d_68o d_68n d_68c) = wS_91 at M_94 M_95 B_96 M_92 M_93 c_90 hHeld_97 ⊢
              refine take_yes 11 (some 9) (v := ?_) rfl (by kernel_rfl) (by kernel_rfl) (by kernel_rfl) (by kernel_rfl) (fun _ _ _ h => h) (by rfl) (by assumption) ?_ ?_
              rotate_left
              · (intro w' hSw; (try dsimp only at hSw); go_simp; try with_reducible rfl)
              try simp only [Act.put, List.setIfInBounds_toArray, List.set_cons_zero, List.set_cons_succ]
              refine wpAnyH_done (by kernel_rfl) ?_ _
              clear hHeld_97 HKC
              obtain ⟨q0, q1⟩ := B_96.out.one
              obtain ⟨t0, t1⟩ := M_94.out.one
              go_wp2
              go_roundw
              case rel =>
                refine ⟨k + 1, D, _, _, _, by omega, by go_num, M_94.out.set 0 _, M_93.out.farT M_94.out (by decide) 0 _, ?_, HDE.out (by first | exact rfl | trivial), M_95.out.far (p := ⟨X, 0, none⟩) (by show w.heap.size + 1 ≠ X; omega) _, c_90.setCell (a := ⟨X, 0, none⟩) (by show w.heap.size ≤ X; omega) _⟩
                unfold Hid; rw [HDW.out, HST.out]; rfl
              case measure => simp [intOf]; omega
            · skip
              go_simp
              have al_99 : Since wr ((wr.alloc (.cells #[.slice none 0 0] 26)).drew) := ((Since.refl _).alloc _).drew
              have B_100 : Hid (Blk ((wr.alloc (.cells #[.slice none 0 0] 26)).drew) wr.heap.size 26 #[.slice none 0 0]) := (Blk.new rfl _ _ : Blk (wr.alloc (.cells #[.slice none 0 0] 26)) _ _ _).drew
              have zA_98 : w.heap.size ≤ wr.heap.size := hw0.size
              have yA_98_X : X < wr.heap.size := HBX.out.lt
              have yA_98_R : w.heap.size + 1 < wr.heap.size := HBR.out.lt
              have c_101 := Since.trans hw0 al_99
              have M_102 := Lib.hid (HBX.out.since al_99)
              clear HBX
              have M_103 := Lib.hid (HBR.out.since al_99)
              clear HBR
              have M_104 := Lib.hid (HOX.out.since al_99)
              clear HOX
              clear al_99
              refine hK.out _ _ (HKC.out _ M_102.out c_101) (fun hHeld_105 => ?_)
              clear hK K hHeld
              try simp only [Act.put, List.setIfInBounds_toArray, List.set_cons_zero, List.set_cons_succ]
              obtain ⟨A_98, hA_98⟩ : ∃ A, A = wr.heap.size := ⟨_, rfl⟩
              rw [← hA_98] at B_100 zA_98 yA_98_X yA_98_R
              try rw [← hA_98]
              clear hA_98
              generalize (wr.alloc (.cells #[.slice none 0 0] 26)).drew = wA_106 at M_102 M_103 B_100 M_104 c_101 hHeld_105 ⊢
              refine take_run 5 rfl (by kernel_rfl) (by rfl) (fun K hK => ?_)
              go_simp
              refine (HDV.out _ _ c_101 (OwnX.mk M_104.out).atC).mono ?_
              rintro en q_107 ⟨v_108, rfl, ⟨v_108b, rfl, ho_109, _⟩, hs_110⟩
              obtain ⟨d_111o, d_111n, d_111c, d_111N, rfl⟩ := ho_109.lenN
              have O_112 := Lib.hid (ho_109.mono (base' := w.heap.size) c_101.size)
              clear ho_109
              have c_113 := Since.trans c_101 hs_110
              have M_114 := Lib.hid (M_102.out.since hs_110)
              clear M_102
              have M_115 := Lib.hid (M_103.out.since hs_110)
              clear M_103
              have M_116 := Lib.hid (B_100.out.since hs_110)
              clear B_100
              have M_117 := Lib.hid (M_104.out.since hs_110)
              clear M_104
              clear hs_110
              refine hK.out _ _ (HKC.out _ M_114.out c_113) (fun hHeld_118 => ?_)
              clear hK K hHeld_105
              try simp only [Act.put, List.setIfInBounds_toArray, List.set_cons_zero, List.set_cons_succ]
              refine take_yes 6 (some 29) (v := ?_) rfl (by kernel_rfl) (by kernel_rfl) (by kernel_rfl) (by kernel_rfl) (fun _ _ _ h => h) (by rfl) (by assumption) ?_ ?_
              rotate_left
              · (intro w' hSw; (try dsimp only at hSw); go_simp; try with_reducible rfl)
              try simp only [Act.put, List.setIfInBounds_toArray, List.set_cons_zero, List.set_cons_succ]
              refine take_yes 7 (some 36) (v := ?_) rfl (by kernel_rfl) (by kernel_rfl) (by kernel_rfl) (by kernel_rfl) (fun _ _ _ h => h) (by rfl) (by assumption) ?_ ?_
              rotate_left
              · (intro w' hSw; (try dsimp only at hSw); go_simp; try with_reducible rfl)
              try simp only [Act.put, List.setIfInBounds_toArray, List.set_cons_zero, List.set_cons_succ]
              refine take_yes 8 (some 37) (v := ?_) rfl (by kernel_rfl) (by kernel_rfl) (by kernel_rfl) (by kernel_rfl) (fun _ _ _ h => h) (by rfl) (by assumption) ?_ ?_
              rotate_left
              · (intro w' hSw; (try dsimp only at hSw); go_simp; try with_reducible rfl)
              try simp only [Act.put, List.setIfInBounds_toArray, List.set_cons_zero, List.set_cons_succ]
              refine take_run 10 rfl (by kernel_rfl) (by rfl) (fun K hK => ?_)
              obtain ⟨q0, q1⟩ := M_116.out.one
              go_simp
              clear q0 q1
              have c_119 := Since.setCell c_113 (a := ⟨A_98, 0, none⟩) (by show w.heap.size ≤ A_98; omega) (.slice d_111o d_111n d_111c)
              have M_121 := Lib.hid (M_117.out.farT M_116.out (by decide) 0 (.slice d_111o d_111n d_111c))
              clear M_117
              have M_122 := Lib.hid (O_112.out.farT M_116.out (by decide) 0 (.slice d_111o d_111n d_111c))
              clear O_112
              have M_123 := Lib.hid (M_114.out.far (p := ⟨A_98, 0, none⟩) (by show X ≠ A_98; omega) (.slice d_111o d_111n d_111c))
              clear M_114
              have M_124 := Lib.hid (M_115.out.far (p := ⟨A_98, 0, none⟩) (by show w.heap.size + 1 ≠ A_98; omega) (.slice d_111o d_111n d_111c))
              clear M_115
              have B_125 := Lib.hid (M_116.out.set 0 (.slice d_111o d_111n d_111c))
              clear M_116
              refine hK.out _ _ (HKC.out _ M_123.out c_119) (fun hHeld_126 => ?_)
              clear hK K hHeld_118
              try simp only [Act.put, List.setIfInBounds_toArray, List.set_cons_zero, List.set_cons_succ]
              generalize q_107.setCell ⟨A_98, 0, none⟩ (.slice d_111o d_111n d_111c) = wS_120 at M_123 M_124 B_125 M_121 M_122 c_119 hHeld_126 ⊢
              refine take_yes 11 (some 9) (v := ?_) rfl (by kernel_rfl) (by kernel_rfl) (by kernel_rfl) (by kernel_rfl) (fun _ _ _ h => h) (by rfl) (by assumption) ?_ ?_
              rotate_left
              · (intro w' hSw; (try dsimp only at hSw); go_simp; try with_reducible rfl)
              try simp only [Act.put, List.setIfInBounds_toArray, List.set_cons_zero, List.set_cons_succ]
              refine wpAnyH_done (by kernel_rfl) ?_ _
              clear hHeld_126 HKC
              obtain ⟨q0, q1⟩ := B_125.out.one
              obtain ⟨t0, t1⟩ := M_123.out.one
              go_wp2
              go_roundw
              case rel =>
                refine ⟨k + 1, D, _, _, _, by omega, by go_num, M_123.out.set 0 _, M_122.out.farT M_123.out (by decide) 0 _, ?_, HDE.out (by first | exact rfl | trivial), M_124.out.far (p := ⟨X, 0, none⟩) (by show w.heap.size + 1 ≠ X; omega) _, c_119.setCell (a := ⟨X, 0, none⟩) (by show w.heap.size ≤ X; omega) _⟩
                unfold Hid; rw [HDW.out, HST.out]; rfl
              case measure => simp [intOf]; omega
        · obtain rfl : k = m := by omega
          have HP : Hid (derW xs W = (cur, true)) := by unfold Hid; rw [HDW.out, List.drop_of_length_le (by have := HM.out; omega)]; rfl
          obtain ⟨p0, p1⟩ := HBX.out.one
          obtain ⟨r0, r1⟩ := HBR.out.one
          go_wp2
          refine bodyPost_ret (v := .tuple #[.agg #[.slice xo xn xc], .bool true]) (by simp [results, Tryd.results30, go_sem, *]) rfl ?_
          rw [HP.out]
          exact xbOut_box HOX.out hw0 HBR.out (by decide) (by omega) _
    · have h4i : ¬ ((n : Int) ≤ 400) := by omega
      have HP : Hid (derW xs W = ([], false)) := derW_no (fun h => by have := HN.out; omega)
      clear h4
      go_wp2
      refine bodyPost_ret (v := .tuple #[.agg #[.slice none 0 0], .bool false]) (by simp [results, Tryd.results30, go_sem, *]) rfl ?_
      rw [HP.out]
      refine xbOut_nil ?_
      first | exact hyw | exact hyw.setCell (by show w.heap.size ≤ w.heap.size + 1; omega) _
set_option maxHeartbeats 8000000 in
set_option maxRecDepth 100000 in
theorem implDW_any (v u : Value) (xs : List Tok) (W : List Int) (w : World) (hf : Forms w) (h : ExC w v xs) (hl : xs.length ≤ 1048577) (hW : IntsAt w u W) (hl2 : W.length ≤ 1048577) :
    Calls Tryd.prog 29 #[v, u] w (XBOut w (derW xs W).1 (derW xs W).2) := by
  obtain ⟨ao, ac, rfl, ha, hac⟩ := h.open
  have HA := Lib.hid ha
  obtain ⟨n, hn⟩ : ∃ n, n = xs.length := ⟨_, rfl⟩
  rw [← hn] at HA hac ⊢
  have HN := Lib.hid hn
  have hn9 : n ≤ 1048577 := by omega
  obtain ⟨wo, wc, rfl, HWC⟩ := hW.row
  obtain ⟨m, hm⟩ : ∃ m, m = W.length := ⟨_, rfl⟩
  rw [← hm] at hl2 ⊢
  have HM := Lib.hid hm
  have hWin := hW.1
  have HWI : Hid (∀ (k : Nat) (h : k < W.length), InI W[k]) := fun k hk => hWin _ (List.getElem_mem hk)
  clear hn h ha hm hW hWin
  obtain ⟨y, hy⟩ : ∃ y, y = (w.alloc (.cells #[.slice ao n ac] 26)).alloc (.cells #[.slice none 0 0] 26) := ⟨_, rfl⟩
  have hsy : Since w y := by rw [hy]; exact ((Since.refl w).alloc _).alloc _
  have BE : Hid (Blk y w.heap.size 26 #[.slice ao n ac]) := by rw [hy]; exact (Blk.new rfl _ _).alloc _
  have BR : Hid (Blk y (w.heap.size + 1) 26 #[.slice none 0 0]) := by rw [hy]; exact Blk.new (by simp) _ _
  have HY := Lib.hid hy
  have HF := Lib.hid (hf.since hsy)
  have HFW := Lib.hid hf
  clear hy hf
  go_enter Tryd.func29, Tryd.ntmps29
  go_wp2_with fail
  rw [← HY.out]
  refine (derivableTree_any _ xs _ HF.out ⟨_, rfl, HA.out.since hsy⟩ hl).mono ?_
  rintro e w1 ⟨v1, rfl, ht, hs1⟩
  have hyw := hsy.trans hs1
  rw [← HN.out] at ht
  obtain ⟨r0, r1⟩ := (BR.out.since hs1).one
  by_cases hgo : isXB xs = true ∧ n ≤ 400
  · have HB := Lib.hid hgo.1
    have h4 := hgo.2
    rw [if_pos h4] at ht
    obtain ⟨g, rfl⟩ : ∃ g, v1 = .pointer (some ⟨g, 0, none⟩) := by
      rcases tree_ptr ht with ⟨hb, _⟩ | ⟨_, h⟩
      · rw [hgo.1] at hb; cases hb
      · exact h
    clear hgo ht
    obtain ⟨p0, p1⟩ := (BE.out.since hs1).one
    go_wp2_with fail
    clear p0 p1 r0 r1
    refine (copyExpr_any _ xs _ ⟨_, rfl, HA.out.since hyw⟩ hl).mono ?_
    rintro e w3 ⟨v3, rfl, ⟨b3, rfl, ho3, _⟩, hs3⟩
    obtain ⟨xo, xn, xc, hxN, rfl⟩ := ho3.lenN
    have HO3 : Hid (OwnK w.heap.size w3 (.slice xo xn xc) xs) := ho3.mono hyw.size
    have hyw3 := hyw.trans hs3
    have BR3 := Lib.hid ((BR.out.since hs1).since hs3)
    clear ho3 hs3
    obtain ⟨X, hX⟩ : ∃ X, X = w3.heap.size := ⟨_, rfl⟩
    have hX2 : w.heap.size + 1 < X := by rw [hX]; exact BR3.out.lt
    obtain ⟨y4, hy4⟩ : ∃ y4, y4 = w3.alloc (.cells #[.slice xo xn xc] 26) := ⟨_, rfl⟩
    have al4 : Since w3 y4 := by rw [hy4]; exact (Since.refl w3).alloc _
    have BX4 : Hid (Blk y4 X 26 #[.slice xo xn xc]) := by rw [hy4, hX]; exact Blk.new rfl _ _
    have BR4 := Lib.hid (BR3.out.since al4)
    have HO4 := Lib.hid (HO3.out.since al4)
    have hyw4 := hyw3.trans al4
    have HY4 := Lib.hid hy4
    have HXX := Lib.hid hX
    clear hy4 hX HO3 BR3 al4
    go_wp2_with fail
    rw [← HY4.out]
    try rw [← HXX.out]
    have HP4 : Hid (derW xs W = derWL xs W ∧ isXB xs = true ∧ xs.length ≤ 400) := ⟨derW_yes ⟨HB.out, by have := HN.out; omega⟩, HB.out, by have := HN.out; omega⟩
    go_loopw [19] (fun i wr => ∃ (k : Nat) (cur : List Tok) (xo : Option Addr) (xn xc : Nat), k ≤ m ∧ i = .int .i64 k ∧ Hid (Blk wr X 26 #[.slice xo xn xc]) ∧ Hid (OwnK w.heap.size wr (.slice xo xn xc) cur) ∧ Hid (derW xs W = derWL cur (W.drop k)) ∧ Hid (isXB cur = true ∧ cur.length ≤ 400) ∧ Hid (Blk wr (w.heap.size + 1) 26 #[.slice none 0 0]) ∧ Hid (Since w wr)) (fun i _ => m - (intOf i).toNat)
    case atStart => exact ⟨0, xs, xo, xn, xc, Nat.zero_le _, rfl, BX4.out, HO4.out, by rw [HP4.out.1]; rfl, HP4.out.2, BR4.out, hyw4⟩
    case round =>
      obtain ⟨k, cur, xo, xn, xc, hk, rfl, HBX, HOX, HDW, HCU, HBR, HW⟩ := hrel
      have hw0 := HW.out
      clear HW
      have hzX := HBX.out.lt
      by_cases hlt : k < m
      · have hx : k < W.length := by have := HM.out; omega
        obtain ⟨wb, woff, rfl, hwb, wc0⟩ := HWC.out k hx
        have hki : (k : Int) < (m : Int) := by omega
        have hk0 : (0 : Int) ≤ (k : Int) := by omega
        have HST := Lib.hid (derWL_step (cur := cur) hx)
        obtain ⟨c, hc⟩ : ∃ c, c = W[k] := ⟨_, rfl⟩
        rw [← hc] at wc0 HST
        have hci : InI c := by rw [hc]; exact HWI.out k hx
        have hcur : cur.length ≤ 1048577 := by have := HCU.out.2; omega
        have HDE : Hid ((derX cur c).2 = true → isXB (derX cur c).1 = true ∧ (derX cur c).1.length ≤ 400) := fun h => derX_ok h
        have HDN : Hid ((derX cur c).2 = false → (derX cur c).1 = []) := fun h => derX_no h
        have WC := Lib.hid wc0
        clear hc wc0
        have HDV : Hid (∀ V U, Since w U → ExC U V cur → Calls Tryd.prog 32 #[V, .int .i64 c] U (XBOut U (derX cur c).1 (derX cur c).2)) := fun V U hU h => implDV_any V cur c U (HFW.out.since hU) h hcur
        obtain ⟨D, hD⟩ : ∃ D, D = (derX cur c).1 := ⟨_, rfl⟩
        obtain ⟨bb, hbb⟩ : ∃ bb, bb = (derX cur c).2 := ⟨_, rfl⟩
        rw [← hD, ← hbb] at HDV HDE HST
        rw [← hD, ← hbb] at HDN
        clear hD hbb
        have wc1 := (since_cells hw0 hwb (woff + k)).trans WC.out
        obtain ⟨p0, p1⟩ := HBX.out.one
        go_wp2_with fail
        clear p0 p1 wc1
        refine (HDV.out _ _ hw0 (OwnX.mk HOX.out).atC).mono ?_
        rintro e w5 ⟨v5, rfl, ⟨b5, rfl, ho5, _⟩, hs5⟩
        obtain ⟨do5, dn, dc, hdN, rfl⟩ := ho5.lenN
        have HD5 : Hid (OwnK w.heap.size w5 (.slice do5 dn dc) D) := ho5.mono hw0.size
        have h05 := hw0.trans hs5
        have al6 : Since w5 (w5.alloc (.cells #[.slice do5 dn dc] 26)) := (Since.refl w5).alloc _
        have HD6 := Lib.hid (HD5.out.since al6)
        have BX6 := Lib.hid ((HBX.out.since hs5).since al6)
        have BR6 := Lib.hid ((HBR.out.since hs5).since al6)
        have h06 := h05.trans al6
        clear ho5 hs5
        obtain ⟨t0, t1⟩ := BX6.out.one
        obtain ⟨r0, r1⟩ := BR6.out.one
        cases bb with
        | false =>
          have HP : Hid (derW xs W = ([], false)) := by unfold Hid; rw [HDW.out, HST.out]; rfl
          go_wp2
          refine bodyPost_ret (v := .tuple #[.agg #[.slice none 0 0], .bool false]) (by simp [results, Tryd.results29, go_sem, *]) rfl ?_
          rw [HP.out]
          refine xbOut_nil ?_
          first | exact h06 | exact h06.setCell (by show w.heap.size ≤ w.heap.size + 1; omega) _
        | true =>
          go_wp2
          go_roundw
          case rel =>
            refine ⟨k + 1, D, _, _, _, by omega, by go_num, BX6.out.set 0 _, HD6.out.farT BX6.out (by decide) 0 _, ?_, HDE.out (by first | exact rfl | trivial), BR6.out.far (p := ⟨X, 0, none⟩) (by show w.heap.size + 1 ≠ X; omega) _, h06.setCell (a := ⟨X, 0, none⟩) (by show w.heap.size ≤ X; omega) _⟩
            unfold Hid; rw [HDW.out, HST.out]; rfl
          case measure => simp [intOf]; omega
      · obtain rfl : k = m := by omega
        have HP : Hid (derW xs W = (cur, true)) := by unfold Hid; rw [HDW.out, List.drop_of_length_le (by have := HM.out; omega)]; rfl
        obtain ⟨p0, p1⟩ := HBX.out.one
        obtain ⟨r0, r1⟩ := HBR.out.one
        go_wp2
        refine bodyPost_ret (v := .tuple #[.agg #[.slice xo xn xc], .bool true]) (by simp [results, Tryd.results29, go_sem, *]) rfl ?_
        rw [HP.out]
        exact xbOut_box HOX.out hw0 HBR.out (by decide) (by omega) _
  · have HP : Hid (derW xs W = ([], false)) := derW_no (fun h => hgo ⟨h.1, by have := HN.out; omega⟩)
    obtain rfl : v1 = .pointer none := by
      by_cases h4 : n ≤ 400
      · rw [if_pos h4] at ht
        rcases tree_ptr ht with ⟨_, h⟩ | ⟨hb, _⟩
        · exact h
        · exact absurd ⟨hb, h4⟩ hgo
      · rw [if_neg h4] at ht; exact ht
    clear hgo ht
    go_wp2
    refine bodyPost_ret (v := .tuple #[.agg #[.slice none 0 0], .bool false]) (by simp [results, Tryd.results29, go_sem, *]) rfl ?_
    rw [HP.out]
    refine xbOut_nil ?_
    first | exact hyw | exact hyw.setCell (by show w.heap.size ≤ w.heap.size + 1; omega) _
end Go.Proofs.YtiojgahjfndmdaaDoor
