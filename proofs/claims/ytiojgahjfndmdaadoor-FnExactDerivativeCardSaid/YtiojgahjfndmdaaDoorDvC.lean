/- Derivative and DerivativeWord, the model's and the program's. -/
import Derived.Test.YtiojgahjfndmdaaDoorDrS
import Derived.Test.YtiojgahjfndmdaaDoorDrI
import Derived.Test.YtiojgahjfndmdaaDoorK0
import Derived.Test.YtiojgahjfndmdaaDoorRvx
namespace Go.Proofs.YtiojgahjfndmdaaDoor
set_option maxRecDepth 100000
open Go.ChangeShapes Go.WideShapes Go.ChangeAt Go.RowKit
set_option linter.unusedVariables false
set_option linter.unusedSimpArgs false

theorem derX_none {xs : List Tok} (c : Int) (h : treeO xs = none) : derX xs c = ([], false) := by unfold derX; rw [h]
theorem derX_out {xs : List Tok} {T : Tr} (c : Int) (h : treeO xs = some T) (hn : ¬ (xs.length ≤ 400 ∧ inB c 0 8 = true ∧ (derT c T).length ≤ 400)) : derX xs c = ([], false) := by unfold derX; rw [h]; exact if_neg hn
theorem derX_in {xs : List Tok} {T : Tr} (c : Int) (h : treeO xs = some T) (hn : xs.length ≤ 400 ∧ inB c 0 8 = true ∧ (derT c T).length ≤ 400) : derX xs c = (derT c T, true) := by unfold derX; rw [h]; exact if_pos hn
theorem derX_len (xs : List Tok) (c : Int) : (derX xs c).1.length ≤ 400 := by
  cases h : (derX xs c).2 with
  | true => exact (derX_ok h).2
  | false =>
    cases ht : treeO xs with
    | none => rw [derX_none c ht]; simp
    | some T =>
      by_cases hn : xs.length ≤ 400 ∧ inB c 0 8 = true ∧ (derT c T).length ≤ 400
      · rw [derX_in c ht hn] at h; cases h
      · rw [derX_out c ht hn]; simp
theorem derX_no {xs : List Tok} {c : Int} (h : (derX xs c).2 = false) : (derX xs c).1 = [] := by
  cases ht : treeO xs with
  | none => rw [derX_none c ht]
  | some T =>
    by_cases hn : xs.length ≤ 400 ∧ inB c 0 8 = true ∧ (derT c T).length ≤ 400
    · rw [derX_in c ht hn] at h; cases h
    · rw [derX_out c ht hn]
theorem derWL_len : ∀ (w : List Int) (xs : List Tok), xs.length ≤ 400 → (derWL xs w).1.length ≤ 400
  | [], xs, h => h
  | c :: w, xs, h => by
    unfold derWL
    split
    · exact derWL_len w _ (derX_len xs c)
    · simp
theorem derW_len (xs : List Tok) (w : List Int) : (derW xs w).1.length ≤ 400 := by
  unfold derW
  split
  · rename_i h; exact derWL_len w xs h.2
  · simp
theorem isXB_some {xs : List Tok} {T : Tr} (h : treeO xs = some T) : isXB xs = true := by unfold isXB; rw [h]; rfl
theorem isXB_nope {xs : List Tok} (h : treeO xs = none) : isXB xs = false := by unfold isXB; rw [h]; rfl
/-- The tree of an expression that is not too long. -/
theorem derivableTree_any (v : Value) (xs : List Tok) (w : World) (hf : Forms w) (h : ExAt w v xs) (hl : xs.length ≤ 1048577) :
    Calls Tryd.prog 77 #[v] w (TreOut w (if xs.length ≤ 400 then treeT xs else .nil)) := by
  obtain ⟨a, rfl, ha⟩ := h
  have HA := Lib.hid ha
  obtain ⟨ao, ac, rfl⟩ := ha.len
  clear ha
  obtain ⟨n, hn⟩ : ∃ n, n = xs.length := ⟨_, rfl⟩
  rw [← hn] at HA ⊢
  clear hn
  obtain ⟨y, hy⟩ : ∃ y, y = w.alloc (.cells #[.slice ao n ac] 26) := ⟨_, rfl⟩
  have hsy : Since w y := by rw [hy]; exact (Since.refl w).alloc _
  have HF := Lib.hid (hf.since hsy)
  have HY := Lib.hid hy
  clear hf hy
  by_cases h4 : n ≤ 400
  · rw [if_pos h4]
    have h4i : (n : Int) ≤ 400 := by omega
    clear h4
    go_enter Tryd.func77, Tryd.ntmps77
    go_wp2_with fail
    rw [← HY.out]
    refine (treeOf_any _ xs _ HF.out ⟨_, rfl, HA.out.since hsy⟩ hl).mono ?_
    rintro e w1 ⟨v1, rfl, ht, hs1⟩
    have HT := Lib.hid (ht.wider hsy.size (Nat.le_refl _))
    obtain ⟨p, rfl⟩ := ht.isPtr
    clear ht
    go_wp2
    go_ret
    exact ⟨_, rfl, HT.out, hsy.trans hs1⟩
  · rw [if_neg h4]
    have h4i : ¬ ((n : Int) ≤ 400) := by omega
    clear h4
    go_enter Tryd.func77, Tryd.ntmps77
    go_wp2
    go_ret
    exact ⟨_, rfl, rfl, by first | exact hsy | exact (HY.out ▸ hsy)⟩
set_option maxHeartbeats 2000000 in
set_option maxRecDepth 100000 in
theorem specDV_any (v : Value) (xs : List Tok) (c : Int) (w : World) (h : ExC w v xs) (hl : xs.length ≤ 1048577) :
    Calls Tryd.prog 33 #[v, .int .i64 c] w (XBOut w (derX xs c).1 (derX xs c).2) := by
  obtain ⟨ao, ac, rfl, ha, hac⟩ := h.open
  have HA := Lib.hid ha
  have HIN := Lib.hid ha.1
  obtain ⟨n, hn⟩ : ∃ n, n = xs.length := ⟨_, rfl⟩
  rw [← hn] at HA hac ⊢
  have HN := Lib.hid hn
  have hn9 : n ≤ 1048577 := by omega
  clear hn h ha
  obtain ⟨y, hy⟩ : ∃ y, y = (w.alloc (.cells #[.slice ao n ac] 26)).alloc (.cells #[.slice none 0 0] 26) := ⟨_, rfl⟩
  have hsy : Since w y := by rw [hy]; exact ((Since.refl w).alloc _).alloc _
  have BE : Hid (Blk y w.heap.size 26 #[.slice ao n ac]) := by rw [hy]; exact (Blk.new rfl _ _).alloc _
  have BR : Hid (Blk y (w.heap.size + 1) 26 #[.slice none 0 0]) := by rw [hy]; exact Blk.new (by simp) _ _
  have HY := Lib.hid hy

  clear hy
  go_enter Tryd.func33, Tryd.ntmps33
  go_wp2_with fail
  rw [← HY.out]
  refine (specIX_any _ xs _ ⟨_, rfl, HA.out.since hsy⟩ hl).mono ?_
  rintro e w1 ⟨rfl, hs1⟩
  have hyw := hsy.trans hs1
  obtain ⟨r0, r1⟩ := (BR.out.since hs1).one
  obtain ⟨p0, p1⟩ := (BE.out.since hs1).one
  cases ho : treeO xs with
  | none =>
    rw [isXB_nope ho]
    have HP := Lib.hid (derX_none c ho)
    clear ho
    go_wp2
    refine bodyPost_ret (v := .tuple #[.agg #[.slice none 0 0], .bool false]) (by simp [results, Tryd.results33, go_sem, *]) rfl ?_
    rw [HP.out]
    refine xbOut_nil ?_
    first | exact hyw | exact hyw.setCell (by show w.heap.size ≤ w.heap.size + 1; omega) _
  | some T =>
    rw [isXB_some ho]
    have HO0 := Lib.hid ho
    obtain ⟨hok, hpost⟩ := treeO_some ho
    clear ho
    by_cases h4 : n ≤ 400
    · have h4i : (n : Int) ≤ 400 := by omega
      obtain ⟨zb, hzb⟩ : ∃ zb, zb = inB c 0 8 := ⟨_, rfl⟩
      have HL := Lib.hid (fun W => hzb ▸ l2Letter_any c W)
      have HB := Lib.hid hzb.symm
      clear hzb
      go_wp2_with fail
      refine (HL.out _).mono ?_
      rintro e w2 ⟨rfl, rfl⟩
      cases zb with
      | false =>
        have HP : Hid (derX xs c = ([], false)) := derX_out c HO0.out (fun h => by have := HB.out; rw [h.2.1] at this; cases this)
        clear h4 hok hpost
        go_wp2
        refine bodyPost_ret (v := .tuple #[.agg #[.slice none 0 0], .bool false]) (by simp [results, Tryd.results33, go_sem, *]) rfl ?_
        rw [HP.out]
        refine xbOut_nil ?_
        first | exact hyw | exact hyw.setCell (by show w.heap.size ≤ w.heap.size + 1; omega) _
      | true =>
        have HAT : Hid (ToksAt w1 (.slice ao n ac) T.post) := by unfold Hid; rw [← hpost]; exact HA.out.since hyw
        have HIN2 : Hid (∀ x ∈ T.post, x.In) := by unfold Hid; rw [← hpost]; exact HIN.out
        have hlen : Hid (n = T.len) := by unfold Hid; rw [HN.out, hpost, post_len]
        have HOK := Lib.hid hok
        have BR2 := Lib.hid (BR.out.since hs1)
        clear hpost hok
        go_wp2_with fail
        clear p0 p1 r0 r1
        refine (l9Deriv_any c T ao n ac _ HOK.out HAT.out hac hlen.out h4 HIN2.out).mono ?_
        rintro e w3 ⟨v3, rfl, ⟨b3, rfl, ho3, _⟩, hs3⟩
        obtain ⟨ro, N, rc, hN, rfl⟩ := ho3.lenN
        have HO3 : Hid (OwnK w.heap.size w3 (.slice ro N rc) (derT c T)) := ho3.mono hyw.size
        have hc3 := hyw.trans hs3
        have BR3 := Lib.hid (BR2.out.since hs3)
        clear ho3 hs3
        obtain ⟨r0, r1⟩ := (BR3.out.since ((Since.refl w3).alloc (.cells #[.slice ro N rc] 26))).one
        have HO4 := Lib.hid (HO3.out.since ((Since.refl w3).alloc (.cells #[.slice ro N rc] 26)))
        have BR4 := Lib.hid (BR3.out.since ((Since.refl w3).alloc (.cells #[.slice ro N rc] 26)))
        have hc4 : Since w (w3.alloc (.cells #[.slice ro N rc] 26)) := hc3.alloc _
        by_cases h9 : N ≤ 400
        · have HP : Hid (derX xs c = (derT c T, true)) := derX_in c HO0.out ⟨by have := HN.out; omega, HB.out, by have := hN.out; omega⟩
          have h9i : (N : Int) ≤ 400 := by omega
          clear h9
          go_wp2_with fail
          refine bodyPost_ret (v := .tuple #[.agg #[.slice ro N rc], .bool true]) (by simp [results, Tryd.results33, go_sem, *]) rfl ?_
          rw [HP.out]
          exact xbOut_box HO4.out hc4 BR4.out (by decide) (by omega) _
        · have HP : Hid (derX xs c = ([], false)) := derX_out c HO0.out (fun h => by have := hN.out; omega)
          have h9i : ¬ ((N : Int) ≤ 400) := by omega
          clear h9
          go_wp2
          refine bodyPost_ret (v := .tuple #[.agg #[.slice none 0 0], .bool false]) (by simp [results, Tryd.results33, go_sem, *]) rfl ?_
          rw [HP.out]
          refine xbOut_nil ?_
          first | exact hc4 | exact hc4.setCell (by show w.heap.size ≤ w.heap.size + 1; omega) _
    · have h4i : ¬ ((n : Int) ≤ 400) := by omega
      have HP : Hid (derX xs c = ([], false)) := derX_out c HO0.out (fun h => by have := HN.out; omega)
      clear h4 hok hpost
      go_wp2
      refine bodyPost_ret (v := .tuple #[.agg #[.slice none 0 0], .bool false]) (by simp [results, Tryd.results33, go_sem, *]) rfl ?_
      rw [HP.out]
      refine xbOut_nil ?_
      first | exact hyw | exact hyw.setCell (by show w.heap.size ≤ w.heap.size + 1; omega) _
set_option maxHeartbeats 2000000 in
set_option maxRecDepth 100000 in
theorem implDV_any (v : Value) (xs : List Tok) (c : Int) (w : World) (hf : Forms w) (h : ExC w v xs) (hl : xs.length ≤ 1048577) :
    Calls Tryd.prog 32 #[v, .int .i64 c] w (XBOut w (derX xs c).1 (derX xs c).2) := by
  obtain ⟨ao, ac, rfl, ha, hac⟩ := h.open
  have HA := Lib.hid ha
  have HIN := Lib.hid ha.1
  obtain ⟨n, hn⟩ : ∃ n, n = xs.length := ⟨_, rfl⟩
  rw [← hn] at HA hac ⊢
  have HN := Lib.hid hn
  have hn9 : n ≤ 1048577 := by omega
  clear hn h ha
  obtain ⟨y, hy⟩ : ∃ y, y = (w.alloc (.cells #[.slice ao n ac] 26)).alloc (.cells #[.slice none 0 0] 26) := ⟨_, rfl⟩
  have hsy : Since w y := by rw [hy]; exact ((Since.refl w).alloc _).alloc _
  have BE : Hid (Blk y w.heap.size 26 #[.slice ao n ac]) := by rw [hy]; exact (Blk.new rfl _ _).alloc _
  have BR : Hid (Blk y (w.heap.size + 1) 26 #[.slice none 0 0]) := by rw [hy]; exact Blk.new (by simp) _ _
  have HY := Lib.hid hy
  have HF := Lib.hid (hf.since hsy)
  clear hy hf
  go_enter Tryd.func32, Tryd.ntmps32
  go_wp2_with fail
  rw [← HY.out]
  refine (derivableTree_any _ xs _ HF.out ⟨_, rfl, HA.out.since hsy⟩ hl).mono ?_
  rintro e w1 ⟨v1, rfl, ht, hs1⟩
  have hyw := hsy.trans hs1
  rw [← HN.out] at ht
  obtain ⟨r0, r1⟩ := (BR.out.since hs1).one
  cases ho : treeO xs with
  | none =>
    have HP := Lib.hid (derX_none c ho)
    have ht0 : treeT xs = .nil := by unfold treeT; rw [ho]; rfl
    rw [ht0, ite_self] at ht
    obtain rfl : v1 = .pointer none := ht
    clear ho ht0
    go_wp2
    refine bodyPost_ret (v := .tuple #[.agg #[.slice none 0 0], .bool false]) (by simp [results, Tryd.results32, go_sem, *]) rfl ?_
    rw [HP.out]
    refine xbOut_nil ?_
    first | exact hyw | exact hyw.setCell (by show w.heap.size ≤ w.heap.size + 1; omega) _
  | some T =>
    have HO0 := Lib.hid ho
    obtain ⟨hok, hpost⟩ := treeO_some ho
    rw [treeT_some ho] at ht
    clear ho
    by_cases h4 : n ≤ 400
    · rw [if_pos h4] at ht
      have HT := Lib.hid ht
      obtain ⟨g, rfl⟩ : ∃ g, v1 = .pointer (some ⟨g, 0, none⟩) := by
        cases T with
        | nil => exact hok.elim
        | node t l r => obtain ⟨_, g, _, _, _, _, _, _, e, _⟩ := ht; exact ⟨g, e⟩
      have hTl : T.len ≤ 400 := by rw [← post_len, ← hpost, ← HN.out]; exact h4
      have HOK := Lib.hid hok
      clear ht hpost hok
      obtain ⟨zb, hzb⟩ : ∃ zb, zb = inB c 0 8 := ⟨_, rfl⟩
      have HL := Lib.hid (fun W => hzb ▸ isLetter_any c W)
      have HB := Lib.hid hzb.symm
      clear hzb
      go_wp2_with fail
      refine (HL.out _).mono ?_
      rintro e w2 ⟨rfl, rfl⟩
      cases zb with
      | false =>
        have HP : Hid (derX xs c = ([], false)) := derX_out c HO0.out (fun h => by have := HB.out; rw [h.2.1] at this; cases this)
        clear h4
        go_wp2
        refine bodyPost_ret (v := .tuple #[.agg #[.slice none 0 0], .bool false]) (by simp [results, Tryd.results32, go_sem, *]) rfl ?_
        rw [HP.out]
        refine xbOut_nil ?_
        first | exact hyw | exact hyw.setCell (by show w.heap.size ≤ w.heap.size + 1; omega) _
      | true =>
        have BR2 := Lib.hid (BR.out.since hs1)
        go_wp2_with fail
        clear r0 r1
        refine (derivative_any c T _ _ _ _ HT.out HOK.out hTl).mono ?_
        rintro e w3 ⟨v3, rfl, ⟨b3, rfl, ho3, _⟩, hs3⟩
        obtain ⟨ro, N, rc, hN, rfl⟩ := ho3.lenN
        have HO3 : Hid (OwnK w.heap.size w3 (.slice ro N rc) (derT c T)) := ho3.mono hyw.size
        have hc3 := hyw.trans hs3
        have BR3 := Lib.hid (BR2.out.since hs3)
        clear ho3 hs3
        obtain ⟨r0, r1⟩ := (BR3.out.since ((Since.refl w3).alloc (.cells #[.slice ro N rc] 26))).one
        have HO4 := Lib.hid (HO3.out.since ((Since.refl w3).alloc (.cells #[.slice ro N rc] 26)))
        have BR4 := Lib.hid (BR3.out.since ((Since.refl w3).alloc (.cells #[.slice ro N rc] 26)))
        have hc4 : Since w (w3.alloc (.cells #[.slice ro N rc] 26)) := hc3.alloc _
        by_cases h9 : N ≤ 400
        · have HP : Hid (derX xs c = (derT c T, true)) := derX_in c HO0.out ⟨by have := HN.out; omega, HB.out, by have := hN.out; omega⟩
          have h9i : (N : Int) ≤ 400 := by omega
          clear h9
          go_wp2_with fail
          refine bodyPost_ret (v := .tuple #[.agg #[.slice ro N rc], .bool true]) (by simp [results, Tryd.results32, go_sem, *]) rfl ?_
          rw [HP.out]
          exact xbOut_box HO4.out hc4 BR4.out (by decide) (by omega) _
        · have HP : Hid (derX xs c = ([], false)) := derX_out c HO0.out (fun h => by have := hN.out; omega)
          have h9i : ¬ ((N : Int) ≤ 400) := by omega
          clear h9
          go_wp2
          refine bodyPost_ret (v := .tuple #[.agg #[.slice none 0 0], .bool false]) (by simp [results, Tryd.results32, go_sem, *]) rfl ?_
          rw [HP.out]
          refine xbOut_nil ?_
          first | exact hc4 | exact hc4.setCell (by show w.heap.size ≤ w.heap.size + 1; omega) _
    · rw [if_neg h4] at ht
      obtain rfl : v1 = .pointer none := ht
      have HP : Hid (derX xs c = ([], false)) := derX_out c HO0.out (fun h => by have := HN.out; omega)
      clear h4 hok hpost
      go_wp2
      refine bodyPost_ret (v := .tuple #[.agg #[.slice none 0 0], .bool false]) (by simp [results, Tryd.results32, go_sem, *]) rfl ?_
      rw [HP.out]
      refine xbOut_nil ?_
      first | exact hyw | exact hyw.setCell (by show w.heap.size ≤ w.heap.size + 1; omega) _
end Go.Proofs.YtiojgahjfndmdaaDoor
