/- ReverseExpr, the model's and the program's. -/
import Derived.Test.YthnppgcmmabolaaGreatDoorLrv
namespace Go.Proofs.YthnppgcmmabolaaGreatDoor
set_option maxRecDepth 100000
open Go.ChangeShapes Go.WideShapes Go.ChangeAt Go.RowKit
set_option linter.unusedVariables false
set_option linter.unusedSimpArgs false

theorem xbOut_mk {w w' : World} {b : Value} {xs : List Tok} {c : Bool} (h : OwnK w.heap.size w' b xs) (hs : Since w w') : XBOut w xs c (.returned (.tuple #[.agg #[b], .bool c])) w' := ⟨_, rfl, OwnX.mk h, hs⟩
theorem xbOut_nil {w w' : World} (hs : Since w w') : XBOut w [] false (.returned (.tuple #[.agg #[.slice none 0 0], .bool false])) w' :=
  xbOut_mk ⟨fun x hx => by simp at hx, World.ownsRow_nil _ _ _ _⟩ hs
theorem xbOut_box {w w2 : World} {b : Value} {xs : List Tok} {c : Bool} {X i : Nat} {t : TypeId} {cs : Array Value} (h : OwnK w.heap.size w2 b xs) (hs : Since w w2) (hb : Blk w2 X t cs) (ht : t ≠ 42) (hX : w.heap.size ≤ X) (u : Value) : XBOut w xs c (.returned (.tuple #[.agg #[b], .bool c])) (w2.setCell ⟨X, i, none⟩ u) :=
  xbOut_mk (h.farT hb ht i u) (hs.setCell hX u)
set_option maxHeartbeats 1000000 in
set_option maxRecDepth 100000 in
theorem implRX_any (v : Value) (xs : List Tok) (w : World) (hf : Forms w) (h : ExC w v xs) (hl : xs.length ≤ 1048577) :
    Calls Tryz.prog 13 #[v] w (XBOut w (revX xs) (isXB xs)) := by
  obtain ⟨ao, ac, rfl, ha, hac⟩ := h.open
  have HA := Lib.hid ha
  obtain ⟨n, hn⟩ : ∃ n, n = xs.length := ⟨_, rfl⟩
  rw [← hn] at HA ⊢
  clear hn h ha hac
  obtain ⟨y, hy⟩ : ∃ y, y = (w.alloc (.cells #[.slice ao n ac] 26)).alloc (.cells #[.slice none 0 0] 26) := ⟨_, rfl⟩
  have hsy : Since w y := by rw [hy]; exact ((Since.refl w).alloc _).alloc _
  have BR : Hid (Blk y (w.heap.size + 1) 26 #[.slice none 0 0]) := by rw [hy]; exact Blk.new (by simp) _ _
  have HY := Lib.hid hy
  have HF := Lib.hid (hf.since hsy)
  clear hy hf
  go_enter Tryz.func13, Tryz.ntmps13
  go_wp2_with fail
  rw [← HY.out]
  refine (treeOf_any _ xs _ HF.out ⟨_, rfl, HA.out.since hsy⟩ hl).mono ?_
  rintro e w1 ⟨v1, rfl, ht, hs1⟩
  have hyw := hsy.trans hs1
  obtain ⟨r0, r1⟩ := (BR.out.since hs1).one
  cases ho : treeO xs with
  | none =>
    obtain rfl : v1 = .pointer none := by unfold treeT at ht; rw [ho] at ht; exact ht
    have HB : Hid (isXB xs = false) := by unfold Hid isXB; rw [ho]; rfl
    have HP := Lib.hid (revX_none ho)
    clear ht ho
    go_wp2
    refine bodyPost_ret (v := .tuple #[.agg #[.slice none 0 0], .bool false]) (by simp [results, Tryz.results13, go_sem, *]) rfl ?_
    rw [HP.out, HB.out]
    refine xbOut_nil ?_
    first | exact hyw | exact hyw.setCell (by show w.heap.size ≤ w.heap.size + 1; omega) _
  | some T =>
    have HB : Hid (isXB xs = true) := by unfold Hid isXB; rw [ho]; rfl
    obtain ⟨hok, hpost⟩ := treeO_some ho
    have HP := Lib.hid (revX_some ho)
    have hTl : T.len ≤ 1048577 := by rw [← post_len, ← hpost]; exact hl
    rw [treeT_some ho] at ht
    clear ho hpost
    have HT := Lib.hid ht
    obtain ⟨g, rfl⟩ : ∃ g, v1 = .pointer (some ⟨g, 0, none⟩) := by
      cases T with
      | nil => exact hok.elim
      | node t l r => obtain ⟨_, g, _, _, _, _, _, _, e, _⟩ := ht; exact ⟨g, e⟩
    clear ht hok
    go_wp2_with fail
    clear r0 r1
    refine (reverseN_any T y.heap.size w1.heap.size _ w1 HT.out (Nat.le_refl _)).mono ?_
    rintro e w2 ⟨rfl, ht2, hw2⟩
    have HT2 := Lib.hid ht2
    have hs2 : Since y w2 := hs1.within (Nat.le_refl _) hw2
    clear ht2 hw2
    go_wp2_with fail
    refine (nodeExpr_any T.rev y.heap.size w1.heap.size _ _ HT2.out (by rw [rev_len]; omega)).mono ?_
    rintro e w3 ⟨v3, rfl, ⟨b3, rfl, ho3, _⟩, hs3⟩
    obtain ⟨ro, N, rc, hN, rfl⟩ := ho3.lenN
    have hs23 := hs2.trans hs3
    have HO : Hid (OwnK w.heap.size w3 (.slice ro N rc) T.rev.post) := ho3.mono (hsy.trans hs2).size
    clear ho3
    obtain ⟨r0, r1⟩ := (BR.out.since hs23).one
    go_wp2_with fail
    refine bodyPost_ret (v := .tuple #[.agg #[.slice ro N rc], .bool true]) (by simp [results, Tryz.results13, go_sem, *]) rfl ?_
    rw [HP.out, HB.out]
    exact xbOut_box HO.out (hsy.trans hs23) (BR.out.since hs23) (by decide) (by omega) _
end Go.Proofs.YthnppgcmmabolaaGreatDoor
