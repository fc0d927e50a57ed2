/- endsFrom, out of findEnds. -/
import Derived.Test.YtiojgahjfndmdaaDoorMwM
import Derived.Deep.DeepCutAuto
namespace Go.Proofs.YtiojgahjfndmdaaDoor
set_option maxRecDepth 100000
open Go.ChangeShapes Go.WideShapes Go.ChangeAt Go.RowKit
set_option linter.unusedVariables false
set_option linter.unusedSimpArgs false

set_option maxHeartbeats 2000000 in
set_option maxRecDepth 100000 in
theorem from_of (W : List Int) (T : Tr) (hW : W.length ≤ 8) (H : FindC W T) : FromC W T := by
  intro b lo hi a0 b0 wv v i w hok ha hb hhb ht hm hw hiW
  have HTW := Lib.hid (ht.wider ha hb)
  have HT := Lib.hid ht
  have HWD := Lib.hid hw
  have HM := Lib.hid hm
  have HOK := Lib.hid hok
  obtain ⟨g, rfl⟩ : ∃ g, v = .pointer (some ⟨g, 0, none⟩) := by
    cases T with
    | nil => exact hok.elim
    | node t l r => obtain ⟨_, g, _, _, _, _, _, _, e, _⟩ := ht; exact ⟨g, e⟩
  obtain ⟨wo, wc, rfl, _⟩ := hw
  obtain ⟨n, hn⟩ : ∃ n, n = W.length := ⟨_, rfl⟩
  rw [← hn] at HWD ⊢
  clear hn
  have hbw := hm.lt
  obtain ⟨f, hf, hfs⟩ := hm
  clear hok ht
  have al : Since w ((w.alloc (.cells #[.slice wo n wc, .map (some b)] 109)).alloc (.cells #[.pointer (some ⟨g, 0, none⟩), .int .i64 (i : Int)] 126)) := ((Since.refl w).alloc _).alloc _
  have HF := Lib.hid (hf.since al)
  have HNO := Lib.hid ((node_of HT.out).since al)
  have BM : Hid (Blk ((w.alloc (.cells #[.slice wo n wc, .map (some b)] 109)).alloc (.cells #[.pointer (some ⟨g, 0, none⟩), .int .i64 (i : Int)] 126)) w.heap.size 109 #[.slice wo n wc, .map (some b)]) := (Blk.new rfl _ _).alloc _
  have BP : Hid (Blk ((w.alloc (.cells #[.slice wo n wc, .map (some b)] 109)).alloc (.cells #[.pointer (some ⟨g, 0, none⟩), .int .i64 (i : Int)] 126)) (w.heap.size + 1) 126 #[.pointer (some ⟨g, 0, none⟩), .int .i64 (i : Int)]) := Blk.new (by simp) _ _
  have HAL := Lib.hid al
  cases hk : f ⟨g, i⟩ with
  | some z =>
    have HZ : Hid (z = ((endT W T i : Nat) : Int)) := by
      obtain ⟨U, j, _, hu, hj, _, hz⟩ := hfs _ _ hk
      have e1 := HTW.out.unique hu
      have e2 : i = j := by have : (i : Int) = (j : Int) := hj; omega
      subst e1 e2
      exact hz
    have HK1 : Hid ((f ⟨g, i⟩).getD 0 = z) := by unfold Hid; rw [hk]; rfl
    have HK2 : Hid ((f ⟨g, i⟩).isSome = true) := by unfold Hid; rw [hk]; rfl
    clear hk hfs hf al
    go_enter Tryd.func102, Tryd.ntmps102
    go_wp2_with (at_lookup; go_must (refine wpList_lookup_msk rfl (.tmp 15) (.tmp 16) rfl b f ⟨g, i⟩ z true rfl rfl HNO.out HF.out HK1.out HK2.out ?_))
    go_ret
    exact ⟨ret_int HZ.out, HM.out.since HAL.out, Within.of_since HAL.out⟩
  | none =>
    have HK1 : Hid ((f ⟨g, i⟩).getD 0 = 0) := by unfold Hid; rw [hk]; rfl
    have HK2 : Hid ((f ⟨g, i⟩).isSome = false) := by unfold Hid; rw [hk]; rfl
    clear hk hfs hf al
    obtain ⟨y, hy⟩ : ∃ y, y = (w.alloc (.cells #[.slice wo n wc, .map (some b)] 109)).alloc (.cells #[.pointer (some ⟨g, 0, none⟩), .int .i64 (i : Int)] 126) := ⟨_, rfl⟩
    have HY := Lib.hid hy
    go_enter Tryd.func102, Tryd.ntmps102
    clear hy
    go_wp2_with (at_lookup; go_must (refine wpList_lookup_msk rfl (.tmp 15) (.tmp 16) rfl b f ⟨g, i⟩ 0 false rfl rfl HNO.out HF.out HK1.out HK2.out ?_))
    rw [← HY.out]
    rw [← HY.out] at HAL BM BP HF HNO
    refine (H b lo hi a0 b0 _ _ i y HOK.out ha hb hhb (HT.out.since HAL.out) (HM.out.since HAL.out) (HWD.out.since HAL.out) hiW).mono ?_
    rintro e w3 ⟨rfl, hm3, hw3⟩
    obtain ⟨f3, hf3, hfs3⟩ := hm3
    have HF3 := Lib.hid hf3
    have HS3 := Lib.hid hfs3
    have HW3 := Lib.hid hw3
    have HT3 := Lib.hid ((HTW.out.since HAL.out).within hw3 (.inl hhb))
    have HN3 := Lib.hid (node_of HT3.out)
    have hzy : w.heap.size + 1 < y.heap.size := BP.out.lt
    obtain ⟨p0, p1, _, _⟩ := (BM.out.within hw3 (by omega)).two
    obtain ⟨q0, q1, _, _⟩ := (BP.out.within hw3 (by omega)).two
    clear hf3 hfs3 hw3
    obtain ⟨z, hz⟩ : ∃ z, z = endT W T i := ⟨_, rfl⟩
    rw [← hz]
    have HZ := Lib.hid hz
    clear hz
    go_wp2_with (refine wpList_mapUpdate_msk (o := ⟨none, _, _, _, _, _⟩) rfl (.tmp 27) (.tmp 28) (.tmp 29) rfl b f3 ⟨g, i⟩ (z : Int) rfl rfl rfl HN3.out HF3.out ?_; intro ob hMF; have HMF := Lib.hid hMF; clear hMF p0 p1 q0 q1)
    go_ret
    refine ⟨ret_int (by rw [HZ.out]), ?_, ((Within.of_since HAL.out).trans HW3.out).trans (within_set _ _ _)⟩
    exact MemoOk.put HF3.out HS3.out HOK.out HT3.out hiW ob (by rw [← HZ.out]; exact HMF.out)
end Go.Proofs.YtiojgahjfndmdaaDoor
