/- A tree taken several times, the program's. -/
import Derived.Test.YtgnjgfifgfbmcaaDoorEpI
import Derived.Test.YtgnjgfifgfbmcaaDoorEpT
namespace Go.Proofs.YtgnjgfifgfbmcaaDoor
set_option maxRecDepth 100000
open Go.ChangeShapes Go.WideShapes Go.ChangeAt Go.RowKit
set_option linter.unusedVariables false
set_option linter.unusedSimpArgs false

theorem ownK_two (w w1 : World) (h : Since w w1) (e f : Tok) (he : e.In) (hf : f.In) (b : Nat) (hb : b = w1.heap.size) :
    OwnK w.heap.size (w1.alloc (.cells #[.int .i64 e.kd, .int .i64 e.lr, .int .i64 e.lo, .int .i64 e.hi, .int .i64 f.kd, .int .i64 f.lr, .int .i64 f.lo, .int .i64 f.hi] 81)) (.slice (some ⟨b, 0, none⟩) 2 2) [e, f] := by
  subst hb
  refine ⟨fun x hx => ?_, World.ownsRow_lit w1 #[.int .i64 e.kd, .int .i64 e.lr, .int .i64 e.lo, .int .i64 e.hi, .int .i64 f.kd, .int .i64 f.lr, .int .i64 f.lo, .int .i64 f.hi] 2 h.size (by unfold maxLen; omega) rfl⟩
  simp at hx
  rcases hx with rfl | rfl
  · exact he
  · exact hf

set_option maxHeartbeats 2000000 in
set_option maxRecDepth 100000 in
theorem expRep_any (X : Tr) (hX : X.len ≤ 5000) : ∀ (h : Nat) (lo hi : Int) (v : Value) (w : World), h ≤ 3 → hi = (h : Int) → 0 ≤ lo → lo ≤ 3 → ToksAt w v X.post →
    Calls Tryd.prog 102 #[v, .int .i64 lo, .int .i64 hi] w (TokOut w (timT X h lo.toNat).post) := by
  intro h
  induction h with
  | zero =>
    intro lo hi v w _ hh0 hlo0 hlo3 ha
    obtain ⟨ao, ac, rfl⟩ := ha.len
    clear ha
    obtain ⟨n, hn⟩ : ∃ n, n = X.post.length := ⟨_, rfl⟩
    rw [← hn]
    clear hn
    obtain rfl : hi = 0 := hh0
    have HD : Hid ((timT X 0 lo.toNat).post = [leafK 2]) := rfl
    have HO := Lib.hid (ownK_one w w (Since.refl w) (leafK 2) (leafK_in 2 (by decide)) w.heap.size rfl)
    have HS : Hid (Since w (w.alloc (.cells #[.int .i64 2, .int .i64 0, .int .i64 0, .int .i64 0] 81))) := (Since.refl w).alloc _
    go_enter Tryd.func102, Tryd.ntmps102
    go_wp2
    go_ret
    exact ⟨_, rfl, by rw [HD.out]; exact HO.out, HS.out⟩
  | succ h ih =>
    intro lo hi v w hh3 hhi hlo0 hlo3 ha
    have HA := Lib.hid ha
    obtain ⟨ao, ac, rfl⟩ := ha.len
    clear ha
    obtain ⟨n, hn⟩ : ∃ n, n = X.post.length := ⟨_, rfl⟩
    rw [← hn] at HA ⊢
    have hn9 : n ≤ 5000 := by rw [hn, post_len]; exact hX
    have HN := Lib.hid hn
    clear hn
    obtain ⟨lo2, hlo2⟩ : ∃ lo2 : Int, lo2 = if 1 < lo then lo - 1 else 0 := ⟨_, rfl⟩
    have hl20 : 0 ≤ lo2 ∧ lo2 ≤ 3 ∧ lo2.toNat = lo.toNat - 1 := by rw [hlo2]; split <;> omega
    have HMX : Hid ((if 1 < lo then lo - 1 else 0) = lo2) := hlo2.symm
    obtain ⟨T2, hT2⟩ : ∃ T2, T2 = timT X h (lo.toNat - 1) := ⟨_, rfl⟩
    have hT9 : T2.post.length ≤ 20000 := by rw [hT2]; exact timT_small hX (by omega)
    have HRC : Hid (∀ W, Since w W → Calls Tryd.prog 102 #[.slice ao n ac, .int .i64 lo2, .int .i64 (hi - 1)] W (TokOut W T2.post)) := fun W k => by
      have := ih lo2 (hi - 1) (.slice ao n ac) W (by omega) (by omega) hl20.1 hl20.2.1 (HA.out.since k)
      rw [hl20.2.2, ← hT2] at this
      exact this
    have HDT : Hid ((timT X (h + 1) lo.toNat).post = if lo = 0 then X.post ++ T2.post ++ [leafK 4] ++ [leafK 2, leafK 5] else X.post ++ T2.post ++ [leafK 4]) := by
      unfold Hid
      rw [hT2]
      conv => lhs; unfold timT
      by_cases e : lo = 0
      · rw [if_pos e, if_pos (by omega)]; simp [Tr.post, leafT]
      · rw [if_neg e, if_neg (by omega)]; simp [Tr.post]
    have hne : (hi == 0) = false := by simp; omega
    have EW1 : Hid (wrap64 (lo - 1) = lo - 1) := by unfold Hid wrap64; omega
    have EW2 : Hid (wrap64 (hi - 1) = hi - 1) := by unfold Hid wrap64; omega
    clear hl20 hT2 hhi ih EW1 HMX
    rcases (by omega : lo = 0 ∨ lo = 1 ∨ lo = 2 ∨ lo = 3) with rfl | rfl | rfl | rfl
    · obtain rfl : lo2 = 0 := by rw [hlo2]; rfl
      clear hlo2 hlo0 hlo3
      have HD : Hid ((timT X (h + 1) (Int.toNat 0)).post = X.post ++ T2.post ++ [leafK 4] ++ [leafK 2, leafK 5]) := by unfold Hid; rw [HDT.out]; rfl
      clear HDT
      have ew2 := EW2.out
      go_enter Tryd.func102, Tryd.ntmps102
      go_wp2_with fail
      clear ew2
      with_reducible refine (HRC.out _ (Since.refl w)).mono ?_
      rintro e w1 ⟨v1, rfl, ho1, hs1⟩
      obtain ⟨uo, un, uc, hun, rfl⟩ := ho1.lenN
      have HO1 := Lib.hid ho1
      clear ho1
      have hal : Since w1 ((w1.alloc (.cells #[.int .i64 4, .int .i64 0, .int .i64 0, .int .i64 0] 81)).alloc (.cells #[.slice ao n ac, .slice uo un uc, .slice (some ⟨w1.heap.size, 0, none⟩) 1 1] 24)) := ((Since.refl _).alloc _).alloc _
      have s1 := hs1.trans hal
      go_wp2_with fail
      refine (concat3 _ _ _ _ X.post T2.post [leafK 4] _ _ (Blk.new (by simp) _ _) (HA.out.since s1) (HO1.out.since hal).at ((tok_lit w1 (leafK 4) (leafK_in 4 (by decide))).since ((Since.refl _).alloc _)) rfl (by have := HN.out; simp; omega)).mono ?_
      rintro e w2 ⟨v2, rfl, ho2, hs2⟩
      obtain ⟨ro, N, rc, hN, rfl⟩ := ho2.lenN
      have s2 := s1.trans hs2
      have HO2 := Lib.hid (ho2.mono s1.size)
      clear ho2
      have hal2 : Since w2 (w2.alloc (.cells #[.int .i64 2, .int .i64 0, .int .i64 0, .int .i64 0, .int .i64 5, .int .i64 0, .int .i64 0, .int .i64 0] 81)) := (Since.refl _).alloc _
      have HL2 := Lib.hid (ownK_two w2 w2 (Since.refl w2) (leafK 2) (leafK 5) (leafK_in 2 (by decide)) (leafK_in 5 (by decide)) w2.heap.size rfl).at
      go_wp2_with (at_builtin; go_must (refine wpList_app rfl (.tmp 26) (.tmp 29) rfl w.heap.size ro N rc (X.post ++ T2.post ++ [leafK 4]) rfl (HO2.out.since hal2) _ _ _ rfl [leafK 2, leafK 5] HL2.out (by have := HN.out; simp; omega) (s2.trans hal2).size ?_); intro do4 N4 dc4 v4 hN4 ho4 hk4; have hf4 := (s2.trans hal2).keepK hk4; clear hk4)
      go_ret
      exact ⟨_, rfl, by rw [HD.out]; exact ho4, hf4⟩
    · obtain rfl : lo2 = 0 := by rw [hlo2]; rfl
      clear hlo2 hlo0 hlo3
      have HD : Hid ((timT X (h + 1) (Int.toNat 1)).post = X.post ++ T2.post ++ [leafK 4]) := by unfold Hid; rw [HDT.out]; rfl
      clear HDT
      have ew2 := EW2.out
      go_enter Tryd.func102, Tryd.ntmps102
      go_wp2_with fail
      clear ew2
      with_reducible refine (HRC.out _ (Since.refl w)).mono ?_
      rintro e w1 ⟨v1, rfl, ho1, hs1⟩
      obtain ⟨uo, un, uc, hun, rfl⟩ := ho1.lenN
      have HO1 := Lib.hid ho1
      clear ho1
      have hal : Since w1 ((w1.alloc (.cells #[.int .i64 4, .int .i64 0, .int .i64 0, .int .i64 0] 81)).alloc (.cells #[.slice ao n ac, .slice uo un uc, .slice (some ⟨w1.heap.size, 0, none⟩) 1 1] 24)) := ((Since.refl _).alloc _).alloc _
      have s1 := hs1.trans hal
      go_wp2_with fail
      refine (concat3 _ _ _ _ X.post T2.post [leafK 4] _ _ (Blk.new (by simp) _ _) (HA.out.since s1) (HO1.out.since hal).at ((tok_lit w1 (leafK 4) (leafK_in 4 (by decide))).since ((Since.refl _).alloc _)) rfl (by have := HN.out; simp; omega)).mono ?_
      rintro e w2 ⟨v2, rfl, ho2, hs2⟩
      obtain ⟨ro, N, rc, hN, rfl⟩ := ho2.lenN
      have s2 := s1.trans hs2
      have HO2 := Lib.hid (ho2.mono s1.size)
      clear ho2
      go_wp2_with fail
      go_ret
      exact ⟨_, rfl, by rw [HD.out]; exact HO2.out, s2⟩
    · obtain rfl : lo2 = 1 := by rw [hlo2]; rfl
      clear hlo2 hlo0 hlo3
      have HD : Hid ((timT X (h + 1) (Int.toNat 2)).post = X.post ++ T2.post ++ [leafK 4]) := by unfold Hid; rw [HDT.out]; rfl
      clear HDT
      have ew2 := EW2.out
      go_enter Tryd.func102, Tryd.ntmps102
      go_wp2_with fail
      clear ew2
      with_reducible refine (HRC.out _ (Since.refl w)).mono ?_
      rintro e w1 ⟨v1, rfl, ho1, hs1⟩
      obtain ⟨uo, un, uc, hun, rfl⟩ := ho1.lenN
      have HO1 := Lib.hid ho1
      clear ho1
      have hal : Since w1 ((w1.alloc (.cells #[.int .i64 4, .int .i64 0, .int .i64 0, .int .i64 0] 81)).alloc (.cells #[.slice ao n ac, .slice uo un uc, .slice (some ⟨w1.heap.size, 0, none⟩) 1 1] 24)) := ((Since.refl _).alloc _).alloc _
      have s1 := hs1.trans hal
      go_wp2_with fail
      refine (concat3 _ _ _ _ X.post T2.post [leafK 4] _ _ (Blk.new (by simp) _ _) (HA.out.since s1) (HO1.out.since hal).at ((tok_lit w1 (leafK 4) (leafK_in 4 (by decide))).since ((Since.refl _).alloc _)) rfl (by have := HN.out; simp; omega)).mono ?_
      rintro e w2 ⟨v2, rfl, ho2, hs2⟩
      obtain ⟨ro, N, rc, hN, rfl⟩ := ho2.lenN
      have s2 := s1.trans hs2
      have HO2 := Lib.hid (ho2.mono s1.size)
      clear ho2
      go_wp2_with fail
      go_ret
      exact ⟨_, rfl, by rw [HD.out]; exact HO2.out, s2⟩
    · obtain rfl : lo2 = 2 := by rw [hlo2]; rfl
      clear hlo2 hlo0 hlo3
      have HD : Hid ((timT X (h + 1) (Int.toNat 3)).post = X.post ++ T2.post ++ [leafK 4]) := by unfold Hid; rw [HDT.out]; rfl
      clear HDT
      have ew2 := EW2.out
      go_enter Tryd.func102, Tryd.ntmps102
      go_wp2_with fail
      clear ew2
      with_reducible refine (HRC.out _ (Since.refl w)).mono ?_
      rintro e w1 ⟨v1, rfl, ho1, hs1⟩
      obtain ⟨uo, un, uc, hun, rfl⟩ := ho1.lenN
      have HO1 := Lib.hid ho1
      clear ho1
      have hal : Since w1 ((w1.alloc (.cells #[.int .i64 4, .int .i64 0, .int .i64 0, .int .i64 0] 81)).alloc (.cells #[.slice ao n ac, .slice uo un uc, .slice (some ⟨w1.heap.size, 0, none⟩) 1 1] 24)) := ((Since.refl _).alloc _).alloc _
      have s1 := hs1.trans hal
      go_wp2_with fail
      refine (concat3 _ _ _ _ X.post T2.post [leafK 4] _ _ (Blk.new (by simp) _ _) (HA.out.since s1) (HO1.out.since hal).at ((tok_lit w1 (leafK 4) (leafK_in 4 (by decide))).since ((Since.refl _).alloc _)) rfl (by have := HN.out; simp; omega)).mono ?_
      rintro e w2 ⟨v2, rfl, ho2, hs2⟩
      obtain ⟨ro, N, rc, hN, rfl⟩ := ho2.lenN
      have s2 := s1.trans hs2
      have HO2 := Lib.hid (ho2.mono s1.size)
      clear ho2
      go_wp2_with fail
      go_ret
      exact ⟨_, rfl, by rw [HD.out]; exact HO2.out, s2⟩
end Go.Proofs.YtgnjgfifgfbmcaaDoor
