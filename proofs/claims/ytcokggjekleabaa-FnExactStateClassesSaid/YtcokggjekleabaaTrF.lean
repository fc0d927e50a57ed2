/- l11Find, l11Nothing. -/
import Derived.Test.YtcokggjekleabaaTrW
import Derived.Test.YtcokggjekleabaaK3
import Derived.Test.YtcokggjekleabaaAutL
import Derived.Test.YtcokggjekleabaaK1
namespace Go.Proofs.Ytcokggjekleabaa
set_option maxRecDepth 100000
open Go.ChangeShapes Go.WideShapes Go.ChangeAt Go.RowKit Go.Maps
set_option linter.unusedVariables false
set_option linter.unusedSimpArgs false

def findL (xs : List Int) (x : Int) : Int := if x ∈ xs then (posN xs x : Int) else -1
theorem posN_first : ∀ (xs : List Int) (k : Nat) (h : k < xs.length) (x : Int), (∀ j (hj : j < xs.length), j < k → xs[j] ≠ x) → xs[k] = x → posN xs x = k
  | y :: ys, 0, h, x, hp, e => by simp at e; simp [posN, e]
  | y :: ys, k + 1, h, x, hp, e => by
    have h0 := hp 0 (by simp) (by omega)
    simp at h0
    unfold posN
    rw [if_neg h0, posN_first ys k (by simpa using h) x (fun j hj hk => by have := hp (j + 1) (by simpa using hj) (by omega); simpa using this) (by simpa using e)]
set_option maxRecDepth 100000 in
theorem find_any (v : Value) (xs : List Int) (x : Int) (w : World) (h : IntsAt w v xs) (hl : xs.length ≤ 4000000) :
    Calls Try.prog 120 #[v, .int .i64 x] w fun e w' => e = .returned (.int .i64 (findL xs x)) ∧ Since w w' := by
  obtain ⟨ao, cap, rfl, HC⟩ := h.row
  clear h
  obtain ⟨n, hn⟩ : ∃ n, n = xs.length := ⟨_, rfl⟩
  rw [← hn] at hl ⊢
  have HN := Lib.hid hn
  clear hn
  go_enter Try.func120, Try.ntmps120
  go_wp2
  go_loopw [5] (fun i wr => ∃ k : Nat, k ≤ n ∧ i = .int .i64 k ∧ Hid (∀ j (hj : j < xs.length), j < k → xs[j] ≠ x) ∧ wr = w) (fun i _ => n - (intOf i).toNat)
  case atStart => exact ⟨0, Nat.zero_le _, rfl, fun j hj hk => by omega, rfl⟩
  case round =>
    obtain ⟨k, hk, rfl, HJ, rfl⟩ := hrel
    by_cases hlt : k < n
    · have hki : (k : Int) < (n : Int) := by omega
      have hk0 : (0 : Int) ≤ (k : Int) := by omega
      have hkx : k < xs.length := by rw [← HN.out]; exact hlt
      obtain ⟨b, off, rfl, hb, d⟩ := HC.out k hkx
      obtain ⟨q, hq⟩ : ∃ q, q = xs[k] := ⟨_, rfl⟩
      rw [← hq] at d
      by_cases e : q = x
      · have HF : Hid (findL xs x = (k : Int)) := by
          unfold Hid findL
          have hm : x ∈ xs := by rw [← e, hq]; exact List.getElem_mem hkx
          rw [if_pos hm, posN_first xs k hkx x HJ.out (by rw [← hq]; exact e)]
        have hqe : (q == x) = true := by simpa using e
        clear hq e
        go_wp2
        go_ret
        exact ⟨ret_int HF.out.symm, Since.refl _⟩
      · have HJ2 : Hid (∀ j (hj : j < xs.length), j < k + 1 → xs[j] ≠ x) := by
          intro j hj hk2
          by_cases e2 : j = k
          · subst e2; rw [← hq]; exact e
          · exact HJ.out j hj (by omega)
        have hqe : (q == x) = false := by simpa using e
        clear hq e
        go_wp2
        go_roundw
        case rel => exact ⟨k + 1, by omega, by go_num, HJ2.out, by first | exact rfl | trivial⟩
        case measure => simp [intOf]; omega
    · have HF : Hid (findL xs x = -1) := by
        unfold Hid findL
        rw [if_neg (fun hm => by
          obtain ⟨j, hj, e⟩ := List.getElem_of_mem hm
          exact HJ.out j hj (by have := HN.out; omega) e)]
      obtain rfl : k = n := by omega
      go_wp2
      go_ret
      exact ⟨ret_int HF.out.symm, Since.refl _⟩
def nothingA : Aut := ⟨0, [false], [List.replicate 9 (-1)]⟩
set_option maxHeartbeats 2000000 in
set_option maxRecDepth 100000 in
theorem nothing_any (w : World) : Calls Try.prog 126 #[] w (AOut w nothingA) := by
  obtain ⟨y, hy⟩ : ∃ y, y = (w.alloc (.cells #[.int .i64 0, .slice none 0 0, .slice none 0 0] 27)).alloc (.cells #[] 3) := ⟨_, rfl⟩
  have hs0 : Since w y := by rw [hy]; exact ((Since.refl w).alloc _).alloc _
  have hz : y.heap.size = w.heap.size + 1 + 1 := by rw [hy]; simp
  have B0 : Hid (Blk y w.heap.size 27 #[.int .i64 0, .slice none 0 0, .slice none 0 0]) := by rw [hy]; exact (Blk.new rfl _ _).alloc _
  have HL0 : Hid (Own (w.heap.size + 1) y (.slice (some ⟨w.heap.size + 1, 0, none⟩) 0 0) (List.replicate 0 (-1))) := by
    unfold Hid
    rw [hy]
    have := own_lit (w.alloc (.cells #[.int .i64 0, .slice none 0 0, .slice none 0 0] 27)) (w.alloc (.cells #[.int .i64 0, .slice none 0 0, .slice none 0 0] 27)) (Since.refl _)
    simpa using this
  have HY := Lib.hid hy
  clear hy
  go_enter Try.func126, Try.ntmps126
  go_upto_region 3 with fail
  rw [← HY.out]
  go_loopw [1, 2] (fun q i wr => ∃ (k : Nat) (v1 : Value), k ≤ 9 ∧ i = .int .i64 k ∧ v1 = q ∧ Hid (Own (w.heap.size + 1) wr v1 (List.replicate k (-1))) ∧ Hid (Since w wr) ∧ Hid (Blk wr w.heap.size 27 #[.int .i64 0, .slice none 0 0, .slice none 0 0])) (fun _ i _ => 9 - (intOf i).toNat)
  case atStart => exact ⟨0, _, Nat.zero_le _, rfl, rfl, HL0.out, hs0, B0.out⟩
  case round =>
    obtain ⟨k, v1, hk, rfl, rfl, HO, HS, HB⟩ := hrel
    have hbl := HB.out.lt
    by_cases hlt : k < 9
    · have hki : (k : Int) < 9 := by omega
      have hOT : OwnNt 3 (w.heap.size + 1) wr v1 (List.replicate k (-1)) := HO.out
      have hb1 : w.heap.size + 1 ≤ wr.heap.size := by omega
      have hi1 : InI (-1) := by unfold InI; omega
      have hlen : (List.replicate k (-1 : Int)).length ≤ 4194304 := by simp; omega
      go_wp2_with (at_builtin; go_must (refine wpList_append_T rfl (.tmp 8) (.tmp 9) 30 3 rfl Try.underlying30 info_int (w.heap.size + 1) v1 (List.replicate k (-1)) (by first | rfl | simp [Act.eval]) hOT (-1) (by first | rfl | simp [Act.eval]) hi1 hlen hb1 ?_); intro v5 w5 ho5 hg5)
      have HO5 : Hid (Own (w.heap.size + 1) w5 v5 (List.replicate (k + 1) (-1))) := by
        unfold Hid; rw [List.replicate_succ']; exact ho5
      have HS5 : Hid (Since w w5) := HS.out.grown hg5 (fun j hj => by have := (HO.out.2.lt j hj).1; omega)
      have HB5 : Hid (Blk w5 w.heap.size 27 #[.int .i64 0, .slice none 0 0, .slice none 0 0]) := (hg5.block _ hbl (by intro e; have := (HO.out.2.lt _ e.symm).1; omega)).trans HB.out
      clear ho5 hg5 hOT
      go_roundw
      case rel => exact ⟨k + 1, v5, by omega, by go_num, rfl, HO5.out, HS5.out, HB5.out⟩
      case measure => simp [intOf]; omega
    · obtain rfl : k = 9 := by omega
      obtain ⟨g, cap, rfl, hg⟩ := own_block HO.out.2 (by simp)
      obtain ⟨wz, hwz⟩ : ∃ wz, wz = (((wr.setCell ⟨w.heap.size, 0, none⟩ (.int .i64 0)).setCell ⟨w.heap.size, 1, none⟩ (.slice (some ⟨wr.heap.size, 0, none⟩) 1 1)).setCell ⟨w.heap.size, 2, none⟩ (.slice (some ⟨wr.heap.size + 1, 0, none⟩) 1 1)) := ⟨_, rfl⟩
      have hzz : wz.heap.size = wr.heap.size := by rw [hwz]; simp
      have HOz : Hid (Own (w.heap.size + 1) wz (.slice (some ⟨g, 0, none⟩) 9 cap) (List.replicate 9 (-1))) := by
        have := HO.out
        rw [hwz]
        exact ((this.far (p := ⟨w.heap.size, 0, none⟩) (Nat.lt_succ_self _) _).far (p := ⟨w.heap.size, 1, none⟩) (Nat.lt_succ_self _) _).far (p := ⟨w.heap.size, 2, none⟩) (Nat.lt_succ_self _) _
      have HSz : Hid (Since w wz) := by
        rw [hwz]
        exact ((HS.out.setCell (Nat.le_refl _) _).setCell (Nat.le_refl _) _).setCell (Nat.le_refl _) _
      have HA : Hid (OwnA (w.heap.size + 1) (wr.heap.size + 2) ((wz.alloc (.cells #[.bool false] 4)).alloc (.cells #[.slice (some ⟨g, 0, none⟩) 9 cap] 30)) (.agg #[.int .i64 0, .slice (some ⟨wr.heap.size, 0, none⟩) 1 1, .slice (some ⟨wr.heap.size + 1, 0, none⟩) 1 1]) nothingA) := by
        have k1 : Since wz (wz.alloc (.cells #[.bool false] 4)) := (Since.refl _).alloc _
        have k2 : Since (wz.alloc (.cells #[.bool false] 4)) ((wz.alloc (.cells #[.bool false] 4)).alloc (.cells #[.slice (some ⟨g, 0, none⟩) 9 cap] 30)) := (Since.refl _).alloc _
        have o1 : OwnBo (w.heap.size + 1) (wz.alloc (.cells #[.bool false] 4)) (.slice (some ⟨wr.heap.size, 0, none⟩) 1 1) [false] := by
          rw [← hzz]
          exact World.ownsRow_lit wz #[.bool false] 1 (by omega) (by unfold maxLen; omega) rfl
        have o2 := World.ownsRow_lit (e := 30) (size := 1) (base := w.heap.size + 1) (wz.alloc (.cells #[.bool false] 4)) #[.slice (some ⟨g, 0, none⟩) 9 cap] 1 (by simp; omega) (by unfold maxLen; omega) rfl
        have hz1 : (wz.alloc (.cells #[.bool false] 4)).heap.size = wr.heap.size + 1 := by simp [hzz]
        rw [hz1] at o2
        have o3 := (HOz.out.since k1).since k2
        have l3 := o3.2.lt
        refine ⟨_, _, rfl, by unfold InI; simp [nothingA], o1.since k2, fun q hq => ?_, [_], o2, rfl, fun q hq => ?_, fun i hi hx => ?_, fun i j hi hj hne => ?_⟩
        · simp [Value.ownBlock] at hq; omega
        · simp [Value.ownBlock] at hq; omega
        · obtain rfl : i = 0 := by simpa using hi
          refine ⟨o3, fun q hq => ?_⟩
          have := l3 q hq
          simp at this; omega
        · simp at hi hj; omega
      obtain ⟨⟨r0, r1, r2⟩, r3, r4, r5⟩ := HB.out.threeA
      go_wp2
      refine bodyPost_ret (v := .agg #[.int .i64 0, .slice (some ⟨wr.heap.size, 0, none⟩) 1 1, .slice (some ⟨wr.heap.size + 1, 0, none⟩) 1 1]) (by simp [results, Try.results126, go_sem, *]) rfl ?_
      rw [← hwz]
      refine ⟨_, rfl, ?_, (HSz.out.alloc _).alloc _⟩
      refine OwnA.wider (lo := w.heap.size + 1) (hi := wr.heap.size + 2) HA.out (by omega) (by simp [hzz])
end Go.Proofs.Ytcokggjekleabaa
