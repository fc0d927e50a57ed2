/- A slice opened at every index at once, the empty one too. -/
import Derived.Test.YtilkheclimammaaGrf
import Derived.Deep.RegionHeld3
import Derived.StillTailTactics
import Derived.Deep.DeepCutAuto
namespace Go.Proofs.Ytilkheclimammaa
set_option maxRecDepth 100000
open Go.ChangeShapes Go.WideShapes Go.ChangeAt Go.RowKit

theorem IntsAt.row {w : World} {v : Value} {xs : List Int} (h : IntsAt w v xs) :
    ∃ ao cap, v = .slice ao xs.length cap ∧ Hid (∀ i (h : i < xs.length), ∃ b off, ao = some ⟨b, off, none⟩ ∧ b < w.heap.size ∧ w.cell? ⟨b, off + i, none⟩ = some (.int .i64 xs[i])) := by
  obtain ⟨_, ⟨rfl, ao, cap, rfl⟩ | ⟨b, off, cap, rfl, hb, hc⟩⟩ := h
  · exact ⟨ao, cap, rfl, fun i hi => by simp at hi⟩
  · exact ⟨_, cap, rfl, fun i hi => ⟨b, off, rfl, hb, hc i hi⟩⟩
theorem EdgesAt.row {w : World} {v : Value} {xs : List Edg} (h : EdgesAt w v xs) :
    ∃ ao cap, v = .slice ao xs.length cap ∧ Hid (∀ i (h : i < xs.length), ∃ b off, ao = some ⟨b, off, none⟩ ∧ b < w.heap.size ∧
      w.cell? ⟨b, off + i * 4, none⟩ = some (.int .i64 xs[i].id) ∧ w.cell? ⟨b, off + i * 4 + 1, none⟩ = some (.int .i64 xs[i].fr) ∧
      w.cell? ⟨b, off + i * 4 + 2, none⟩ = some (.int .i64 xs[i].to) ∧ w.cell? ⟨b, off + i * 4 + 3, none⟩ = some (.int .i64 xs[i].lb)) := by
  obtain ⟨_, ⟨rfl, ao, cap, rfl⟩ | ⟨b, off, cap, rfl, hb, hc⟩⟩ := h
  · exact ⟨ao, cap, rfl, fun i hi => by simp at hi⟩
  · exact ⟨_, cap, rfl, fun i hi => ⟨b, off, rfl, hb, hc i hi⟩⟩
theorem since_cells {w w' : World} {b : Nat} (k : Since w w') (hb : b < w.heap.size) : ∀ o, w'.cell? ⟨b, o, none⟩ = w.cell? ⟨b, o, none⟩ := fun o => Below.cell k (p := ⟨b, o, none⟩) hb

theorem toEdge_any (e : Edg) (w : World) : Calls Try.prog 105 #[ev e] w fun en w' => en = .returned (ev e) ∧ Since w w' := by
  unfold ev
  go_enter Try.func105, Try.ntmps105
  go_wp2
  exact bodyPost_ret (v := .agg #[.int .i64 e.id, .int .i64 e.fr, .int .i64 e.to, .int .i64 e.lb]) (by simp [results, Try.results105, go_sem]) rfl ⟨rfl, (((Since.refl w).alloc _).alloc _).alloc _⟩
set_option maxRecDepth 100000 in
theorem eqEdge_any (a b : Edg) (w : World) : Calls Try.prog 109 #[ev a, ev b] w fun en w' => en = .returned (.bool (decide (a = b))) ∧ Since w w' := by
  have hs : Since w ((w.alloc (.cells #[.int .i64 a.id, .int .i64 a.fr, .int .i64 a.to, .int .i64 a.lb] 108)).alloc (.cells #[.int .i64 b.id, .int .i64 b.fr, .int .i64 b.to, .int .i64 b.lb] 108)) := ((Since.refl w).alloc _).alloc _
  unfold ev
  by_cases h1 : a.id = b.id
  · by_cases h2 : a.fr = b.fr
    · by_cases h3 : a.to = b.to
      · by_cases h4 : a.lb = b.lb
        · have hd := Lib.hid (show decide (a = b) = true from decide_eq_true (Edg.ext4 h1 h2 h3 h4))
          have n1 : (a.id != b.id) = false := by simpa using h1
          have n2 : (a.fr != b.fr) = false := by simpa using h2
          have n3 : (a.to != b.to) = false := by simpa using h3
          have n4 : (a.lb != b.lb) = false := by simpa using h4
          clear h1 h2 h3 h4
          go_enter Try.func109, Try.ntmps109
          go_wp2
          go_ret
          exact ⟨ret_bool hd.out.symm, hs⟩
        · have hd := Lib.hid (show decide (a = b) = false from decide_eq_false (fun h => h4 (by rw [h])))
          have n1 : (a.id != b.id) = false := by simpa using h1
          have n2 : (a.fr != b.fr) = false := by simpa using h2
          have n3 : (a.to != b.to) = false := by simpa using h3
          have n4 : (a.lb != b.lb) = true := by simpa using h4
          clear h1 h2 h3 h4
          go_enter Try.func109, Try.ntmps109
          go_wp2
          go_ret
          exact ⟨ret_bool hd.out.symm, hs⟩
      · have hd := Lib.hid (show decide (a = b) = false from decide_eq_false (fun h => h3 (by rw [h])))
        have n1 : (a.id != b.id) = false := by simpa using h1
        have n2 : (a.fr != b.fr) = false := by simpa using h2
        have n3 : (a.to != b.to) = true := by simpa using h3
        clear h1 h2 h3
        go_enter Try.func109, Try.ntmps109
        go_wp2
        go_ret
        exact ⟨ret_bool hd.out.symm, hs⟩
    · have hd := Lib.hid (show decide (a = b) = false from decide_eq_false (fun h => h2 (by rw [h])))
      have n1 : (a.id != b.id) = false := by simpa using h1
      have n2 : (a.fr != b.fr) = true := by simpa using h2
      clear h1 h2
      go_enter Try.func109, Try.ntmps109
      go_wp2
      go_ret
      exact ⟨ret_bool hd.out.symm, hs⟩
  · have hd := Lib.hid (show decide (a = b) = false from decide_eq_false (fun h => h1 (by rw [h])))
    have n1 : (a.id != b.id) = true := by simpa using h1
    clear h1
    go_enter Try.func109, Try.ntmps109
    go_wp2
    go_ret
    exact ⟨ret_bool hd.out.symm, hs⟩

theorem take_eq_stepE {xs ys : List Edg} (k : Nat) (h1 : k < xs.length) (h2 : k < ys.length) (h : xs.take k = ys.take k) (he : xs[k] = ys[k]) : xs.take (k + 1) = ys.take (k + 1) := by
  rw [List.take_succ_eq_append_getElem h1, List.take_succ_eq_append_getElem h2, h, he]
theorem ne_of_atE {xs ys : List Edg} (k : Nat) (h1 : k < xs.length) (h2 : k < ys.length) (he : xs[k] ≠ ys[k]) : xs ≠ ys := by
  intro e; subst e; exact he rfl

set_option maxRecDepth 100000 in
theorem eqEdgeS_any (a b : Value) (xs ys : List Edg) (w : World) (ha : EdgesAt w a xs) (hb : EdgesAt w b ys) (hl : xs.length ≤ 1152921504606846976) (hl2 : ys.length ≤ 1152921504606846976) :
    Calls Try.prog 78 #[a, b] w fun e w' => e = .returned (.bool (decide (xs = ys))) ∧ Since w w' := by
  obtain ⟨ao1, cap1, rfl, HC1⟩ := ha.row
  obtain ⟨ao2, cap2, rfl, HC2⟩ := hb.row
  clear ha hb
  by_cases hlen : xs.length = ys.length
  · rw [← hlen]
    obtain ⟨n, hn⟩ : ∃ n, n = xs.length := ⟨_, rfl⟩
    rw [← hn]
    have hn9 : n ≤ 1152921504606846976 := by omega
    have HN := Lib.hid hn
    have HN2 : Hid (n = ys.length) := by rw [hn]; exact hlen
    have HNE : (((n : Nat) : Int) != ((n : Nat) : Int)) = false := by simp
    clear hn hlen hl hl2
    go_enter Try.func78, Try.ntmps78
    go_wp2
    go_loopw [5] (fun i wr => ∃ k : Nat, k ≤ n ∧ i = .int .i64 k ∧ Hid (xs.take k = ys.take k) ∧ Since w wr) (fun i _ => n - (intOf i).toNat)
    case atStart => exact ⟨0, Nat.zero_le _, rfl, rfl, Since.refl w⟩
    case round =>
      obtain ⟨k, hk, rfl, HT, hsin⟩ := hrel
      by_cases hlt : k < n
      · have hx : k < xs.length := by have := HN.out; omega
        have hy : k < ys.length := by have := HN2.out; omega
        obtain ⟨b1, off1, rfl, hb1, c10, c11, c12, c13⟩ := HC1.out k hx
        obtain ⟨b2, off2, rfl, hb2, c20, c21, c22, c23⟩ := HC2.out k hy
        have s1 := since_cells hsin hb1
        have s2 := since_cells hsin hb2
        rw [← s1] at c10 c11 c12 c13
        rw [← s2] at c20 c21 c22 c23
        clear s1 s2
        have hki : (k : Int) < (n : Int) := by omega
        have hk0 : (0 : Int) ≤ (k : Int) := by omega
        go_wp2
        by_cases he : xs[k] = ys[k]
        · have HE := Lib.hid (show decide (xs[k] = ys[k]) = true from decide_eq_true he)
          have HF := Lib.hid (take_eq_stepE k hx hy HT.out he)
          clear he
          go_still_tail 8, (by kernel_rfl)
          go_wp2_with fail
          refine (eqEdge_any xs[k] ys[k] _).mono ?_
          rintro e w1 ⟨rfl, hs1⟩
          rw [HE.out]
          have hs := hsin.trans (Since.of_drew hs1)
          go_wp2
          go_roundw
          case rel => exact ⟨k + 1, by omega, by go_num, HF, hs⟩
          case measure => simp [intOf]; omega
        · have HE := Lib.hid (show decide (xs[k] = ys[k]) = false from decide_eq_false he)
          have HF := Lib.hid (show decide (xs = ys) = false from decide_eq_false (ne_of_atE k hx hy he))
          clear he
          go_still_tail 8, (by kernel_rfl)
          go_wp2_with fail
          refine (eqEdge_any xs[k] ys[k] _).mono ?_
          rintro e w1 ⟨rfl, hs1⟩
          rw [HE.out]
          have hs := hsin.trans (Since.of_drew hs1)
          go_wp2
          go_ret
          exact ⟨ret_bool HF.out.symm, hs⟩
      · obtain rfl : k = n := by omega
        have HE : Hid (decide (xs = ys) = true) := by
          have := HT.out
          rw [List.take_of_length_le (by have := HN.out; omega), List.take_of_length_le (by have := HN2.out; omega)] at this
          unfold Hid; simpa using this
        go_wp2
        go_ret
        exact ⟨ret_bool HE.out.symm, hsin⟩
  · have HE : Hid (decide (xs = ys) = false) := by unfold Hid; simp; intro e; rw [e] at hlen; exact hlen rfl
    have hne : ((xs.length : Int) != (ys.length : Int)) = true := by simp; omega
    obtain ⟨n, hn⟩ : ∃ n, n = xs.length := ⟨_, rfl⟩
    obtain ⟨m, hm⟩ : ∃ m, m = ys.length := ⟨_, rfl⟩
    rw [← hn, ← hm] at hne ⊢
    have hn9 : n ≤ 4611686018427387904 := by omega
    have hm9 : m ≤ 4611686018427387904 := by omega
    clear hn hm hlen hl hl2 HC1 HC2
    go_enter Try.func78, Try.ntmps78
    go_wp2
    go_ret
    exact ⟨ret_bool HE.out.symm, Since.refl _⟩
end Go.Proofs.Ytilkheclimammaa
