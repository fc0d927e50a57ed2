/- The laws' sameInts. -/
import Derived.Test.YtfjlcmippnbhoaaDoorInts
namespace Go.Proofs.YtfjlcmippnbhoaaDoor
open Go.ChangeShapes Go.WideShapes Go.ChangeAt Go.RowKit

set_option maxRecDepth 100000 in
theorem sameInts_any (a b : Value) (xs ys : List Int) (w : World) (ha : IntsAt w a xs) (hb : IntsAt w b ys) (hl : xs.length ≤ 4611686018427387904) (hl2 : ys.length ≤ 4611686018427387904) :
    Calls Tryd.prog 20 #[a, b] w fun e w' => e = .returned (.bool (decide (xs = ys))) ∧ Since w w' := by
  by_cases hlen : xs.length = ys.length
  · obtain ⟨_, ⟨rfl, ao, cap, rfl⟩ | ⟨b1, off1, cap1, rfl, hb1, hc1⟩⟩ := ha
    · obtain rfl : ys = [] := List.eq_nil_of_length_eq_zero hlen.symm
      obtain ⟨_, ⟨_, ao2, cap2, rfl⟩ | ⟨b2, off2, cap2, rfl, hb2, hc2⟩⟩ := hb
      all_goals
        go_enter Tryd.func20, Tryd.ntmps20
        go_wp2
        go_loopw [5] (fun i wr => i = .int .i64 0 ∧ wr = w) (fun _ _ => 0)
        case atStart => exact ⟨rfl, rfl⟩
        case round =>
          obtain ⟨rfl, rfl⟩ := hrel
          go_wp2
          go_ret
          exact ⟨by simp, Since.refl _⟩
    · obtain ⟨_, ⟨rfl, ao2, cap2, rfl⟩ | ⟨b2, off2, cap2, rfl, hb2, hc2⟩⟩ := hb
      · obtain rfl : xs = [] := List.eq_nil_of_length_eq_zero hlen
        go_enter Tryd.func20, Tryd.ntmps20
        go_wp2
        go_loopw [5] (fun i wr => i = .int .i64 0 ∧ wr = w) (fun _ _ => 0)
        case atStart => exact ⟨rfl, rfl⟩
        case round =>
          obtain ⟨rfl, rfl⟩ := hrel
          go_wp2
          go_ret
          exact ⟨by simp, Since.refl _⟩
      · have HC1 := Lib.hid hc1
        have HC2 := Lib.hid hc2
        clear hc1 hc2
        rw [← hlen]
        obtain ⟨n, hn⟩ : ∃ n, n = xs.length := ⟨_, rfl⟩
        rw [← hn]
        have hn9 : n ≤ 4611686018427387904 := by omega
        have HN := Lib.hid hn
        have HN2 : Hid (n = ys.length) := by rw [hn]; exact hlen
        have HNE : (((n : Nat) : Int) != ((n : Nat) : Int)) = false := by simp
        clear hn hlen hl hl2
        go_enter Tryd.func20, Tryd.ntmps20
        go_wp2
        go_loopw [5] (fun i wr => ∃ k : Nat, k ≤ n ∧ i = .int .i64 k ∧ Hid (xs.take k = ys.take k) ∧ Since w wr) (fun i _ => n - (intOf i).toNat)
        case atStart => exact ⟨0, Nat.zero_le _, rfl, rfl, Since.refl w⟩
        case round =>
          obtain ⟨k, hk, rfl, HT, hsin⟩ := hrel
          by_cases hlt : k < n
          · have hx : k < xs.length := by have := HN.out; omega
            have hy : k < ys.length := by have := HN2.out; omega
            have h1 : wr.cell? ⟨b1, off1 + k, none⟩ = some (.int .i64 xs[k]) := (Below.cell hsin (p := ⟨b1, off1 + k, none⟩) hb1).trans (HC1.out k hx)
            have h2 : wr.cell? ⟨b2, off2 + k, none⟩ = some (.int .i64 ys[k]) := (Below.cell hsin (p := ⟨b2, off2 + k, none⟩) hb2).trans (HC2.out k hy)
            have hki : (k : Int) < (n : Int) := by omega
            have hk0 : (0 : Int) ≤ (k : Int) := by omega
            by_cases he : xs[k] = ys[k]
            · have HE : Hid (xs.take (k + 1) = ys.take (k + 1)) := take_eq_step k hx hy HT.out he
              rw [← he] at h2
              have hb0 : (xs[k] != xs[k]) = false := by simp
              clear he
              go_wp2
              go_quiet (fail)
              go_wp2
              go_roundw
              case rel => exact ⟨k + 1, by omega, by go_num, HE, hsin.drewN _⟩
              case measure => simp [intOf]; omega
            · have HE : Hid (decide (xs = ys) = false) := by unfold Hid; simpa using ne_of_at k hx hy he
              have hb0 : (xs[k] != ys[k]) = true := by simpa using he
              clear he
              go_wp2
              go_quiet (fail)
              go_wp2
              go_ret
              exact ⟨ret_bool HE.out.symm, hsin.drewN _⟩
          · obtain rfl : k = n := by omega
            have HE : Hid (decide (xs = ys) = true) := by
              have := HT.out
              rw [List.take_of_length_le (by have := HN.out; omega), List.take_of_length_le (by have := HN2.out; omega)] at this
              unfold Hid; simpa using this
            go_wp2
            go_ret
            exact ⟨ret_bool HE.out.symm, hsin⟩
  · have HE : Hid (decide (xs = ys) = false) := by unfold Hid; simp; intro e; rw [e] at hlen; exact hlen rfl
    have hne : ((xs.length : Int) != (ys.length : Int)) = true := by simp; omega
    have va : ∃ ao c, a = .slice ao xs.length c := by
      obtain ⟨_, ⟨rfl, ao, cap, rfl⟩ | ⟨b1, off1, cap1, rfl, hb1, hc1⟩⟩ := ha
      · exact ⟨_, _, rfl⟩
      · exact ⟨_, _, rfl⟩
    have vb : ∃ ao c, b = .slice ao ys.length c := by
      obtain ⟨_, ⟨rfl, ao, cap, rfl⟩ | ⟨b1, off1, cap1, rfl, hb1, hc1⟩⟩ := hb
      · exact ⟨_, _, rfl⟩
      · exact ⟨_, _, rfl⟩
    obtain ⟨ao, c, rfl⟩ := va
    obtain ⟨ao2, c2, rfl⟩ := vb
    obtain ⟨n, hn⟩ : ∃ n, n = xs.length := ⟨_, rfl⟩
    obtain ⟨m, hm⟩ : ∃ m, m = ys.length := ⟨_, rfl⟩
    rw [← hn, ← hm] at hne ⊢
    have hn9 : n ≤ 4611686018427387904 := by omega
    have hm9 : m ≤ 4611686018427387904 := by omega
    clear hn hm ha hb hlen hl hl2
    go_enter Tryd.func20, Tryd.ntmps20
    go_wp2
    go_ret
    exact ⟨ret_bool HE.out.symm, Since.refl _⟩

end Go.Proofs.YtfjlcmippnbhoaaDoor
