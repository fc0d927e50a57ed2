/- EqualGraphs, the model's and the program's. -/
import Derived.Test.YtmaagihfjldgeaaK2
import Derived.Laws.StructEq
import Derived.BigQuiet
import Derived.Deep.QuietTactic
namespace Go.Proofs.Ytmaagihfjldgeaa
set_option maxRecDepth 100000
open Go.ChangeShapes Go.WideShapes Go.ChangeAt Go.RowKit
set_option linter.unusedVariables false
set_option linter.unusedSimpArgs false
set_option maxRecDepth 100000 in
theorem slicesEqual_ints (a b : Value) (xs ys : List Int) (w : World) (ha : IntsAt w a xs) (hb : IntsAt w b ys) (hl : xs.length ≤ 1152921504606846976) (hl2 : ys.length ≤ 1152921504606846976) :
    Calls Try.prog 157 #[a, b] w fun e w' => e = .returned (.bool (decide (xs = ys))) ∧ Since w w' := by
  obtain ⟨ao1, cap1, rfl, HC1⟩ := ha.row
  obtain ⟨ao2, cap2, rfl, HC2⟩ := hb.row
  clear ha hb
  by_cases hlen : xs.length = ys.length
  · rw [← hlen]
    obtain ⟨n, hn⟩ : ∃ n, n = xs.length := ⟨_, rfl⟩
    rw [← hn]
    have hn9 : n ≤ 1152921504606846976 := by omega
    have HN := Lib.hid hn
    have HN2 : Hid (n = ys.length) := by rw [hn]; exact hlen
    have HNE : (((n : Nat) : Int) != ((n : Nat) : Int)) = false := by simp
    clear hn hlen hl hl2
    go_enter Try.func157, Try.ntmps157
    go_wp2
    go_loopw [13] (fun i wr => ∃ k : Nat, k ≤ n ∧ i = .int .i64 k ∧ Hid (xs.take k = ys.take k) ∧ Since w wr) (fun i _ => n - (intOf i).toNat)
    case atStart => exact ⟨0, Nat.zero_le _, rfl, rfl, Since.refl w⟩
    case round =>
      obtain ⟨k, hk, rfl, HT, hsin⟩ := hrel
      by_cases hlt : k < n
      · have hx : k < xs.length := by have := HN.out; omega
        have hy : k < ys.length := by have := HN2.out; omega
        obtain ⟨b1, off1, rfl, hb1, c1⟩ := HC1.out k hx
        obtain ⟨b2, off2, rfl, hb2, c2⟩ := HC2.out k hy
        rw [← since_cells hsin hb1] at c1
        rw [← since_cells hsin hb2] at c2
        have hki : (k : Int) < (n : Int) := by omega
        have hk0 : (0 : Int) ≤ (k : Int) := by omega
        by_cases he : xs[k] = ys[k]
        · have HE := Lib.hid (take_eq_step k hx hy HT.out he)
          have hb0 : (xs[k] != ys[k]) = false := by simpa using he
          clear he
          go_wp2
          go_quiet (fail)
          go_wp2
          go_roundw
          case rel => exact ⟨k + 1, by omega, by go_num, HE, hsin.drewN _⟩
          case measure => simp [intOf]; omega
        · have HE := Lib.hid (show decide (xs = ys) = false from decide_eq_false (ne_of_at k hx hy he))
          have hb0 : (xs[k] != ys[k]) = true := by simpa using he
          clear he
          go_wp2
          go_quiet (fail)
          go_wp2
          go_ret
          exact ⟨ret_bool HE.out.symm, hsin.drewN _⟩
      · obtain rfl : k = n := by omega
        have HE : Hid (decide (xs = ys) = true) := by
          have := HT.out
          rw [List.take_of_length_le (by have := HN.out; omega), List.take_of_length_le (by have := HN2.out; omega)] at this
          unfold Hid; simpa using this
        go_wp2
        go_ret
        exact ⟨ret_bool HE.out.symm, hsin⟩
  · have HE : Hid (decide (xs = ys) = false) := by unfold Hid; simp; intro e; rw [e] at hlen; exact hlen rfl
    have hne : ((xs.length : Int) != (ys.length : Int)) = true := by simp; omega
    obtain ⟨n, hn⟩ : ∃ n, n = xs.length := ⟨_, rfl⟩
    obtain ⟨m, hm⟩ : ∃ m, m = ys.length := ⟨_, rfl⟩
    rw [← hn, ← hm] at hne ⊢
    clear hn hm hlen hl hl2 HC1 HC2
    go_enter Try.func157, Try.ntmps157
    go_wp2
    go_ret
    exact ⟨ret_bool HE.out.symm, Since.refl _⟩
end Go.Proofs.Ytmaagihfjldgeaa
