/- EqualAutomata, the model's and the program's. -/
import Derived.Test.YtcokggjekleabaaA1
import Derived.Test.YtcokggjekleabaaEqG2
namespace Go.Proofs.Ytcokggjekleabaa
set_option maxRecDepth 100000
open Go.ChangeShapes Go.WideShapes Go.ChangeAt Go.RowKit
set_option linter.unusedVariables false
set_option linter.unusedSimpArgs false

set_option maxRecDepth 100000 in
theorem slicesEqual_bools (a b : Value) (xs ys : List Bool) (w : World) (ha : BosAt w a xs) (hb : BosAt w b ys) (hl : xs.length ≤ 1152921504606846976) (hl2 : ys.length ≤ 1152921504606846976) :
    Calls Try.prog 131 #[a, b] w fun e w' => e = .returned (.bool (decide (xs = ys))) ∧ Since w w' := by
  obtain ⟨ao1, cap1, rfl, HC1⟩ := ha
  obtain ⟨ao2, cap2, rfl, HC2⟩ := hb
  by_cases hlen : xs.length = ys.length
  · rw [← hlen]
    obtain ⟨n, hn⟩ : ∃ n, n = xs.length := ⟨_, rfl⟩
    rw [← hn]
    have hn9 : n ≤ 4611686018427387904 := by omega
    have HN := Lib.hid hn
    have HN2 : Hid (n = ys.length) := by rw [hn]; exact hlen
    have HNE : (((n : Nat) : Int) != ((n : Nat) : Int)) = false := by simp
    clear hn hlen hl hl2
    go_enter Try.func131, Try.ntmps131
    go_wp2
    go_loopw [13] (fun i wr => ∃ k : Nat, k ≤ n ∧ i = .int .i64 k ∧ Hid (xs.take k = ys.take k) ∧ Since w wr) (fun i _ => n - (intOf i).toNat)
    case atStart => exact ⟨0, Nat.zero_le _, rfl, rfl, Since.refl w⟩
    case round =>
      obtain ⟨k, hk, rfl, HT, hsin⟩ := hrel
      by_cases hlt : k < n
      · have hx : k < xs.length := by have := HN.out; omega
        have hy : k < ys.length := by have := HN2.out; omega
        obtain ⟨b1, off1, rfl, hb1, c1⟩ := HC1.out k hx
        obtain ⟨b2, off2, rfl, hb2, c2⟩ := HC2.out k hy
        have h1 : wr.cell? ⟨b1, off1 + k, none⟩ = some (.bool xs[k]) := (Below.cell hsin (p := ⟨b1, off1 + k, none⟩) hb1).trans c1
        have h2 : wr.cell? ⟨b2, off2 + k, none⟩ = some (.bool ys[k]) := (Below.cell hsin (p := ⟨b2, off2 + k, none⟩) hb2).trans c2
        clear c1 c2
        have hki : (k : Int) < (n : Int) := by omega
        have hk0 : (0 : Int) ≤ (k : Int) := by omega
        by_cases he : xs[k] = ys[k]
        · have HE : Hid (xs.take (k + 1) = ys.take (k + 1)) := take_eq_stepB k hx hy HT.out he
          rw [← he] at h2
          have hb0 : (xs[k] != xs[k]) = false := by simp
          clear he
          go_wp2
          go_quiet (fail)
          go_wp2
          go_roundw
          case rel => exact ⟨k + 1, by omega, by go_num, HE, hsin.drewN _⟩
          case measure => simp [intOf]; omega
        · have HE : Hid (decide (xs = ys) = false) := by
            unfold Hid
            refine decide_eq_false ?_
            intro e; subst e; exact he rfl
          have hxy : (xs[k] = true ∧ ys[k] = false) ∨ (xs[k] = false ∧ ys[k] = true) := by
            cases e1 : xs[k] <;> cases e2 : ys[k] <;> simp_all
          clear he
          rcases hxy with ⟨e1, e2⟩ | ⟨e1, e2⟩
          all_goals
            rw [e1] at h1
            rw [e2] at h2
            clear e1 e2
            go_wp2
            go_quiet (fail)
            go_wp2
            go_ret
            exact ⟨ret_bool HE.out.symm, hsin.drewN _⟩
      · obtain rfl : k = n := by omega
        have HE : Hid (decide (xs = ys) = true) := by
          have := HT.out
          rw [List.take_of_length_le (by have := HN.out; omega), List.take_of_length_le (by have := HN2.out; omega)] at this
          unfold Hid; simpa using this
        go_wp2
        go_ret
        exact ⟨ret_bool HE.out.symm, hsin⟩
  · have HE : Hid (decide (xs = ys) = false) := by unfold Hid; simp; intro e; rw [e] at hlen; exact hlen rfl
    have hne : ((xs.length : Int) != (ys.length : Int)) = true := by simp; omega
    obtain ⟨n, hn⟩ : ∃ n, n = xs.length := ⟨_, rfl⟩
    obtain ⟨m, hm⟩ : ∃ m, m = ys.length := ⟨_, rfl⟩
    clear HC1 HC2
    rw [← hn, ← hm] at hne ⊢
    have hn9 : n ≤ 4611686018427387904 := by omega
    have hm9 : m ≤ 4611686018427387904 := by omega
    clear hn hm hlen hl hl2
    go_enter Try.func131, Try.ntmps131
    go_wp2
    go_ret
    exact ⟨ret_bool HE.out.symm, Since.refl _⟩
set_option maxHeartbeats 1000000 in
set_option maxRecDepth 100000 in
theorem equalFuncS_any (a b : Value) (xs ys : List (List Int)) (w : World) (ha : IssAt w a xs) (hb : IssAt w b ys) (hl : xs.length ≤ 2097154 ∧ totS xs ≤ 2097154) (hl2 : ys.length ≤ 2097154 ∧ totS ys ≤ 2097154) :
    Calls Try.prog 132 #[a, b, .func (.func 108) #[] #[]] w fun e w' => e = .returned (.bool (decide (xs = ys))) ∧ Since w w' := by
  obtain ⟨ao1, cap1, rfl, HC1⟩ := ha
  obtain ⟨ao2, cap2, rfl, HC2⟩ := hb
  have HB1 : Hid (∀ k (hk : k < xs.length), (xs[k]).length ≤ 2097154) := fun k hk => by have := totS_get xs k hk; omega
  have HB2 : Hid (∀ k (hk : k < ys.length), (ys[k]).length ≤ 2097154) := fun k hk => by have := totS_get ys k hk; omega
  by_cases hlen : xs.length = ys.length
  · rw [← hlen]
    obtain ⟨n, hn⟩ : ∃ n, n = xs.length := ⟨_, rfl⟩
    rw [← hn]
    have hn9 : n ≤ 2097154 := by omega
    have HN := Lib.hid hn
    have HN2 : Hid (n = ys.length) := by rw [hn]; exact hlen
    have HNE : (((n : Nat) : Int) != ((n : Nat) : Int)) = false := by simp
    clear hn hlen hl hl2
    go_enter Try.func132, Try.ntmps132
    go_wp2
    go_loopw [17] (fun i wr => ∃ k : Nat, k ≤ n ∧ i = .int .i64 k ∧ Hid (xs.take k = ys.take k) ∧ Since w wr) (fun i _ => n - (intOf i).toNat)
    case atStart => exact ⟨0, Nat.zero_le _, rfl, rfl, Since.refl w⟩
    case round =>
      obtain ⟨k, hk, rfl, HT, hsin⟩ := hrel
      by_cases hlt : k < n
      · have hx : k < xs.length := by have := HN.out; omega
        have hy : k < ys.length := by have := HN2.out; omega
        obtain ⟨b1, off1, p1, rfl, hb1, c1, g1⟩ := HC1.out k hx
        obtain ⟨b2, off2, p2, rfl, hb2, c2, g2⟩ := HC2.out k hy
        obtain ⟨vo1, vc1, rfl, _⟩ := g1.row
        obtain ⟨vo2, vc2, rfl, _⟩ := g2.row
        have h1 := (Below.cell hsin (p := ⟨b1, off1 + k, none⟩) hb1).trans c1
        have h2 := (Below.cell hsin (p := ⟨b2, off2 + k, none⟩) hb2).trans c2
        have G1 := Lib.hid (g1.since hsin)
        have G2 := Lib.hid (g2.since hsin)
        have m1 := HB1.out k hx
        have m2 := HB2.out k hy
        clear c1 c2 g1 g2
        have hki : (k : Int) < (n : Int) := by omega
        have hk0 : (0 : Int) ≤ (k : Int) := by omega
        by_cases he : xs[k] = ys[k]
        · have HE : Hid (decide (xs[k] = ys[k]) = true) := decide_eq_true he
          have HF : Hid (xs.take (k + 1) = ys.take (k + 1)) := take_eq_stepS k hx hy HT.out he
          clear he
          go_wp2_with fail
          refine (slicesEqual_ints _ _ xs[k] ys[k] _ G1.out G2.out (by omega) (by omega)).mono ?_
          rintro e w1 ⟨rfl, hs3⟩
          rw [HE.out]
          have hs := hsin.trans hs3
          go_wp2
          go_roundw
          case rel => exact ⟨k + 1, by omega, by go_num, HF, hs⟩
          case measure => simp [intOf]; omega
        · have HE : Hid (decide (xs[k] = ys[k]) = false) := decide_eq_false he
          have HF : Hid (decide (xs = ys) = false) := by
            unfold Hid
            refine decide_eq_false ?_
            intro e; subst e; exact he rfl
          clear he
          go_wp2_with fail
          refine (slicesEqual_ints _ _ xs[k] ys[k] _ G1.out G2.out (by omega) (by omega)).mono ?_
          rintro e w1 ⟨rfl, hs3⟩
          rw [HE.out]
          have hs := hsin.trans hs3
          go_wp2
          go_ret
          exact ⟨ret_bool HF.out.symm, hs⟩
      · obtain rfl : k = n := by omega
        have HE : Hid (decide (xs = ys) = true) := by
          have := HT.out
          rw [List.take_of_length_le (by have := HN.out; omega), List.take_of_length_le (by have := HN2.out; omega)] at this
          unfold Hid; simpa using this
        go_wp2
        go_ret
        exact ⟨ret_bool HE.out.symm, hsin⟩
  · have HE : Hid (decide (xs = ys) = false) := by unfold Hid; simp; intro e; rw [e] at hlen; exact hlen rfl
    have hne : ((xs.length : Int) != (ys.length : Int)) = true := by simp; omega
    obtain ⟨n, hn⟩ : ∃ n, n = xs.length := ⟨_, rfl⟩
    obtain ⟨m, hm⟩ : ∃ m, m = ys.length := ⟨_, rfl⟩
    rw [← hn, ← hm] at hne ⊢
    have hn9 : n ≤ 4611686018427387904 := by omega
    have hm9 : m ≤ 4611686018427387904 := by omega
    clear hn hm hlen hl hl2 HC1 HC2 HB1 HB2
    go_enter Try.func132, Try.ntmps132
    go_wp2
    go_ret
    exact ⟨ret_bool HE.out.symm, Since.refl _⟩
set_option maxHeartbeats 1000000 in
set_option maxRecDepth 100000 in
theorem implEA_any (a b : Value) (A B : Aut) (w : World) (ha : AutAt w a A) (hb : AutAt w b B) (g : BgA A) (h : BgA B) :
    Calls Try.prog 94 #[a, b] w fun e w' => e = .returned (.bool (decide (A = B))) ∧ Since w w' := by
  obtain ⟨a1, a2, rfl, _, ha1, ha2⟩ := ha
  obtain ⟨b1, b2, rfl, _, hb1, hb2⟩ := hb
  have HA1 := Lib.hid ha1
  have HA2 := Lib.hid ha2
  have HB1 := Lib.hid hb1
  have HB2 := Lib.hid hb2
  clear ha1 ha2 hb1 hb2
  obtain ⟨ao1, ac1, rfl⟩ := HA1.out.len
  obtain ⟨ao2, ac2, rfl⟩ := HA2.out.len
  obtain ⟨bo1, bc1, rfl⟩ := HB1.out.len
  obtain ⟨bo2, bc2, rfl⟩ := HB2.out.len
  obtain ⟨g1, g2, g3⟩ := g
  obtain ⟨h1, h2, h3⟩ := h
  obtain ⟨y, hy⟩ : ∃ y, y = ((w.alloc (.cells #[.int .i64 A.st, .slice ao1 A.ac.length ac1, .slice ao2 A.nx.length ac2] 27)).alloc (.cells #[.int .i64 B.st, .slice bo1 B.ac.length bc1, .slice bo2 B.nx.length bc2] 27)) := ⟨_, rfl⟩
  have hs0 : Since w y := by rw [hy]; exact ((Since.refl w).alloc _).alloc _
  have B0 : Hid (Blk y w.heap.size 27 #[.int .i64 A.st, .slice ao1 A.ac.length ac1, .slice ao2 A.nx.length ac2]) := by rw [hy]; exact (Blk.new rfl _ _).alloc _
  have B1 : Hid (Blk y (w.heap.size + 1) 27 #[.int .i64 B.st, .slice bo1 B.ac.length bc1, .slice bo2 B.nx.length bc2]) := by rw [hy]; exact Blk.new (by simp) _ _
  have HY := Lib.hid hy
  clear hy
  have HQ := Lib.hid (Aut.eq_iff A B)
  by_cases e0 : A.st = B.st
  · have d0 : (A.st == B.st) = true := by simp [e0]
    have E0 := Lib.hid e0
    clear e0
    by_cases e1 : A.ac = B.ac
    · have D1 : Hid (decide (A.ac = B.ac) = true) := decide_eq_true e1
      have HD : Hid (decide (A = B) = decide (A.nx = B.nx)) := by
        by_cases e2 : A.nx = B.nx
        · rw [decide_eq_true e2]; exact decide_eq_true (HQ.out.2 ⟨E0.out, e1, e2⟩)
        · rw [decide_eq_false e2]; exact decide_eq_false (fun e => e2 (HQ.out.1 e).2.2)
      clear e1
      go_enter Try.func94, Try.ntmps94
      go_wp2_with fail
      rw [← HY.out]
      refine (slicesEqual_bools _ _ A.ac B.ac _ (HA1.out.since hs0) (HB1.out.since hs0) (by omega) (by omega)).mono ?_
      rintro e w1 ⟨rfl, hs1⟩
      rw [D1.out]
      obtain ⟨⟨p0, p1, p2⟩, _⟩ := (B0.out.since hs1).threeA
      obtain ⟨⟨q0, q1, q2⟩, _⟩ := (B1.out.since hs1).threeA
      have hs01 := hs0.trans hs1
      go_wp2_with fail
      refine (equalFuncS_any _ _ A.nx B.nx _ (HA2.out.since hs01) (HB2.out.since hs01) ⟨g2, g3⟩ ⟨h2, h3⟩).mono ?_
      rintro e w2 ⟨rfl, hs2⟩
      rw [← HD.out]
      have hs02 := hs01.trans hs2
      go_wp2
      go_ret
      exact ⟨rfl, hs02⟩
    · have D1 : Hid (decide (A.ac = B.ac) = false) := decide_eq_false e1
      have HD : Hid (decide (A = B) = false) := decide_eq_false (fun e => e1 (HQ.out.1 e).2.1)
      clear e1
      go_enter Try.func94, Try.ntmps94
      go_wp2_with fail
      rw [← HY.out]
      refine (slicesEqual_bools _ _ A.ac B.ac _ (HA1.out.since hs0) (HB1.out.since hs0) (by omega) (by omega)).mono ?_
      rintro e w1 ⟨rfl, hs1⟩
      rw [D1.out]
      have hs01 := hs0.trans hs1
      go_wp2
      go_ret
      exact ⟨ret_bool HD.out.symm, hs01⟩
  · have d0 : (A.st == B.st) = false := by simpa using e0
    have HD : Hid (decide (A = B) = false) := decide_eq_false (fun e => e0 (HQ.out.1 e).1)
    clear e0
    go_enter Try.func94, Try.ntmps94
    go_wp2
    rw [← HY.out]
    go_ret
    exact ⟨ret_bool HD.out.symm, hs0⟩
set_option maxHeartbeats 2000000 in
set_option maxRecDepth 100000 in
theorem specEA_any (a b : Value) (A B : Aut) (w : World) (ha : AutAt w a A) (hb : AutAt w b B) (g : BgA A) (h : BgA B) :
    Calls Try.prog 93 #[a, b] w fun e w' => e = .returned (.bool (decide (A = B))) ∧ Since w w' := by
  obtain ⟨a1, a2, rfl, _, ha1, ha2⟩ := ha
  obtain ⟨b1, b2, rfl, _, hb1, hb2⟩ := hb
  have HA1 := Lib.hid ha1
  have HA2 := Lib.hid ha2
  have HB1 := Lib.hid hb1
  have HB2 := Lib.hid hb2
  clear ha1 ha2 hb1 hb2
  obtain ⟨ao1, ac1, rfl, CA1⟩ := HA1.out
  obtain ⟨ao2, ac2, rfl, CA2⟩ := HA2.out
  obtain ⟨bo1, bc1, rfl, CB1⟩ := HB1.out
  obtain ⟨bo2, bc2, rfl, CB2⟩ := HB2.out
  clear HA1 HA2 HB1 HB2
  obtain ⟨g1, g2, g3⟩ := g
  obtain ⟨h1, h2, h3⟩ := h
  have GX : Hid (∀ i (h : i < A.nx.length), (A.nx[i]).length ≤ 4611686018427387904) := fun i h => by have := totS_get A.nx i h; omega
  have HX : Hid (∀ i (h : i < B.nx.length), (B.nx[i]).length ≤ 4611686018427387904) := fun i h => by have := totS_get B.nx i h; omega
  obtain ⟨n, hn⟩ : ∃ n, n = A.ac.length := ⟨_, rfl⟩
  obtain ⟨m, hm⟩ : ∃ n, n = A.nx.length := ⟨_, rfl⟩
  obtain ⟨n2, hn2⟩ : ∃ n, n = B.ac.length := ⟨_, rfl⟩
  obtain ⟨m2, hm2⟩ : ∃ n, n = B.nx.length := ⟨_, rfl⟩
  rw [← hn, ← hm, ← hn2, ← hm2]
  rw [← hn] at g1
  rw [← hm] at g2
  rw [← hn2] at h1
  rw [← hm2] at h2
  clear g3 h3
  have HN := Lib.hid hn
  have HM := Lib.hid hm
  have HN2 := Lib.hid hn2
  have HM2 := Lib.hid hm2
  clear hn hm hn2 hm2
  obtain ⟨y, hy⟩ : ∃ y, y = ((w.alloc (.cells #[.int .i64 A.st, .slice ao1 n ac1, .slice ao2 m ac2] 27)).alloc (.cells #[.int .i64 B.st, .slice bo1 n2 bc1, .slice bo2 m2 bc2] 27)) := ⟨_, rfl⟩
  have hs0 : Since w y := by rw [hy]; exact ((Since.refl w).alloc _).alloc _
  have B0 : Hid (Blk y w.heap.size 27 #[.int .i64 A.st, .slice ao1 n ac1, .slice ao2 m ac2]) := by rw [hy]; exact (Blk.new rfl _ _).alloc _
  have B1 : Hid (Blk y (w.heap.size + 1) 27 #[.int .i64 B.st, .slice bo1 n2 bc1, .slice bo2 m2 bc2]) := by rw [hy]; exact Blk.new (by simp) _ _
  have HY := Lib.hid hy
  clear hy
  have HQ := Lib.hid (Aut.eq_iff A B)
  by_cases e0 : A.st = B.st
  · have d0 : (A.st != B.st) = false := by simp [e0]
    have E0 := Lib.hid e0
    clear e0
    by_cases e1 : n = n2
    · subst e1
      have d1 : ((n : Int) != (n : Int)) = false := by simp
      by_cases e2 : m = m2
      · subst e2
        have d2 : ((m : Int) != (m : Int)) = false := by simp
        go_enter Try.func93, Try.ntmps93
        go_wp2
        rw [← HY.out]
        go_loopw [5] (fun i wr => ∃ k : Nat, k ≤ n ∧ i = .int .i64 k ∧ Hid (A.ac.take k = B.ac.take k) ∧ Hid (Since y wr)) (fun i _ => n - (intOf i).toNat)
        case atStart => exact ⟨0, Nat.zero_le _, rfl, rfl, Since.refl _⟩
        case round =>
          obtain ⟨k, hk, rfl, HT, HS⟩ := hrel
          have HW : Hid (Since w wr) := hs0.trans HS.out
          obtain ⟨⟨p0, p1, p2⟩, _⟩ := (B0.out.since HS.out).threeA
          obtain ⟨⟨q0, q1, q2⟩, _⟩ := (B1.out.since HS.out).threeA
          by_cases hlt : k < n
          · have hx : k < A.ac.length := by have := HN.out; omega
            have hy : k < B.ac.length := by have := HN2.out; omega
            obtain ⟨b1, off1, rfl, hb1, c1⟩ := CA1.out k hx
            obtain ⟨b2, off2, rfl, hb2, c2⟩ := CB1.out k hy
            have h1 : wr.cell? ⟨b1, off1 + k, none⟩ = some (.bool A.ac[k]) := (Below.cell HW.out (p := ⟨b1, off1 + k, none⟩) hb1).trans c1
            have h2 : wr.cell? ⟨b2, off2 + k, none⟩ = some (.bool B.ac[k]) := (Below.cell HW.out (p := ⟨b2, off2 + k, none⟩) hb2).trans c2
            clear c1 c2
            have hki : (k : Int) < (n : Int) := by omega
            have hk0 : (0 : Int) ≤ (k : Int) := by omega
            by_cases he : A.ac[k] = B.ac[k]
            · have HE : Hid (A.ac.take (k + 1) = B.ac.take (k + 1)) := take_eq_stepB k hx hy HT.out he
              rw [← he] at h2
              have hb0 : (A.ac[k] != A.ac[k]) = false := by simp
              clear he
              go_wp2
              go_quiet (fail)
              go_wp2
              go_roundw
              case rel => exact ⟨k + 1, by omega, by go_num, HE, HS.out.drewN _⟩
              case measure => simp [intOf]; omega
            · have HE : Hid (decide (A = B) = false) := by
                unfold Hid
                refine decide_eq_false ?_
                intro e; subst e; exact he rfl
              have hxy : (A.ac[k] = true ∧ B.ac[k] = false) ∨ (A.ac[k] = false ∧ B.ac[k] = true) := by
                cases e1 : A.ac[k] <;> cases e2 : B.ac[k] <;> simp_all
              clear he
              rcases hxy with ⟨e1, e2⟩ | ⟨e1, e2⟩
              all_goals
                rw [e1] at h1
                rw [e2] at h2
                clear e1 e2
                go_wp2
                go_quiet (fail)
                go_wp2
                go_ret
                exact ⟨ret_bool HE.out.symm, HW.out.drewN _⟩
          · obtain rfl : k = n := by omega
            have HE1 : Hid (A.ac = B.ac) := by
              have := HT.out
              rw [List.take_of_length_le (by have := HN.out; omega), List.take_of_length_le (by have := HN2.out; omega)] at this
              exact this
            have B2 := Lib.hid (B0.out.since HS.out)
            have B3 := Lib.hid (B1.out.since HS.out)
            clear HT
            go_wp2
            clear p0 p1 p2 q0 q1 q2
            go_loopw [6] (fun i wz => ∃ j : Nat, j ≤ m ∧ i = .int .i64 j ∧ Hid (A.nx.take j = B.nx.take j) ∧ Hid (Since wr wz)) (fun i _ => m - (intOf i).toNat)
            case atStart => exact ⟨0, Nat.zero_le _, rfl, rfl, Since.refl _⟩
            case round =>
              obtain ⟨j, hj, rfl, HT, HS2⟩ := hrel
              rename_i wz
              have HW2 := Lib.hid (HW.out.trans HS2.out)
              obtain ⟨⟨p0, p1, p2⟩, _⟩ := (B2.out.since HS2.out).threeA
              obtain ⟨⟨q0, q1, q2⟩, _⟩ := (B3.out.since HS2.out).threeA
              by_cases hjt : j < m
              · have hx : j < A.nx.length := by have := HM.out; omega
                have hy : j < B.nx.length := by have := HM2.out; omega
                obtain ⟨b1, off1, u1, rfl, hb1, c1, g4⟩ := CA2.out j hx
                obtain ⟨b2, off2, u2, rfl, hb2, c2, g5⟩ := CB2.out j hy
                obtain ⟨vo1, vc1, rfl, _⟩ := g4.row
                obtain ⟨vo2, vc2, rfl, _⟩ := g5.row
                have h1 := (Below.cell HW2.out (p := ⟨b1, off1 + j, none⟩) hb1).trans c1
                have h2 := (Below.cell HW2.out (p := ⟨b2, off2 + j, none⟩) hb2).trans c2
                have G1 := Lib.hid (g4.since HW2.out)
                have G2 := Lib.hid (g5.since HW2.out)
                clear c1 c2 g4 g5
                have hki : (j : Int) < (m : Int) := by omega
                have hk0 : (0 : Int) ≤ (j : Int) := by omega
                go_wp2
                by_cases he : A.nx[j] = B.nx[j]
                · have HE : Hid (A.nx.take (j + 1) = B.nx.take (j + 1)) := take_eq_stepS j hx hy HT.out he
                  have HD : Hid (lexC A.nx[j] B.nx[j] = 0) := by rw [he]; exact lexC_self _
                  clear he
                  go_still_tail 10, (by kernel_rfl)
                  go_wp2_with fail
                  refine (l2Cmp_any _ _ A.nx[j] B.nx[j] _ (G1.out.since (Since.refl _).drew) (G2.out.since (Since.refl _).drew) (GX.out j hx) (HX.out j hy)).mono ?_
                  rintro e w1 ⟨rfl, hs1⟩
                  rw [HD.out]
                  have HS3 := Lib.hid (HS2.out.trans (Since.of_drew hs1))
                  go_wp2
                  go_roundw
                  case rel => exact ⟨j + 1, by omega, by go_num, HE, HS3.out⟩
                  case measure => simp [intOf]; omega
                · have HE : Hid (decide (A = B) = false) := by
                    unfold Hid
                    refine decide_eq_false ?_
                    intro e; subst e; exact he rfl
                  have HD : ∃ z, z = lexC A.nx[j] B.nx[j] := ⟨_, rfl⟩
                  obtain ⟨z, hz⟩ := HD
                  have hz0 : (z != 0) = true := by
                    simp
                    intro e; rw [e] at hz; exact he (lexC_zero hz.symm)
                  have HZ := Lib.hid hz
                  clear he hz
                  go_still_tail 10, (by kernel_rfl)
                  go_wp2_with fail
                  refine (l2Cmp_any _ _ A.nx[j] B.nx[j] _ (G1.out.since (Since.refl _).drew) (G2.out.since (Since.refl _).drew) (GX.out j hx) (HX.out j hy)).mono ?_
                  rintro e w1 ⟨rfl, hs1⟩
                  rw [← HZ.out]
                  have HS3 := Lib.hid (HW2.out.trans (Since.of_drew hs1))
                  go_wp2
                  go_ret
                  exact ⟨ret_bool HE.out.symm, HS3.out⟩
              · obtain rfl : j = m := by omega
                have HD : Hid (decide (A = B) = true) := by
                  have := HT.out
                  rw [List.take_of_length_le (by have := HM.out; omega), List.take_of_length_le (by have := HM2.out; omega)] at this
                  exact decide_eq_true (HQ.out.2 ⟨E0.out, HE1.out, this⟩)
                go_wp2
                go_ret
                exact ⟨ret_bool HD.out.symm, HW2.out⟩
      · have d2 : ((m : Int) != (m2 : Int)) = true := by simp; omega
        have HD : Hid (decide (A = B) = false) := decide_eq_false (fun e => e2 (by have h1 := HM.out; have h2 := HM2.out; rw [h1, h2, e]))
        clear e2
        go_enter Try.func93, Try.ntmps93
        go_wp2
        rw [← HY.out]
        go_ret
        exact ⟨ret_bool HD.out.symm, hs0⟩
    · have d1 : ((n : Int) != (n2 : Int)) = true := by simp; omega
      have HD : Hid (decide (A = B) = false) := decide_eq_false (fun e => e1 (by have h1 := HN.out; have h2 := HN2.out; rw [h1, h2, e]))
      clear e1
      go_enter Try.func93, Try.ntmps93
      go_wp2
      rw [← HY.out]
      go_ret
      exact ⟨ret_bool HD.out.symm, hs0⟩
  · have d0 : (A.st != B.st) = true := by simpa using e0
    have HD : Hid (decide (A = B) = false) := decide_eq_false (fun e => e0 (HQ.out.1 e).1)
    clear e0
    go_enter Try.func93, Try.ntmps93
    go_wp2
    rw [← HY.out]
    go_ret
    exact ⟨ret_bool HD.out.symm, hs0⟩
end Go.Proofs.Ytcokggjekleabaa
