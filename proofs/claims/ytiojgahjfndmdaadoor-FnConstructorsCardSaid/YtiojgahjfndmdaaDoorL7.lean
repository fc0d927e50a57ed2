/- HasI, Same, Al, Near: small words and contracts that the other texts use. -/
import Derived.Test.YtiojgahjfndmdaaDoorK0
import Derived.Test.YtiojgahjfndmdaaDoorK1
import Derived.Test.YtiojgahjfndmdaaDoorL0
import Derived.Test.YtiojgahjfndmdaaDoorIx
import Derived.Deep.DeepCutAuto
import Derived.Test.YtiojgahjfndmdaaDoorDrawY
import Derived.Test.YtiojgahjfndmdaaDoorDraw2
/- The laws' has. -/
namespace Go.Proofs.YtiojgahjfndmdaaDoor
set_option maxRecDepth 100000
open Go.ChangeShapes Go.WideShapes Go.ChangeAt Go.RowKit
set_option linter.unusedVariables false
set_option linter.unusedSimpArgs false

set_option maxRecDepth 100000 in
theorem hasI_any (v : Value) (xs : List Int) (y : Int) (w : World) (h : IntsAt w v xs) (hl : xs.length ≤ 1048577) :
    Calls Tryd.prog 34 #[v, .int .i64 y] w fun e w' => e = .returned (.bool (decide (y ∈ xs))) ∧ w = w' := by
  obtain ⟨ao, ac, rfl, HX⟩ := h.row
  obtain ⟨n, hn⟩ : ∃ n, n = xs.length := ⟨_, rfl⟩
  have HN := Lib.hid hn
  rw [← hn]
  have hn9 : n ≤ 1048577 := by omega
  clear hn h
  go_enter Tryd.func34, Tryd.ntmps34
  go_wp2_with fail
  go_loopw [5] (fun i wr => ∃ k : Nat, k ≤ n ∧ i = .int .i64 k ∧ wr = w ∧ Hid (y ∉ xs.take k)) (fun i _ => n - (intOf i).toNat)
  case atStart => exact ⟨0, Nat.zero_le _, rfl, rfl, by unfold Hid; simp⟩
  case round =>
    obtain ⟨k, hk, rfl, rfl, HK⟩ := hrel
    by_cases hlt : k < n
    · have hx : k < xs.length := by have := HN.out; omega
      obtain ⟨b, off, rfl, _, hc⟩ := HX.out k hx
      by_cases he : xs[k] = y
      · have hD : Hid (decide (y ∈ xs) = true) := decide_eq_true (by rw [← he]; exact List.getElem_mem hx)
        rw [he] at hc
        clear he
        go_wp2
        go_ret
        exact ⟨ret_bool hD.out.symm, rfl⟩
      · have e : (xs[k] == y) = false := by simpa using he
        have HK2 : Hid (y ∉ xs.take (k + 1)) := by
          unfold Hid
          rw [List.take_succ_eq_append_getElem hx, List.mem_append, List.mem_singleton]
          rintro (h | h)
          · exact HK.out h
          · exact he h.symm
        clear he HK
        generalize xs[k] = z at hc e
        go_wp2
        go_roundw
        case rel => exact ⟨k + 1, by omega, by go_num, trivial, HK2⟩
        case measure => simp [intOf]; omega
    · obtain rfl : k = n := by omega
      have HD : Hid (decide (y ∈ xs) = false) := by
        have := HK.out
        rw [List.take_of_length_le (by have := HN.out; omega)] at this
        exact decide_eq_false this
      go_wp2
      go_ret
      exact ⟨ret_bool HD.out.symm, rfl⟩
end Go.Proofs.YtiojgahjfndmdaaDoor

/- The laws' sameInts. -/
namespace Go.Proofs.YtiojgahjfndmdaaDoor
set_option maxRecDepth 100000
open Go.ChangeShapes Go.WideShapes Go.ChangeAt Go.RowKit

set_option maxRecDepth 100000 in
theorem sameInts_any (a b : Value) (xs ys : List Int) (w : World) (ha : IntsAt w a xs) (hb : IntsAt w b ys) (hl : xs.length ≤ 4611686018427387904) (hl2 : ys.length ≤ 4611686018427387904) :
    Calls Tryd.prog 36 #[a, b] w fun e w' => e = .returned (.bool (decide (xs = ys))) ∧ Since w w' := by
  by_cases hlen : xs.length = ys.length
  · obtain ⟨_, ⟨rfl, ao, cap, rfl⟩ | ⟨b1, off1, cap1, rfl, hb1, hc1⟩⟩ := ha
    · obtain rfl : ys = [] := List.eq_nil_of_length_eq_zero hlen.symm
      obtain ⟨_, ⟨_, ao2, cap2, rfl⟩ | ⟨b2, off2, cap2, rfl, hb2, hc2⟩⟩ := hb
      all_goals
        go_enter Tryd.func36, Tryd.ntmps36
        go_wp2
        go_loopw [5] (fun i wr => i = .int .i64 0 ∧ wr = w) (fun _ _ => 0)
        case atStart => exact ⟨rfl, rfl⟩
        case round =>
          obtain ⟨rfl, rfl⟩ := hrel
          go_wp2
          go_ret
          exact ⟨by simp, Since.refl _⟩
    · obtain ⟨_, ⟨rfl, ao2, cap2, rfl⟩ | ⟨b2, off2, cap2, rfl, hb2, hc2⟩⟩ := hb
      · obtain rfl : xs = [] := List.eq_nil_of_length_eq_zero hlen
        go_enter Tryd.func36, Tryd.ntmps36
        go_wp2
        go_loopw [5] (fun i wr => i = .int .i64 0 ∧ wr = w) (fun _ _ => 0)
        case atStart => exact ⟨rfl, rfl⟩
        case round =>
          obtain ⟨rfl, rfl⟩ := hrel
          go_wp2
          go_ret
          exact ⟨by simp, Since.refl _⟩
      · have HC1 := Lib.hid hc1
        have HC2 := Lib.hid hc2
        clear hc1 hc2
        rw [← hlen]
        obtain ⟨n, hn⟩ : ∃ n, n = xs.length := ⟨_, rfl⟩
        rw [← hn]
        have hn9 : n ≤ 4611686018427387904 := by omega
        have HN := Lib.hid hn
        have HN2 : Hid (n = ys.length) := by rw [hn]; exact hlen
        have HNE : (((n : Nat) : Int) != ((n : Nat) : Int)) = false := by simp
        clear hn hlen hl hl2
        go_enter Tryd.func36, Tryd.ntmps36
        go_wp2
        go_loopw [5] (fun i wr => ∃ k : Nat, k ≤ n ∧ i = .int .i64 k ∧ Hid (xs.take k = ys.take k) ∧ Since w wr) (fun i _ => n - (intOf i).toNat)
        case atStart => exact ⟨0, Nat.zero_le _, rfl, rfl, Since.refl w⟩
        case round =>
          obtain ⟨k, hk, rfl, HT, hsin⟩ := hrel
          by_cases hlt : k < n
          · have hx : k < xs.length := by have := HN.out; omega
            have hy : k < ys.length := by have := HN2.out; omega
            have h1 : wr.cell? ⟨b1, off1 + k, none⟩ = some (.int .i64 xs[k]) := (Below.cell hsin (p := ⟨b1, off1 + k, none⟩) hb1).trans (HC1.out k hx)
            have h2 : wr.cell? ⟨b2, off2 + k, none⟩ = some (.int .i64 ys[k]) := (Below.cell hsin (p := ⟨b2, off2 + k, none⟩) hb2).trans (HC2.out k hy)
            have hki : (k : Int) < (n : Int) := by omega
            have hk0 : (0 : Int) ≤ (k : Int) := by omega
            by_cases he : xs[k] = ys[k]
            · have HE : Hid (xs.take (k + 1) = ys.take (k + 1)) := take_eq_step k hx hy HT.out he
              rw [← he] at h2
              have hb0 : (xs[k] != xs[k]) = false := by simp
              clear he
              go_wp2
              go_quiet (fail)
              go_wp2
              go_roundw
              case rel => exact ⟨k + 1, by omega, by go_num, HE, hsin.drewN _⟩
              case measure => simp [intOf]; omega
            · have HE : Hid (decide (xs = ys) = false) := by unfold Hid; simpa using ne_of_at k hx hy he
              have hb0 : (xs[k] != ys[k]) = true := by simpa using he
              clear he
              go_wp2
              go_quiet (fail)
              go_wp2
              go_ret
              exact ⟨ret_bool HE.out.symm, hsin.drewN _⟩
          · obtain rfl : k = n := by omega
            have HE : Hid (decide (xs = ys) = true) := by
              have := HT.out
              rw [List.take_of_length_le (by have := HN.out; omega), List.take_of_length_le (by have := HN2.out; omega)] at this
              unfold Hid; simpa using this
            go_wp2
            go_ret
            exact ⟨ret_bool HE.out.symm, hsin⟩
  · have HE : Hid (decide (xs = ys) = false) := by unfold Hid; simp; intro e; rw [e] at hlen; exact hlen rfl
    have hne : ((xs.length : Int) != (ys.length : Int)) = true := by simp; omega
    have va : ∃ ao c, a = .slice ao xs.length c := by
      obtain ⟨_, ⟨rfl, ao, cap, rfl⟩ | ⟨b1, off1, cap1, rfl, hb1, hc1⟩⟩ := ha
      · exact ⟨_, _, rfl⟩
      · exact ⟨_, _, rfl⟩
    have vb : ∃ ao c, b = .slice ao ys.length c := by
      obtain ⟨_, ⟨rfl, ao, cap, rfl⟩ | ⟨b1, off1, cap1, rfl, hb1, hc1⟩⟩ := hb
      · exact ⟨_, _, rfl⟩
      · exact ⟨_, _, rfl⟩
    obtain ⟨ao, c, rfl⟩ := va
    obtain ⟨ao2, c2, rfl⟩ := vb
    obtain ⟨n, hn⟩ : ∃ n, n = xs.length := ⟨_, rfl⟩
    obtain ⟨m, hm⟩ : ∃ m, m = ys.length := ⟨_, rfl⟩
    rw [← hn, ← hm] at hne ⊢
    have hn9 : n ≤ 4611686018427387904 := by omega
    have hm9 : m ≤ 4611686018427387904 := by omega
    clear hn hm ha hb hlen hl hl2
    go_enter Tryd.func36, Tryd.ntmps36
    go_wp2
    go_ret
    exact ⟨ret_bool HE.out.symm, Since.refl _⟩

end Go.Proofs.YtiojgahjfndmdaaDoor

/- Alphabet, the model's and the program's. -/
namespace Go.Proofs.YtiojgahjfndmdaaDoor
set_option maxRecDepth 100000
open Go.ChangeShapes Go.WideShapes Go.ChangeAt Go.RowKit
set_option linter.unusedVariables false
set_option linter.unusedSimpArgs false

/-- append of one int onto ints of the call's own. -/
theorem wpList_append_one {w wr : World} {ops : Array Oper} {rest : List Oper} {o : Oper} {a : Act} {Q : Exit → Act → World → Prop} (hgd : o.guard = none) (s x : Operand)
    (ho : o.op = .call { callee := .builtin .append, args := #[s, x], argTypes := #[33, 33] }) (v : Value) (xs : List Int) (hs : a.eval s = v) (hown : Own w.heap.size wr v xs)
    (z : Int) (hx : a.eval x = .slice (some ⟨wr.heap.size, 0, none⟩) 1 1) (hz : InI z) (hlen : xs.length ≤ 4194304) (hsin : Since w wr)
    (h : ∀ v' w', Own w.heap.size w' v' (xs ++ [z]) → Since w w' → wpList Tryd.prog ops Q rest (a.put o.dst v') w') : wpList Tryd.prog ops Q (o :: rest) a (wr.alloc (.cells #[.int .i64 z] 3)) := by
  obtain ⟨i0, hi, hz0, hz1, hz2⟩ := info_parts info_int
  have hown' : Own w.heap.size (wr.alloc (.cells #[.int .i64 z] 3)) v xs := hown.since ((Since.refl wr).alloc _)
  have hB : Blk (wr.alloc (.cells #[.int .i64 z] 3)) wr.heap.size 3 #[.int .i64 z] := Blk.new rfl _ _
  refine wpList_append_own _ hgd s x 33 ho w.heap.size 3 i0 (.int .i64 0) 1 8 Tryd.underlying33 hi hz0 hz1 hz2 rfl (by decide) v xs.length (xs.map icell) hs hown'.2 ⟨wr.heap.size, 0, none⟩ 1 1 [icell z] hx rfl ?_ (by intro u hu; simp at hu; subst hu; rfl) (by unfold maxLen; omega) (by omega) (hsin.alloc _).size ?_
  · intro j u hj
    rw [add_plain, Nat.zero_add, hB.cell, ← hj, ← Array.getElem?_toList]; rfl
  · intro v' w' h1 h2 _
    refine h v' w' ⟨fun y hy => ?_, ?_⟩ ((hsin.alloc _).grown h2 fun k hk => (hown'.2.lt k hk).1)
    · rcases List.mem_append.1 hy with hy | hy
      · exact hown.1 y hy
      · simp at hy; subst hy; exact hz
    · rw [List.length_append, List.map_append]
      exact h1
theorem own_none (w w1 : World) (h : Since w w1) (b : Nat) (hb : b = w1.heap.size) : Own w.heap.size (w1.alloc (.cells #[] 3)) (.slice (some ⟨b, 0, none⟩) 0 0) [] := by
  subst hb; exact ⟨fun x hx => by simp at hx, World.ownsRow_lit w1 #[] 0 h.size (by unfold maxLen; omega) rfl⟩
theorem own_nil0 (base : Nat) (w : World) : Own base w (.slice none 0 0) [] := ⟨fun x hx => by simp at hx, World.ownsRow_nil _ _ _ _⟩
theorem and_one1 (M k : Nat) (hM : M < 9223372036854775808) : bits .and .i64 ((M : Int) / 2 ^ k) 1 = ((M / 2 ^ k % 2 : Nat) : Int) := by
  have e : ((M : Int) / 2 ^ k) = ((M / 2 ^ k : Nat) : Int) := by rw [Int.natCast_ediv, Int.natCast_pow]; rfl
  have hle : M / 2 ^ k ≤ M := Nat.div_le_self _ _
  rw [e]
  have := i64_and_nat (M / 2 ^ k) 1 (by omega) (by omega)
  rw [Nat.and_one_is_mod] at this
  simpa using this
theorem bit_test1 (M k : Nat) (hM : M < 9223372036854775808) : (bits .and .i64 ((M : Int) / 2 ^ k) 1 == 1) = M.testBit k := by
  rw [and_one1 M k hM, Nat.testBit_eq_decide_div_mod_eq, Bool.eq_iff_iff]
  simp only [beq_iff_eq, decide_eq_true_eq]
  omega
theorem or_pow (M d : Nat) (hM : M < 1024) (hd : d < 10) : bits .or .i64 (M : Int) (2 ^ d) = ((M ||| 2 ^ d : Nat) : Int) := by
  have hp : (2 : Nat) ^ d < 2 ^ 10 := Nat.pow_lt_pow_right (by omega) hd
  have := i64_or_nat M (2 ^ d) (by omega) (by omega)
  rw [Int.natCast_pow] at this
  exact this
theorem wrap_pow (d : Nat) (hd : d < 10) : wrap64 (2 ^ d : Int) = 2 ^ d := by
  have hp : (2 : Nat) ^ d < 2 ^ 10 := Nat.pow_lt_pow_right (by omega) hd
  have e : ((2 : Int) ^ d) = ((2 ^ d : Nat) : Int) := by rw [Int.natCast_pow]; rfl
  rw [e]
  generalize (2 : Nat) ^ d = p at hp
  exact IntWalk.wrap64_in _ (by omega)
set_option maxRecDepth 100000 in
theorem l4SetB_any (M : Nat) (zs : List Int) (w : World) (hM : M < 1024) (hz : ∀ i : Nat, M.testBit i = decide ((i : Int) ∈ zs)) :
    Calls Tryd.prog 93 #[.int .i64 (M : Int)] w (OwnOut w (alT zs 30)) := by
  have HZ := Lib.hid hz
  clear hz
  have hnil : Own w.heap.size (w.alloc (.cells #[] 3)) (.slice (some ⟨w.heap.size, 0, none⟩) 0 0) [] := own_none w w (Since.refl w) w.heap.size rfl
  have hs0 := (Since.refl w).alloc (.cells #[] 3)
  go_enter Tryd.func93, Tryd.ntmps93
  go_wp2
  go_loopw [3, 4] (fun out i wr => ∃ k : Nat, k ≤ 30 ∧ i = .int .i64 k ∧ Hid (Own w.heap.size wr out (alT zs k)) ∧ Since w wr) (fun _ i _ => 30 - (intOf i).toNat)
  case atStart => exact ⟨0, Nat.zero_le _, rfl, hnil, hs0⟩
  case round =>
    obtain ⟨k, hk, rfl, HOw, hsw⟩ := hrel
    by_cases hlt : k < 30
    · have hlen : (alT zs k).length ≤ 4194304 := by have := alT_len zs k; omega
      have HLN := Lib.hid hlen
      have HS := Lib.hid (alT_succ zs k)
      have hzin : InI (k : Int) := by unfold InI; omega
      clear hlen
      by_cases hm : (k : Int) ∈ zs
      · have hb : (bits .and .i64 ((M : Int) / 2 ^ k) 1 == 1) = true := by rw [bit_test1 M k (by omega), HZ.out k]; simpa using hm
        have HP : Hid (alT zs (k + 1) = alT zs k ++ [(k : Int)]) := by unfold Hid; rw [HS.out, if_pos hm]
        clear hm
        go_wp2_with (at_builtin; go_must (refine wpList_append_one rfl (.tmp 15) (.tmp 17) rfl _ (alT zs k) (by first | rfl | simp [Act.eval]) HOw.out (k : Int) (by first | rfl | simp [Act.eval]) hzin HLN.out hsw ?_); intro v2 w2 ho2 hs2; have HO2 := Lib.hid ho2; clear ho2)
        go_roundw
        case rel => exact ⟨k + 1, by omega, by go_num, (by rw [HP.out]; exact HO2.out), hs2⟩
        case measure => simp [intOf]; omega
      · have hb : (bits .and .i64 ((M : Int) / 2 ^ k) 1 == 1) = false := by rw [bit_test1 M k (by omega), HZ.out k]; simpa using hm
        have HP : Hid (alT zs (k + 1) = alT zs k) := by unfold Hid; rw [HS.out, if_neg hm, List.append_nil]
        clear hm
        go_wp2
        go_roundw
        case rel => exact ⟨k + 1, by omega, by go_num, (by rw [HP.out]; exact HOw.out), hsw⟩
        case measure => simp [intOf]; omega
    · obtain rfl : k = 30 := by omega
      have HO : Hid (Own w.heap.size wr u3 (alT zs 30)) := HOw.out
      clear HOw
      go_wp2
      go_ret
      exact ⟨_, rfl, HO.out, hsw⟩
set_option maxHeartbeats 2000000 in
set_option maxRecDepth 100000 in
theorem specAL_any (v : Value) (xs : List Tok) (w : World) (h : ExAt w v xs) (hl : xs.length ≤ 1048577) :
    Calls Tryd.prog 53 #[v] w (OwnOut w (alX xs)) := by
  obtain ⟨a, rfl, ha⟩ := h
  have HA := Lib.hid ha
  obtain ⟨ao, ac, rfl, HC⟩ := ha.row
  clear ha
  obtain ⟨n, hn⟩ : ∃ n, n = xs.length := ⟨_, rfl⟩
  rw [← hn] at HA ⊢
  have HN := Lib.hid hn
  have hn9 : n ≤ 1048577 := by omega
  clear hn
  obtain ⟨y, hy⟩ : ∃ y, y = w.alloc (.cells #[.slice ao n ac] 26) := ⟨_, rfl⟩
  have hsy : Since w y := by rw [hy]; exact (Since.refl w).alloc _
  have BE : Hid (Blk y w.heap.size 26 #[.slice ao n ac]) := by rw [hy]; exact Blk.new rfl _ _
  have HY := Lib.hid hy
  clear hy
  cases hb : isXB xs with
  | false =>
    have HAL : Hid (alX xs = alT [] 30) := by unfold Hid alX; rw [hb]; rfl
    have HB := Lib.hid hb
    clear hb
    go_enter Tryd.func53, Tryd.ntmps53
    go_wp2_with fail
    rw [← HY.out]
    go_loopw [3, 4] (fun m i wr => i = .int .i64 0 ∧ m = .int .i64 0 ∧ Hid (Since y wr)) (fun _ i _ => 0)
    case atStart => exact ⟨rfl, rfl, Since.refl _⟩
    case round =>
      obtain ⟨rfl, rfl, HW⟩ := hrel
      have hw0 := HW.out
      clear HW
      obtain ⟨p0, p1⟩ := (BE.out.since hw0).one
      have HFIN : Hid (∀ W, Since y W → Calls Tryd.prog 93 #[.int .i64 0] W (OwnOut W (alT [] 30))) := fun W _ => l4SetB_any 0 [] W (by omega) (fun i => by simp)
      by_cases hlt : 0 < n
      · have hlti : (0 : Int) < (n : Int) := by omega
        go_wp2_with fail
        clear p0 p1
        refine (specIX_any _ xs _ ⟨_, rfl, HA.out.since (hsy.trans hw0)⟩ hl).mono ?_
        rintro e w2 ⟨rfl, hs2⟩
        rw [HB.out]
        have h2 := hw0.trans hs2
        go_wp2_with fail
        refine (HFIN.out _ h2).mono ?_
        rintro e w3 ⟨v3, rfl, ho3, hs3⟩
        have HO := Lib.hid (ho3.mono (hsy.trans h2).size)
        have h03 := (hsy.trans h2).trans hs3
        clear ho3
        go_wp2
        go_ret
        exact ⟨_, rfl, by rw [HAL.out]; exact HO.out, h03⟩
      · obtain rfl : n = 0 := by omega
        go_wp2_with fail
        clear p0 p1
        refine (HFIN.out _ hw0).mono ?_
        rintro e w3 ⟨v3, rfl, ho3, hs3⟩
        have HO := Lib.hid (ho3.mono (hsy.trans hw0).size)
        have h03 := (hsy.trans hw0).trans hs3
        clear ho3
        go_wp2
        go_ret
        exact ⟨_, rfl, by rw [HAL.out]; exact HO.out, h03⟩
  | true =>
    have hok := isXB_okT hb
    have HOK := Lib.hid hok
    have HAL : Hid (alX xs = alT (ltrs xs) 30) := by
      unfold Hid alX; rw [if_pos hb]
      exact (alT_stop (n := 9) (fun z hz => by have := ltrs_small hok z hz; omega) 30 (by omega)).symm
    have HB := Lib.hid hb
    have hmt : ∀ k, mskX (xs.take k) < 512 := fun k => mskX_lt _ (fun t ht => hok t (List.mem_of_mem_take ht))
    have HMT := Lib.hid hmt
    clear hb hok hmt
    go_enter Tryd.func53, Tryd.ntmps53
    go_wp2_with fail
    rw [← HY.out]
    go_loopw [3, 4] (fun m i wr => ∃ k : Nat, k ≤ n ∧ i = .int .i64 k ∧ m = .int .i64 ((mskX (xs.take k) : Nat) : Int) ∧ Hid (Since y wr)) (fun _ i _ => n - (intOf i).toNat)
    case atStart => exact ⟨0, Nat.zero_le _, rfl, rfl, Since.refl _⟩
    case round =>
      obtain ⟨k, hk, rfl, rfl, HW⟩ := hrel
      have hw0 := HW.out
      clear HW
      obtain ⟨p0, p1⟩ := (BE.out.since hw0).one
      by_cases hlt : k < n
      · have hx : k < xs.length := by have := HN.out; omega
        obtain ⟨b, off, rfl, hbb, c0, c1, c2, c3⟩ := HC.out k hx
        have hki : (k : Int) < (n : Int) := by omega
        have hk0 : (0 : Int) ≤ (k : Int) := by omega
        have HTK := Lib.hid (List.take_succ_eq_append_getElem hx)
        have HOT := Lib.hid (HOK.out xs[k] (List.getElem_mem hx))
        have hM := HMT.out k
        obtain ⟨t, ht⟩ : ∃ t, t = xs[k] := ⟨_, rfl⟩
        rw [← ht] at c0 c1 c2 c3 HTK HOT
        have HMS : Hid (mskX (xs.take (k + 1)) = if t.kd = 3 then mskX (xs.take k) ||| 2 ^ t.lr.toNat else mskX (xs.take k)) := by unfold Hid; rw [HTK.out, mskX_snoc]
        clear ht
        obtain ⟨M, hMM⟩ : ∃ M, M = mskX (xs.take k) := ⟨_, rfl⟩
        rw [← hMM] at hM HMS ⊢
        clear hMM
        have CK := Lib.hid (And.intro c0 c1)
        clear c0 c1 c2 c3
        go_wp2_with fail
        clear p0 p1
        refine (specIX_any _ xs _ ⟨_, rfl, HA.out.since (hsy.trans hw0)⟩ hl).mono ?_
        rintro e w2 ⟨rfl, hs2⟩
        rw [HB.out]
        have h2 := hw0.trans hs2
        have s2 := since_cells (hsy.trans h2) hbb
        obtain ⟨c0, c1⟩ := CK.out
        rw [← s2] at c0 c1
        clear s2
        obtain ⟨p0, p1⟩ := (BE.out.since h2).one
        by_cases h3 : t.kd = 3
        · have hlr := okT_lr HOT.out h3
          obtain ⟨d, hd⟩ : ∃ d : Nat, t.lr = (d : Int) := ⟨t.lr.toNat, by omega⟩
          have hd9 : d < 9 := by omega
          have e3 : (t.kd == 3) = true := by simp [h3]
          have HMN : Hid (mskX (xs.take (k + 1)) = M ||| 2 ^ d) := by unfold Hid; rw [HMS.out, if_pos h3, hd]; rfl
          rw [hd] at c1
          have hor := Lib.hid (or_pow M d (by omega) (by omega))
          have hwr := Lib.hid (wrap_pow d (by omega))
          have hd0 : (0 : Int) ≤ (d : Int) := by omega
          clear h3 hd hlr
          go_wp2
          go_roundw
          case rel => exact ⟨k + 1, by omega, by go_num, (by rw [HMN.out, hwr.out, hor.out]), h2⟩
          case measure => simp [intOf]; omega
        · have e3 : (t.kd == 3) = false := by simp [h3]
          have HMN : Hid (mskX (xs.take (k + 1)) = M) := by unfold Hid; rw [HMS.out, if_neg h3]
          clear h3
          go_wp2
          go_roundw
          case rel => exact ⟨k + 1, by omega, by go_num, (by rw [HMN.out]), h2⟩
          case measure => simp [intOf]; omega
      · obtain rfl : k = n := by omega
        have HFIN : Hid (∀ W, Since y W → Calls Tryd.prog 93 #[.int .i64 ((mskX (xs.take k) : Nat) : Int)] W (OwnOut W (alT (ltrs xs) 30))) := fun W _ => l4SetB_any _ _ W (by have := HMT.out k; omega) (fun i => by rw [List.take_of_length_le (by have := HN.out; omega)]; exact mskX_bit xs HOK.out i)
        have hM := HMT.out k
        generalize mskX (xs.take k) = M at HFIN hM ⊢
        go_wp2_with fail
        clear p0 p1
        refine (HFIN.out _ hw0).mono ?_
        rintro e w3 ⟨v3, rfl, ho3, hs3⟩
        have HO := Lib.hid (ho3.mono (hsy.trans hw0).size)
        have h03 := (hsy.trans hw0).trans hs3
        clear ho3
        go_wp2
        go_ret
        exact ⟨_, rfl, by rw [HAL.out]; exact HO.out, h03⟩
theorem nine9 {k : Nat} (h : k < 9) : k = 0 ∨ k = 1 ∨ k = 2 ∨ k = 3 ∨ k = 4 ∨ k = 5 ∨ k = 6 ∨ k = 7 ∨ k = 8 := by omega
theorem index_nine (B : Nat → Bool) (k : Nat) (h : k < 9) (w : World) :
    (Instr.index 82 (.agg #[.bool (B 0), .bool (B 1), .bool (B 2), .bool (B 3), .bool (B 4), .bool (B 5), .bool (B 6), .bool (B 7), .bool (B 8)]) (.int .i64 (k : Int))).run Tryd.prog w = .ok (.bool (B k)) w := by
  rcases nine9 h with h | h | h | h | h | h | h | h | h <;> subst h <;> kernel_rfl
set_option maxHeartbeats 4000000 in
set_option maxRecDepth 100000 in
theorem implAL_any (v : Value) (xs : List Tok) (w : World) (hf : Forms w) (h : ExAt w v xs) (hl : xs.length ≤ 1048577) :
    Calls Tryd.prog 35 #[v] w (OwnOut w (alX xs)) := by
  obtain ⟨a, rfl, ha⟩ := h
  have HA := Lib.hid ha
  obtain ⟨ao, ac, rfl, HC⟩ := ha.row
  clear ha
  obtain ⟨n, hn⟩ : ∃ n, n = xs.length := ⟨_, rfl⟩
  rw [← hn] at HA ⊢
  have HN := Lib.hid hn
  have hn9 : n ≤ 1048577 := by omega
  clear hn
  obtain ⟨y, hy⟩ : ∃ y, y = w.alloc (.cells #[.slice ao n ac] 26) := ⟨_, rfl⟩
  have hsy : Since w y := by rw [hy]; exact (Since.refl w).alloc _
  have BE : Hid (Blk y w.heap.size 26 #[.slice ao n ac]) := by rw [hy]; exact Blk.new rfl _ _
  have HF := Lib.hid (hf.since hsy)
  have HY := Lib.hid hy
  clear hy hf
  go_enter Tryd.func35, Tryd.ntmps35
  go_wp2_with fail
  rw [← HY.out]
  refine (implIX_any _ xs _ HF.out ⟨_, rfl, HA.out.since hsy⟩ hl).mono ?_
  rintro e w1 ⟨rfl, hs1⟩
  have hyw := hsy.trans hs1
  cases hb : isXB xs with
  | false =>
    have HAL : Hid (alX xs = []) := by unfold Hid alX; rw [hb]; rfl
    clear hb
    go_wp2
    go_ret
    exact ⟨_, rfl, by rw [HAL.out]; exact own_nil0 _ _, hyw⟩
  | true =>
    have hok := isXB_okT hb
    have HOK := Lib.hid hok
    have HAL : Hid (alX xs = alT (ltrs xs) 9) := by unfold Hid alX; rw [if_pos hb]
    clear hb hok
    obtain ⟨p0, p1⟩ := (BE.out.since (hs1.alloc (.cells #[.bool false, .bool false, .bool false, .bool false, .bool false, .bool false, .bool false, .bool false, .bool false] 82))).one
    obtain ⟨y2, hy2⟩ : ∃ y, y = w1.alloc (.cells #[.bool false, .bool false, .bool false, .bool false, .bool false, .bool false, .bool false, .bool false, .bool false] 82) := ⟨_, rfl⟩
    have hs2 : Since w1 y2 := by rw [hy2]; exact (Since.refl w1).alloc _
    have B9 : Hid (Blk y2 w1.heap.size 82 (occL (xs.take 0)).toArray) := by rw [hy2, List.take_zero, occL_nil]; exact Blk.new rfl _ _
    have HY2 := Lib.hid hy2
    clear hy2
    go_wp2_with fail
    rw [← HY2.out]
    clear p0 p1
    obtain ⟨X, hX⟩ : ∃ X, X = w1.heap.size := ⟨_, rfl⟩
    have hX9 : w.heap.size ≤ X := by rw [hX]; exact hyw.size
    rw [← hX] at B9 ⊢
    clear hX
    have hyw2 := hyw.trans hs2
    clear hs1 hs2 hyw
    go_loopw [15] (fun i wr => ∃ k : Nat, k ≤ n ∧ i = .int .i64 k ∧ Hid (Blk wr X 82 (occL (xs.take k)).toArray) ∧ Hid (Since w wr)) (fun i _ => n - (intOf i).toNat)
    case atStart => exact ⟨0, Nat.zero_le _, rfl, B9.out, hyw2⟩
    case round =>
      obtain ⟨k, hk, rfl, HB9, HW⟩ := hrel
      have hw0 := HW.out
      clear HW
      by_cases hlt : k < n
      · have hx : k < xs.length := by have := HN.out; omega
        obtain ⟨b, off, rfl, hbb, c0, c1, c2, c3⟩ := HC.out k hx
        have s2 := since_cells hw0 hbb
        rw [← s2] at c0 c1 c2 c3
        clear s2
        have hki : (k : Int) < (n : Int) := by omega
        have hk0 : (0 : Int) ≤ (k : Int) := by omega
        have HTK := Lib.hid (List.take_succ_eq_append_getElem hx)
        have HOT := Lib.hid (HOK.out xs[k] (List.getElem_mem hx))
        obtain ⟨t, ht⟩ : ∃ t, t = xs[k] := ⟨_, rfl⟩
        rw [← ht] at c0 c1 c2 c3 HTK HOT
        clear ht
        obtain ⟨y3, hy3⟩ : ∃ y, y = wr.alloc (.cells #[.int .i64 t.kd, .int .i64 t.lr, .int .i64 t.lo, .int .i64 t.hi] 65) := ⟨_, rfl⟩
        have hs3 : Since wr y3 := by rw [hy3]; exact (Since.refl wr).alloc _
        have BT : Hid (Blk y3 wr.heap.size 65 #[.int .i64 t.kd, .int .i64 t.lr, .int .i64 t.lo, .int .i64 t.hi]) := by rw [hy3]; exact Blk.new rfl _ _
        have HB3 := Lib.hid (HB9.out.since hs3)
        have HY3 := Lib.hid hy3
        obtain ⟨d0, d1, d2, d3, _⟩ := BT.out.four
        by_cases h3 : t.kd = 3
        · have hlr := okT_lr HOT.out h3
          obtain ⟨d, hd⟩ : ∃ d : Nat, t.lr = (d : Int) := ⟨t.lr.toNat, by omega⟩
          have hd9 : d < 9 := by omega
          have e3 : (t.kd == 3) = true := by simp [h3]
          have HST : Hid ((occL (xs.take k)).set d (.bool true) = occL (xs.take (k + 1))) := by unfold Hid; rw [HTK.out]; exact occL_set _ t d h3 hd
          have hz0 : y3.cell? ⟨X, d, none⟩ = some (.bool (decide ((d : Int) ∈ ltrs (xs.take k)))) := by
            have := HB3.out.cell d
            rw [this, ← Array.getElem?_toList]
            exact occL_at _ d hd9
          have hz1 : y3.frozen? ⟨X, d, none⟩ = false := HB3.out.frozen d
          rw [hd] at d1 c1
          rw [hy3, hd] at d0 d1 d2 d3 hz0 hz1
          have hd0 : (0 : Int) ≤ (d : Int) := by omega
          have hdi : (d : Int) < 9 := by omega
          have HD := Lib.hid hd
          clear h3 hd hlr hy3
          go_wp2
          go_roundw
          case rel =>
            refine ⟨k + 1, by omega, by go_num, ?_, ?_⟩
            · unfold Hid
              rw [← HST.out]
              have := HB3.out.set d (.bool true)
              rw [List.setIfInBounds_toArray] at this
              rw [← HD.out, ← HY3.out]
              exact this
            · rw [← HD.out, ← HY3.out]
              exact (hw0.trans hs3).setCell (by show w.heap.size ≤ X; exact hX9) _
          case measure => simp [intOf]; omega
        · have e3 : (t.kd == 3) = false := by simp [h3]
          have HST : Hid (occL (xs.take (k + 1)) = occL (xs.take k)) := by unfold Hid; rw [HTK.out]; exact occL_skip _ t h3
          rw [hy3] at d0 d1 d2 d3
          clear h3 hy3
          go_wp2
          go_roundw
          case rel =>
            refine ⟨k + 1, by omega, by go_num, ?_, ?_⟩
            · unfold Hid
              rw [HST.out, ← HY3.out]
              exact HB3.out
            · rw [← HY3.out]
              exact hw0.trans hs3
          case measure => simp [intOf]; omega
      · obtain rfl : k = n := by omega
        have HBX : Hid (Blk wr X 82 (occL xs).toArray) := by have := HB9.out; rwa [List.take_of_length_le (by have := HN.out; omega)] at this
        clear HB9
        have hcell : ∀ i, i < 9 → wr.cell? ⟨X, i, none⟩ = some (.bool (decide ((i : Int) ∈ ltrs xs))) := fun i hi => by
          rw [HBX.out.cell i, ← Array.getElem?_toList]
          exact occL_at _ i hi
        obtain ⟨B, hB⟩ : ∃ B : Nat → Bool, B = fun (i : Nat) => decide (((i : Nat) : Int) ∈ ltrs xs) := ⟨_, rfl⟩
        have hcell2 : ∀ i, i < 9 → wr.cell? ⟨X, i, none⟩ = some (.bool (B i)) := fun i hi => by rw [hB]; exact hcell i hi
        have HBV : Hid (∀ i, B i = decide ((i : Int) ∈ ltrs xs)) := fun i => by rw [hB]
        have x0 := hcell2 0 (by omega)
        have x1 := hcell2 1 (by omega)
        have x2 := hcell2 2 (by omega)
        have x3 := hcell2 3 (by omega)
        have x4 := hcell2 4 (by omega)
        have x5 := hcell2 5 (by omega)
        have x6 := hcell2 6 (by omega)
        have x7 := hcell2 7 (by omega)
        have x8 := hcell2 8 (by omega)
        clear hcell hcell2 hB
        go_wp2
        clear x0 x1 x2 x3 x4 x5 x6 x7 x8
        go_loopw [6, 27] (fun out i wz => ∃ j : Nat, j ≤ 9 ∧ i = .int .i64 j ∧ Hid (Own w.heap.size wz out (alT (ltrs xs) j)) ∧ Hid (Since w wz)) (fun _ i _ => 9 - (intOf i).toNat)
        case atStart => exact ⟨0, Nat.zero_le _, rfl, own_nil0 _ _, hw0⟩
        case round =>
          obtain ⟨j, hj, rfl, HOw, HWz⟩ := hrel
          have hwz := HWz.out
          clear HWz
          by_cases hlt2 : j < 9
          · have hix := fun W => index_nine B j hlt2 W
            have hji : (j : Int) < 9 := by omega
            have hj0 : (0 : Int) ≤ (j : Int) := by omega
            have HLN : Hid ((alT (ltrs xs) j).length ≤ 4194304) := by unfold Hid; have := alT_len (ltrs xs) j; omega
            have HS := Lib.hid (alT_succ (ltrs xs) j)
            have hzin : InI (j : Int) := by unfold InI; omega
            have HBJ := Lib.hid (HBV.out j)
            obtain ⟨bj, hbj⟩ : ∃ bj, bj = B j := ⟨_, rfl⟩
            have hix2 : ∀ W, (Instr.index 82 (.agg #[.bool (B 0), .bool (B 1), .bool (B 2), .bool (B 3), .bool (B 4), .bool (B 5), .bool (B 6), .bool (B 7), .bool (B 8)]) (.int .i64 (j : Int))).run Tryd.prog W = .ok (.bool bj) W := fun W => by rw [hbj]; exact hix W
            rw [← hbj] at HBJ
            clear hix hbj
            cases bj with
            | true =>
              have hm : (j : Int) ∈ ltrs xs := by simpa using HBJ.out.symm
              have HP : Hid (alT (ltrs xs) (j + 1) = alT (ltrs xs) j ++ [(j : Int)]) := by unfold Hid; rw [HS.out, if_pos hm]
              clear hm
              go_wp2_with (at_builtin; go_must (refine wpList_append_one rfl (.tmp 32) (.tmp 34) rfl _ (alT (ltrs xs) j) (by first | rfl | simp [Act.eval]) HOw.out (j : Int) (by first | rfl | simp [Act.eval]) hzin HLN.out hwz ?_); intro v2 w2 ho2 hs2; have HO2 := Lib.hid ho2; clear ho2)
              go_roundw
              case rel => exact ⟨j + 1, by omega, by go_num, (by rw [HP.out]; exact HO2.out), hs2⟩
              case measure => simp [intOf]; omega
            | false =>
              have hm : ¬ ((j : Int) ∈ ltrs xs) := by simpa using HBJ.out.symm
              have HP : Hid (alT (ltrs xs) (j + 1) = alT (ltrs xs) j) := by unfold Hid; rw [HS.out, if_neg hm, List.append_nil]
              clear hm
              go_wp2
              go_roundw
              case rel => exact ⟨j + 1, by omega, by go_num, (by rw [HP.out]; exact HOw.out), hwz⟩
              case measure => simp [intOf]; omega
          · obtain rfl : j = 9 := by omega
            have HO := Lib.hid HOw.out
            clear HOw
            go_wp2
            go_ret
            exact ⟨_, rfl, by rw [HAL.out]; exact HO.out, hwz⟩
end Go.Proofs.YtiojgahjfndmdaaDoor

/- The model's draws of chapter 9: words near an expression, and the arguments of its laws. -/
namespace Go.Proofs.YtiojgahjfndmdaaDoor
set_option maxRecDepth 100000
open Go.ChangeShapes Go.WideShapes Go.ChangeAt Go.RowKit
set_option linter.unusedVariables false
set_option linter.unusedSimpArgs false

/-- append of one int, whatever came before. -/
theorem wpList_append_oneB {wr : World} {ops : Array Oper} {rest : List Oper} {o : Oper} {a : Act} {Q : Exit → Act → World → Prop} (hgd : o.guard = none) (s x : Operand)
    (ho : o.op = .call { callee := .builtin .append, args := #[s, x], argTypes := #[33, 33] }) (base : Nat) (v : Value) (xs : List Int) (hs : a.eval s = v) (hown : Own base wr v xs)
    (z : Int) (hx : a.eval x = .slice (some ⟨wr.heap.size, 0, none⟩) 1 1) (hz : InI z) (hlen : xs.length ≤ 4194304) (hb : base ≤ wr.heap.size)
    (h : ∀ v' w', Own base w' v' (xs ++ [z]) → (wr.alloc (.cells #[.int .i64 z] 3)).grownBy w' v.ownBlock → wpList Tryd.prog ops Q rest (a.put o.dst v') w') : wpList Tryd.prog ops Q (o :: rest) a (wr.alloc (.cells #[.int .i64 z] 3)) := by
  obtain ⟨i0, hi, hz0, hz1, hz2⟩ := info_parts info_int
  have hown' : Own base (wr.alloc (.cells #[.int .i64 z] 3)) v xs := hown.since ((Since.refl wr).alloc _)
  have hB : Blk (wr.alloc (.cells #[.int .i64 z] 3)) wr.heap.size 3 #[.int .i64 z] := Blk.new rfl _ _
  refine wpList_append_own _ hgd s x 33 ho base 3 i0 (.int .i64 0) 1 8 Tryd.underlying33 hi hz0 hz1 hz2 rfl (by decide) v xs.length (xs.map icell) hs hown'.2 ⟨wr.heap.size, 0, none⟩ 1 1 [icell z] hx rfl ?_ (by intro u hu; simp at hu; subst hu; rfl) (by unfold maxLen; omega) (by omega) (Nat.le_trans hb (by simp)) ?_
  · intro j u hj
    rw [add_plain, Nat.zero_add, hB.cell, ← hj, ← Array.getElem?_toList]; rfl
  · intro v' w' h1 h2 _
    refine h v' w' ⟨fun y hy => ?_, ?_⟩ h2
    · rcases List.mem_append.1 hy with hy | hy
      · exact hown.1 y hy
      · simp at hy; subst hy; exact hz
    · rw [List.length_append, List.map_append]
      exact h1
/-- Ints read again: another block has grown. -/
theorem ints_apart {w w' : World} {v u : Value} {xs : List Int} {m : Nat} (h : IntsAt w v xs) (hv : ∀ k, v.ownBlock = some k → k < m) (k : w.grownBy w' u.ownBlock) (hu : ∀ g, u.ownBlock = some g → m ≤ g) : IntsAt w' v xs := by
  refine h.grown k ?_
  cases e : v.ownBlock with
  | none => exact .inl rfl
  | some q => exact .inr (fun e2 => by have := hv q e; have := hu q e2.symm; omega)
theorem ints_turn {w w' : World} {v : Value} {xs : List Int} {cb : Nat} (h : IntsAt w v xs) (hv : ∀ k, v.ownBlock = some k → cb < k) (k : Turn cb w w') : IntsAt w' v xs := by
  refine h.grown k ?_
  cases e : v.ownBlock with
  | none => exact .inl rfl
  | some q => exact .inr (fun e2 => by have := hv q e; injection e2; omega)
/-- A word that was drawn: of its own memory from base on. -/
def NearOut (B cb n : Nat) (w : World) (e : Ending) (w' : World) : Prop := ∃ v W, e = .returned v ∧ Own w.heap.size w' v W ∧ W.length ≤ n + 1 ∧ Cur B w' cb ∧ Turn cb w w'
set_option maxHeartbeats 4000000 in
set_option maxRecDepth 100000 in
theorem l9Near_any (B cb n : Nat) (v : Value) (xs : List Tok) (w : World) (hc : Cur B w cb) (h : ExAt w v xs) (hl : xs.length ≤ 1048577) (hn : n ≤ 8) :
    Calls Tryd.prog 71 #[.pointer (some ⟨cb, 0, none⟩), v, .int .i64 (n : Int)] w (NearOut B cb n w) := by
  obtain ⟨a, rfl, ha⟩ := h
  have HA := Lib.hid ha
  obtain ⟨ao, ac, rfl⟩ := ha.len
  clear ha
  have hcb : cb < w.heap.size := hc.2.1
  obtain ⟨y, hy⟩ : ∃ y, y = w.alloc (.cells #[.slice ao xs.length ac] 26) := ⟨_, rfl⟩
  have hsy : Since w y := by rw [hy]; exact (Since.refl w).alloc _
  have HC := Lib.hid (hc.since hsy)
  have HY := Lib.hid hy
  clear hy hc
  go_enter Tryd.func71, Tryd.ntmps71
  go_wp2_with fail
  rw [← HY.out]
  refine (specAL_any _ xs _ ⟨_, rfl, HA.out.since hsy⟩ hl).mono ?_
  rintro e w1 ⟨v1, rfl, ho1, hs1⟩
  have hL := alX_len xs
  generalize alX xs = L at ho1 hL
  have hyw := hsy.trans hs1
  have hw1 := hyw.size
  have HLR : Hid (∀ k, v1.ownBlock = some k → cb < k ∧ k < w1.heap.size) := fun k hk => by have := ho1.2.lt k hk; have := hsy.size; omega
  have HLI := Lib.hid ho1.1
  have hL1 := ho1.at
  obtain ⟨lo, lc, rfl, _⟩ := hL1.row
  obtain ⟨m, hm⟩ : ∃ m, m = L.length := ⟨_, rfl⟩
  rw [← hm] at hL hL1 HLR ⊢
  have HM := Lib.hid hm
  have HL1 := Lib.hid hL1
  have HC1 := Lib.hid (HC.out.since hs1)
  clear ho1 hL1 hm
  have al2 : Since w1 (w1.alloc (.cells #[] 3)) := (Since.refl w1).alloc _
  obtain ⟨w2, hw2⟩ : ∃ w2, w2 = w1.alloc (.cells #[] 3) := ⟨_, rfl⟩
  have hs2 : Since w1 w2 := by rw [hw2]; exact al2
  have HO2 : Hid (Own w1.heap.size w2 (.slice (some ⟨w1.heap.size, 0, none⟩) 0 0) []) := by rw [hw2]; exact own_none w1 w1 (Since.refl w1) _ rfl
  have HW2 := Lib.hid hw2
  have HL2 := Lib.hid (HL1.out.since hs2)
  have HC2 := Lib.hid (HC1.out.since hs2)
  have HT2 := Lib.hid (Turn.of_since (cb := cb) (hyw.trans hs2))
  have hn1 : (0 : Int) < (n : Int) + 1 := by omega
  have hn2 : (n : Int) + 1 ≤ 9223372036854775807 := by omega
  clear hw2 al2
  go_wp2_with fail
  rw [← HW2.out]
  refine (l1Below_any B cb _ _ HC2.out hn1 hn2).mono ?_
  rintro e w3 ⟨q, hq0, hq9, rfl, hc3, ht3⟩
  obtain ⟨qn, rfl⟩ : ∃ qn : Nat, q = (qn : Int) := ⟨q.toNat, by omega⟩
  have HC3 := Lib.hid hc3
  have HT3 := Lib.hid (HT2.out.trans ht3)
  have HO3 := Lib.hid (HO2.out.turn ht3 (by omega))
  have HL3 := Lib.hid (ints_turn HL2.out (fun k hk => (HLR.out k hk).1) ht3)
  have hz3 : w1.heap.size ≤ w3.heap.size := Nat.le_trans hs2.size ht3.size
  have hqn : qn ≤ n := by omega
  clear hc3 ht3 hq9 hq0
  go_wp2
  go_loopw [8, 9] (fun wv c wr => ∃ (k : Nat) (W : List Int), W.length + k ≤ n ∧ c = .int .i64 k ∧ Hid (Own w1.heap.size wr wv W) ∧ Hid (IntsAt wr (.slice lo m lc) L) ∧ Hid (Cur B wr cb) ∧ Hid (Turn cb w wr) ∧ w1.heap.size ≤ wr.heap.size) (fun _ c _ => (intOf c).toNat)
  case atStart => exact ⟨qn, [], by simpa using hqn, rfl, HO3.out, HL3.out, HC3.out, HT3.out, hz3⟩
  case round =>
    clear HC2 HT2 HO2 HL2 HC3 HT3 HO3 HL3 hz3
    obtain ⟨k, W, hkw, rfl, HO, HL, HCr, HTr, hzr⟩ := hrel
    obtain ⟨wo, wc, rfl⟩ := HO.out.at.len
    obtain ⟨p, hp⟩ : ∃ p, p = W.length := ⟨_, rfl⟩
    rw [← hp] at hkw HO ⊢
    have HPW := Lib.hid hp
    clear hp
    by_cases hgo : 0 < k ∧ 0 < m
    · obtain ⟨hk0, hm0⟩ := hgo
      have hki : (0 : Int) < (k : Int) := by omega
      have hmi : (0 : Int) < (m : Int) := by omega
      have hm9 : (m : Int) ≤ 9223372036854775807 := by omega
      go_wp2_with fail
      refine (l1Below_any B cb _ _ HCr.out hmi hm9).mono ?_
      rintro e w4 ⟨s, hs0, hs9, rfl, hc4, ht4⟩
      obtain ⟨sn, rfl⟩ : ∃ sn : Nat, s = (sn : Int) := ⟨s.toNat, by omega⟩
      have hsn : sn < L.length := by have := HM.out; omega
      have HC4 := Lib.hid hc4
      have HT4 := Lib.hid (HTr.out.trans ht4)
      have HO4 := Lib.hid (HO.out.turn ht4 (by omega))
      have HL4 := Lib.hid (ints_turn HL.out (fun k hk => (HLR.out k hk).1) ht4)
      have hz4 : w1.heap.size ≤ w4.heap.size := Nat.le_trans hzr ht4.size
      obtain ⟨_, _, e0, HLC⟩ := HL4.out.row
      injection e0 with e1 e2 e3
      subst e1
      obtain ⟨b, off, rfl, hbl, hcell⟩ := HLC.out sn hsn
      obtain ⟨z, hz⟩ : ∃ z, z = L[sn] := ⟨_, rfl⟩
      rw [← hz] at hcell
      have hzi : InI z := by rw [hz]; exact HLI.out _ (List.getElem_mem hsn)
      have hp9 : W.length ≤ 4194304 := by have := HPW.out; omega
      have hpe := HPW.out
      have HO4b : Hid (Own w1.heap.size w4 (.slice wo p wc) W) := HO4.out
      clear hc4 ht4 hz e2 e3 hpe
      go_wp2_with (at_builtin; go_must (refine wpList_append_oneB rfl (.tmp 26) (.tmp 34) rfl w1.heap.size _ W (by first | rfl | simp [Act.eval]) HO4b.out z (by first | rfl | simp [Act.eval]) hzi hp9 hz4 ?_); intro v5 w5 ho5 hg5; have HO5 := Lib.hid ho5; have HG5 := Lib.hid hg5; clear ho5 hg5)
      have al5 : Since w4 (w4.alloc (.cells #[.int .i64 z] 3)) := (Since.refl w4).alloc _
      have HRB : Hid (∀ g, (Value.slice wo p wc).ownBlock = some g → w1.heap.size ≤ g) := fun g hg => (HO4.out.2.lt g hg).1
      have HT5 : Hid (Turn cb w w5) := (HT4.out.trans (Turn.of_since al5)).grown HG5.out (fun g hg => Nat.le_trans hw1 (HRB.out g hg))
      have HC5 : Hid (Cur B w5 cb) := (HC4.out.since al5).grown HG5.out (fun g hg => by have := HRB.out g hg; omega)
      have HL5 := Lib.hid (ints_apart (HL4.out.since al5) (fun k hk => (HLR.out k hk).2) HG5.out HRB.out)
      have hz5 : w1.heap.size ≤ w5.heap.size := Nat.le_trans hz4 (Nat.le_trans al5.size HG5.out.size)
      go_roundw
      case rel => exact ⟨k - 1, W ++ [z], by rw [List.length_append, ← HPW.out]; simp; omega, by congr 1; omega, HO5.out, HL5.out, HC5.out, HT5.out, hz5⟩
      case measure => simp [intOf]; omega
    · have hgo2 : k = 0 ∨ (0 < k ∧ m = 0) := by omega
      have hpn : p ≤ n := by omega
      clear hgo
      rcases hgo2 with rfl | ⟨h3, hm0⟩
      · skip
        go_wp2_with fail
        refine (l1Once_any B cb 8 _ HCr.out (by omega) (by omega)).mono ?_
        rintro e w4 ⟨bb, rfl, hc4, ht4⟩
        have HC4 := Lib.hid hc4
        have HT4 := Lib.hid (HTr.out.trans ht4)
        have HO4 := Lib.hid (HO.out.turn ht4 (by omega))
        have hz4 : w1.heap.size ≤ w4.heap.size := Nat.le_trans hzr ht4.size
        clear hc4 ht4
        cases bb with
        | false =>
          go_wp2
          go_ret
          exact ⟨_, W, rfl, HO4.out.mono hw1, by rw [← HPW.out]; omega, HC4.out, HT4.out⟩
        | true =>
          go_wp2_with fail
          refine (l2Draw_any B cb _ HC4.out).mono ?_
          rintro e w5 ⟨z, hz0, hz9, rfl, hc5, ht5⟩
          have HC5 := Lib.hid hc5
          have HT5 := Lib.hid (HT4.out.trans ht5)
          have HO5 := Lib.hid (HO4.out.turn ht5 (by omega))
          have hz5 : w1.heap.size ≤ w5.heap.size := Nat.le_trans hz4 ht5.size
          have hzi : InI z := ⟨hz0, hz9⟩
          have hp9 : W.length ≤ 4194304 := by have := HPW.out; omega
          have HRB : Hid (∀ g, (Value.slice wo p wc).ownBlock = some g → w1.heap.size ≤ g) := fun g hg => (HO5.out.2.lt g hg).1
          clear hc5 ht5
          go_wp2_with (at_builtin; go_must (refine wpList_append_oneB rfl (.tmp 38) (.tmp 41) rfl w1.heap.size _ W (by first | rfl | simp [Act.eval]) HO5.out z (by first | rfl | simp [Act.eval]) hzi hp9 hz5 ?_); intro v6 w6 ho6 hg6; have HO6 := Lib.hid ho6; have HG6 := Lib.hid hg6; clear ho6 hg6)
          have al6 : Since w5 (w5.alloc (.cells #[.int .i64 z] 3)) := (Since.refl w5).alloc _
          have HT6 : Hid (Turn cb w w6) := (HT5.out.trans (Turn.of_since al6)).grown HG6.out (fun g hg => Nat.le_trans hw1 (HRB.out g hg))
          have HC6 : Hid (Cur B w6 cb) := (HC5.out.since al6).grown HG6.out (fun g hg => by have := HRB.out g hg; omega)
          go_ret
          exact ⟨_, W ++ [z], rfl, HO6.out.mono hw1, by rw [List.length_append, ← HPW.out]; simp; omega, HC6.out, HT6.out⟩
      · have hk1 : decide ((0 : Int) < (k : Int)) = true := by simp; omega
        have hk2 : decide (0 < k) = true := by simp; omega
        have hm1 : decide ((0 : Int) < (m : Int)) = false := by simp; omega
        have hm2 : decide (0 < m) = false := by simp; omega
        clear h3 hm0 hL hkw
        go_wp2_with fail
        refine (l1Once_any B cb 8 _ HCr.out (by omega) (by omega)).mono ?_
        rintro e w4 ⟨bb, rfl, hc4, ht4⟩
        have HC4 := Lib.hid hc4
        have HT4 := Lib.hid (HTr.out.trans ht4)
        have HO4 := Lib.hid (HO.out.turn ht4 (by omega))
        have hz4 : w1.heap.size ≤ w4.heap.size := Nat.le_trans hzr ht4.size
        clear hc4 ht4
        cases bb with
        | false =>
          go_wp2
          go_ret
          exact ⟨_, W, rfl, HO4.out.mono hw1, by rw [← HPW.out]; omega, HC4.out, HT4.out⟩
        | true =>
          go_wp2_with fail
          refine (l2Draw_any B cb _ HC4.out).mono ?_
          rintro e w5 ⟨z, hz0, hz9, rfl, hc5, ht5⟩
          have HC5 := Lib.hid hc5
          have HT5 := Lib.hid (HT4.out.trans ht5)
          have HO5 := Lib.hid (HO4.out.turn ht5 (by omega))
          have hz5 : w1.heap.size ≤ w5.heap.size := Nat.le_trans hz4 ht5.size
          have hzi : InI z := ⟨hz0, hz9⟩
          have hp9 : W.length ≤ 4194304 := by have := HPW.out; omega
          have HRB : Hid (∀ g, (Value.slice wo p wc).ownBlock = some g → w1.heap.size ≤ g) := fun g hg => (HO5.out.2.lt g hg).1
          clear hc5 ht5
          go_wp2_with (at_builtin; go_must (refine wpList_append_oneB rfl (.tmp 38) (.tmp 41) rfl w1.heap.size _ W (by first | rfl | simp [Act.eval]) HO5.out z (by first | rfl | simp [Act.eval]) hzi hp9 hz5 ?_); intro v6 w6 ho6 hg6; have HO6 := Lib.hid ho6; have HG6 := Lib.hid hg6; clear ho6 hg6)
          have al6 : Since w5 (w5.alloc (.cells #[.int .i64 z] 3)) := (Since.refl w5).alloc _
          have HT6 : Hid (Turn cb w w6) := (HT5.out.trans (Turn.of_since al6)).grown HG6.out (fun g hg => Nat.le_trans hw1 (HRB.out g hg))
          have HC6 : Hid (Cur B w6 cb) := (HC5.out.since al6).grown HG6.out (fun g hg => by have := HRB.out g hg; omega)
          go_ret
          exact ⟨_, W ++ [z], rfl, HO6.out.mono hw1, by rw [List.length_append, ← HPW.out]; simp; omega, HC6.out, HT6.out⟩
/-- What DrawMatchesWord gives. -/
def DrawMW (w : World) (e : Ending) (w' : World) : Prop := ∃ v u xs W, e = .returned (.tuple #[v, u]) ∧ ExC w' v xs ∧ xs.length ≤ 26 ∧ IntsAt w' u W ∧ W.length ≤ 6 ∧ Since w w'
/-- What DrawDerivative gives. -/
def DrawDV (w : World) (e : Ending) (w' : World) : Prop := ∃ v xs c, e = .returned (.tuple #[v, .int .i64 c]) ∧ ExC w' v xs ∧ xs.length ≤ 26 ∧ InI c ∧ Since w w'
theorem toks_turn0 {B cb : Nat} {w w' : World} {v : Value} {xs : List Tok} (h : ToksAt w v xs) (hc : Cur B w cb) (k : Turn cb w w') : ToksAt w' v xs := by
  obtain ⟨h1, h2⟩ := h
  rcases h2 with h2 | ⟨b, off, cap, h2, h3, h4⟩
  · exact ⟨h1, .inl h2⟩
  · by_cases hx : xs = []
    · subst hx; exact ⟨h1, .inl ⟨rfl, _, _, h2⟩⟩
    · have h0 : 0 < xs.length := List.length_pos_iff.2 hx
      have hne : b ≠ cb := by
        intro e
        subst e
        obtain ⟨_, _, q, i, hh, T, hq, _⟩ := hc
        have hb : Blk w b T #[q, .int .i64 i, .int .i64 hh] := hq
        obtain ⟨_, _, _, c3⟩ := h4 0 h0
        rw [hb.cell, Array.getElem?_eq_none (by simp)] at c3
        cases c3
      have hh : ∀ o, w'.cell? ⟨b, o, none⟩ = w.cell? ⟨b, o, none⟩ := fun o => by simp [World.cell?, k.block b h3 (fun e => hne (by injection e))]
      refine ⟨h1, .inr ⟨b, off, cap, h2, Nat.lt_of_lt_of_le h3 k.size, fun i hi => ?_⟩⟩
      rw [hh, hh, hh, hh]
      exact h4 i hi
theorem exC_turn {B cb : Nat} {w w' : World} {v : Value} {xs : List Tok} (h : ExC w v xs) (hc : Cur B w cb) (k : Turn cb w w') : ExC w' v xs := by
  obtain ⟨⟨b, rfl, hb⟩, hp⟩ := h
  exact ⟨⟨b, rfl, toks_turn0 hb hc k⟩, hp⟩
theorem exC_since {w w' : World} {v : Value} {xs : List Tok} (h : ExC w v xs) (k : Since w w') : ExC w' v xs := ⟨h.1.since k, h.2⟩
theorem own_farX {base X n c : Nat} {o : Option Addr} {w : World} {v : Value} {W : List Int} (h : Own base w v W) (hB : Blk w X 26 #[.slice o n c]) (u : Value) : Own base (w.setCell ⟨X, 0, none⟩ u) v W := by
  refine ⟨h.1, h.2.1, ?_⟩
  rcases h.2.2 with h3 | ⟨g, cap, cur, hv, hg, hb, hr⟩
  · exact .inl h3
  · refine .inr ⟨g, cap, cur, hv, hg, ?_, hr⟩
    have hne : g ≠ X := by
      intro e; subst e
      have h6 : w.heap[g]? = some (.cells #[.slice o n c] 26 (0, 0)) := hB
      rw [hb] at h6
      injection h6 with h6
      injection h6 with _ h6
      exact absurd h6 (by decide)
    exact (Below.heap_setCell w ⟨X, 0, none⟩ u g hne).trans hb
set_option maxHeartbeats 2000000 in
set_option maxRecDepth 100000 in
theorem drawMW_any (B : Nat) (w : World) (v : Value) (hB : B ≤ w.heap.size) (hv : CodeIn B w v) : Calls Tryd.prog 25 #[v] w (DrawMW w) := by
  obtain ⟨y, hy⟩ : ∃ y, y = w.alloc (.cells #[.slice none 0 0] 26) := ⟨_, rfl⟩
  have hs0 : Since w y := by rw [hy]; exact (Since.refl w).alloc _
  have hyz : w.heap.size + 1 = y.heap.size := by rw [hy]; simp
  have BR : Hid (Blk y w.heap.size 26 #[.slice none 0 0]) := by rw [hy]; exact Blk.new rfl _ _
  have HV := Lib.hid (hv.since hs0)
  obtain ⟨ao, len, cap, rfl, hlen, hcode⟩ := hv
  clear hcode hlen
  go_enter Tryd.func25, Tryd.ntmps25
  go_wp2_with fail
  rw [← hy]
  clear hy
  refine (l1New_any B _ _ (by omega) HV.out).mono ?_
  rintro e w1 ⟨cb, rfl, hcb, hc1, hs1⟩
  have HC1 := Lib.hid hc1
  have BR1 := Lib.hid (BR.out.since hs1)
  have hs01 := hs0.trans hs1
  clear hc1
  go_wp2_with fail
  refine (l8Any_any B cb _ HC1.out).mono ?_
  rintro e w2 ⟨v2, xs, rfl, hx, hl, hc2, ht2⟩
  have hs02 := hs01.turn (by omega) ht2
  have BR2 := Lib.hid (BR1.out.turnX ht2 (by omega))
  obtain ⟨ao2, ac2, rfl, hta, hac⟩ := hx.open
  obtain ⟨n2, hn2⟩ : ∃ n, n = xs.length := ⟨_, rfl⟩
  rw [← hn2] at hta hac hx ⊢
  have HN := Lib.hid hn2
  have hcb2 : cb < w2.heap.size := hc2.2.1
  obtain ⟨y3, hy3⟩ : ∃ y, y = w2.alloc (.cells #[.slice ao2 n2 ac2] 26) := ⟨_, rfl⟩
  have al3 : Since w2 y3 := by rw [hy3]; exact (Since.refl w2).alloc _
  have BX : Hid (Blk y3 w2.heap.size 26 #[.slice ao2 n2 ac2]) := by rw [hy3]; exact Blk.new rfl _ _
  have BR3 := Lib.hid (BR2.out.since al3)
  have HX3 := Lib.hid (exC_since hx al3)
  have HC3 := Lib.hid (hc2.since al3)
  have hs03 := hs02.trans al3
  have HY3 := Lib.hid hy3
  clear hn2 hx hc2 hta hy3
  go_upto_region 3 with fail
  rw [← HY3.out]
  have HKC : Hid (∀ w', Blk w' w2.heap.size 26 #[.slice ao2 n2 ac2] → w'.cell? ⟨w2.heap.size, 0, none⟩ = some (.slice ao2 n2 ac2)) := fun w' hb => hb.one.1
  refine wp_region_held_drew (S := (fun w' => w'.cell? ⟨w2.heap.size, 0, none⟩ = some (.slice ao2 n2 ac2))) (by kernel_rfl) (HKC.out _ BX.out.drew) (fun hHeld => ?_)
  refine take_yes 0 (some 10) (v := ?_) rfl (by kernel_rfl) (by kernel_rfl) (by kernel_rfl) (by kernel_rfl) (fun _ _ _ h => h) (by rfl) (by assumption) ?_ ?_
  rotate_left
  · (intro w' hSw; (try dsimp only at hSw); go_simp; try with_reducible rfl)
  try simp only [Act.put, List.setIfInBounds_toArray, List.set_cons_zero, List.set_cons_succ]
  refine take_yes 1 (some 11) (v := ?_) rfl (by kernel_rfl) (by kernel_rfl) (by kernel_rfl) (by kernel_rfl) (fun _ _ _ h => h) (by rfl) (by assumption) ?_ ?_
  rotate_left
  · (intro w' hSw; (try dsimp only at hSw); go_simp; try with_reducible rfl)
  try simp only [Act.put, List.setIfInBounds_toArray, List.set_cons_zero, List.set_cons_succ]
  refine take_yes 2 (some 12) (v := ?_) rfl (by kernel_rfl) (by kernel_rfl) (by kernel_rfl) (by kernel_rfl) (fun _ _ _ h => h) (by rfl) (by assumption) ?_ ?_
  rotate_left
  · (intro w' hSw; (try dsimp only at hSw); go_simp; try with_reducible rfl)
  try simp only [Act.put, List.setIfInBounds_toArray, List.set_cons_zero, List.set_cons_succ]
  refine take_run 3 rfl (by kernel_rfl) (by rfl) (fun K hK => ?_)
  go_simp
  refine (l9Near_any B cb 5 _ xs _ (HC3.out.since (Since.refl y3).drew) (HX3.out.1.since (Since.refl y3).drew) (by omega) (by omega)).mono ?_
  rintro e w4 ⟨u4, W, rfl, hu4, hW4, hc4, ht4⟩
  obtain ⟨uo, uc, rfl⟩ := hu4.at.len
  obtain ⟨un, hun⟩ : ∃ n, n = W.length := ⟨_, rfl⟩
  rw [← hun] at hu4 ⊢
  have HU4 := Lib.hid hu4
  have HUN := Lib.hid hun
  have HX4 := Lib.hid (exC_turn (exC_since HX3.out (Since.refl y3).drew) (HC3.out.since (Since.refl y3).drew) ht4)
  have BX4 := Lib.hid (BX.out.drew.turnX ht4 (by omega))
  have BR4 := Lib.hid (BR3.out.drew.turnX ht4 (by omega))
  have hs04 := hs03.drew.turn (by omega) ht4
  refine hK.out _ _ (HKC.out _ BX4.out) (fun hHeld2 => ?_)
  clear hK K hHeld hu4 hun hc4 ht4
  try simp only [Act.put, List.setIfInBounds_toArray, List.set_cons_zero, List.set_cons_succ]
  refine take_run 4 rfl (by kernel_rfl) (by rfl) (fun K hK => ?_)
  obtain ⟨q0, q1⟩ := BR4.out.one
  go_simp
  clear q0 q1
  have BX5 := Lib.hid (BX4.out.far (p := ⟨w.heap.size, 0, none⟩) (by show w2.heap.size ≠ w.heap.size; have := hs02.size; have := BR2.out.lt; omega) (.slice ao2 n2 ac2))
  have BR5 := Lib.hid (BR4.out.set 0 (.slice ao2 n2 ac2))
  have HX5 : Hid (ExC (w4.setCell ⟨w.heap.size, 0, none⟩ (.slice ao2 n2 ac2)) (.agg #[.slice ao2 n2 ac2]) xs) := by
    obtain ⟨⟨b, e, hb⟩, hp⟩ := HX4.out
    injection e with e; injection e with e; injection e with e
    subst e
    exact ⟨⟨_, rfl, toks_farS hb BR4.out _⟩, hp⟩
  have HU5 := Lib.hid (own_farX HU4.out BR4.out (.slice ao2 n2 ac2))
  have hs05 := hs04.setCell (a := ⟨w.heap.size, 0, none⟩) (Nat.le_refl _) (.slice ao2 n2 ac2)
  refine hK.out _ _ (HKC.out _ BX5.out) (fun hHeld3 => ?_)
  clear hK K hHeld2
  try simp only [Act.put, List.setIfInBounds_toArray, List.set_cons_zero, List.set_cons_succ]
  refine take_yes 5 (some 3) (v := ?_) rfl (by kernel_rfl) (by kernel_rfl) (by kernel_rfl) (by kernel_rfl) (fun _ _ _ h => h) (by rfl) (by assumption) ?_ ?_
  rotate_left
  · (intro w' hSw; (try dsimp only at hSw); go_simp; try with_reducible rfl)
  try simp only [Act.put, List.setIfInBounds_toArray, List.set_cons_zero, List.set_cons_succ]
  refine wpAnyH_done (by kernel_rfl) ?_ _
  clear hHeld3 HKC
  generalize w4.setCell ⟨w.heap.size, 0, none⟩ (.slice ao2 n2 ac2) = w5 at BX5 BR5 HX5 HU5 hs05 ⊢
  obtain ⟨r0, r1⟩ := BR5.out.one
  go_wp2
  refine bodyPost_ret (v := .tuple #[.agg #[.slice ao2 n2 ac2], .slice uo un uc]) (by simp [results, Tryd.results25, go_sem, *]) rfl ?_
  exact ⟨_, _, xs, W, rfl, HX5.out, hl, HU5.out.at, hW4, hs05⟩
set_option maxHeartbeats 2000000 in
set_option maxRecDepth 100000 in
theorem drawDV_any (B : Nat) (w : World) (v : Value) (hB : B ≤ w.heap.size) (hv : CodeIn B w v) : Calls Tryd.prog 31 #[v] w (DrawDV w) := by
  obtain ⟨y, hy⟩ : ∃ y, y = w.alloc (.cells #[.slice none 0 0] 26) := ⟨_, rfl⟩
  have hs0 : Since w y := by rw [hy]; exact (Since.refl w).alloc _
  have hyz : w.heap.size + 1 = y.heap.size := by rw [hy]; simp
  have BR : Hid (Blk y w.heap.size 26 #[.slice none 0 0]) := by rw [hy]; exact Blk.new rfl _ _
  have HV := Lib.hid (hv.since hs0)
  obtain ⟨ao, len, cap, rfl, hlen, hcode⟩ := hv
  clear hcode hlen
  go_enter Tryd.func31, Tryd.ntmps31
  go_wp2_with fail
  rw [← hy]
  clear hy
  refine (l1New_any B _ _ (by omega) HV.out).mono ?_
  rintro e w1 ⟨cb, rfl, hcb, hc1, hs1⟩
  have HC1 := Lib.hid hc1
  have BR1 := Lib.hid (BR.out.since hs1)
  have hs01 := hs0.trans hs1
  clear hc1
  go_wp2_with fail
  refine (l8Any_any B cb _ HC1.out).mono ?_
  rintro e w2 ⟨v2, xs, rfl, hx, hl, hc2, ht2⟩
  have hs02 := hs01.turn (by omega) ht2
  have BR2 := Lib.hid (BR1.out.turnX ht2 (by omega))
  have HC2 := Lib.hid hc2
  have HX2 := Lib.hid hx
  obtain ⟨ao2, ac2, rfl, hta, hac⟩ := hx.open
  obtain ⟨n2, hn2⟩ : ∃ n, n = xs.length := ⟨_, rfl⟩
  rw [← hn2] at hta hac HX2 ⊢
  have HN := Lib.hid hn2
  clear hn2 hx hc2 hta
  go_wp2_with fail
  refine (l2Draw_any B cb _ HC2.out).mono ?_
  rintro e w3 ⟨c, hc0, hc9, rfl, hc3, ht3⟩
  have HX3 := Lib.hid (exC_turn HX2.out HC2.out ht3)
  have hs03 := hs02.turn (by omega) ht3
  have BR3 := Lib.hid (BR2.out.turnX ht3 (by omega))
  obtain ⟨r0, r1⟩ := BR3.out.one
  clear hc3 ht3
  go_wp2_with fail
  refine bodyPost_ret (v := .tuple #[.agg #[.slice ao2 n2 ac2], .int .i64 c]) (by simp [results, Tryd.results31, go_sem, *]) rfl ?_
  have HX5 : Hid (ExC (w3.setCell ⟨w.heap.size, 0, none⟩ (.slice ao2 n2 ac2)) (.agg #[.slice ao2 n2 ac2]) xs) := by
    obtain ⟨⟨b, e, hb⟩, hp⟩ := HX3.out
    injection e with e; injection e with e; injection e with e
    subst e
    exact ⟨⟨_, rfl, toks_farS hb BR3.out _⟩, hp⟩
  exact ⟨_, xs, c, rfl, HX5.out, hl, ⟨hc0, hc9⟩, hs03.setCell (a := ⟨w.heap.size, 0, none⟩) (Nat.le_refl _) _⟩
end Go.Proofs.YtiojgahjfndmdaaDoor
