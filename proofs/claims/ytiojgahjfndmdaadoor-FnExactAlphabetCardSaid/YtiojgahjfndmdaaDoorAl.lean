/- Alphabet, the model's and the program's. -/
import Derived.Test.YtiojgahjfndmdaaDoorAlM
import Derived.Test.YtiojgahjfndmdaaDoorIx
import Derived.Deep.DeepCutAuto
namespace Go.Proofs.YtiojgahjfndmdaaDoor
set_option maxRecDepth 100000
open Go.ChangeShapes Go.WideShapes Go.ChangeAt Go.RowKit
set_option linter.unusedVariables false
set_option linter.unusedSimpArgs false

/-- append of one int onto ints of the call's own. -/
theorem wpList_append_one {w wr : World} {ops : Array Oper} {rest : List Oper} {o : Oper} {a : Act} {Q : Exit → Act → World → Prop} (hgd : o.guard = none) (s x : Operand)
    (ho : o.op = .call { callee := .builtin .append, args := #[s, x], argTypes := #[33, 33] }) (v : Value) (xs : List Int) (hs : a.eval s = v) (hown : Own w.heap.size wr v xs)
    (z : Int) (hx : a.eval x = .slice (some ⟨wr.heap.size, 0, none⟩) 1 1) (hz : InI z) (hlen : xs.length ≤ 4194304) (hsin : Since w wr)
    (h : ∀ v' w', Own w.heap.size w' v' (xs ++ [z]) → Since w w' → wpList Tryd.prog ops Q rest (a.put o.dst v') w') : wpList Tryd.prog ops Q (o :: rest) a (wr.alloc (.cells #[.int .i64 z] 3)) := by
  obtain ⟨i0, hi, hz0, hz1, hz2⟩ := info_parts info_int
  have hown' : Own w.heap.size (wr.alloc (.cells #[.int .i64 z] 3)) v xs := hown.since ((Since.refl wr).alloc _)
  have hB : Blk (wr.alloc (.cells #[.int .i64 z] 3)) wr.heap.size 3 #[.int .i64 z] := Blk.new rfl _ _
  refine wpList_append_own _ hgd s x 33 ho w.heap.size 3 i0 (.int .i64 0) 1 8 Tryd.underlying33 hi hz0 hz1 hz2 rfl (by decide) v xs.length (xs.map icell) hs hown'.2 ⟨wr.heap.size, 0, none⟩ 1 1 [icell z] hx rfl ?_ (by intro u hu; simp at hu; subst hu; rfl) (by unfold maxLen; omega) (by omega) (hsin.alloc _).size ?_
  · intro j u hj
    rw [add_plain, Nat.zero_add, hB.cell, ← hj, ← Array.getElem?_toList]; rfl
  · intro v' w' h1 h2 _
    refine h v' w' ⟨fun y hy => ?_, ?_⟩ ((hsin.alloc _).grown h2 fun k hk => (hown'.2.lt k hk).1)
    · rcases List.mem_append.1 hy with hy | hy
      · exact hown.1 y hy
      · simp at hy; subst hy; exact hz
    · rw [List.length_append, List.map_append]
      exact h1
theorem own_none (w w1 : World) (h : Since w w1) (b : Nat) (hb : b = w1.heap.size) : Own w.heap.size (w1.alloc (.cells #[] 3)) (.slice (some ⟨b, 0, none⟩) 0 0) [] := by
  subst hb; exact ⟨fun x hx => by simp at hx, World.ownsRow_lit w1 #[] 0 h.size (by unfold maxLen; omega) rfl⟩
theorem own_nil0 (base : Nat) (w : World) : Own base w (.slice none 0 0) [] := ⟨fun x hx => by simp at hx, World.ownsRow_nil _ _ _ _⟩
theorem and_one1 (M k : Nat) (hM : M < 9223372036854775808) : bits .and .i64 ((M : Int) / 2 ^ k) 1 = ((M / 2 ^ k % 2 : Nat) : Int) := by
  have e : ((M : Int) / 2 ^ k) = ((M / 2 ^ k : Nat) : Int) := by rw [Int.natCast_ediv, Int.natCast_pow]; rfl
  have hle : M / 2 ^ k ≤ M := Nat.div_le_self _ _
  rw [e]
  have := i64_and_nat (M / 2 ^ k) 1 (by omega) (by omega)
  rw [Nat.and_one_is_mod] at this
  simpa using this
theorem bit_test1 (M k : Nat) (hM : M < 9223372036854775808) : (bits .and .i64 ((M : Int) / 2 ^ k) 1 == 1) = M.testBit k := by
  rw [and_one1 M k hM, Nat.testBit_eq_decide_div_mod_eq, Bool.eq_iff_iff]
  simp only [beq_iff_eq, decide_eq_true_eq]
  omega
theorem or_pow (M d : Nat) (hM : M < 1024) (hd : d < 10) : bits .or .i64 (M : Int) (2 ^ d) = ((M ||| 2 ^ d : Nat) : Int) := by
  have hp : (2 : Nat) ^ d < 2 ^ 10 := Nat.pow_lt_pow_right (by omega) hd
  have := i64_or_nat M (2 ^ d) (by omega) (by omega)
  rw [Int.natCast_pow] at this
  exact this
theorem wrap_pow (d : Nat) (hd : d < 10) : wrap64 (2 ^ d : Int) = 2 ^ d := by
  have hp : (2 : Nat) ^ d < 2 ^ 10 := Nat.pow_lt_pow_right (by omega) hd
  have e : ((2 : Int) ^ d) = ((2 ^ d : Nat) : Int) := by rw [Int.natCast_pow]; rfl
  rw [e]
  generalize (2 : Nat) ^ d = p at hp
  exact IntWalk.wrap64_in _ (by omega)
set_option maxRecDepth 100000 in
theorem l4SetB_any (M : Nat) (zs : List Int) (w : World) (hM : M < 1024) (hz : ∀ i : Nat, M.testBit i = decide ((i : Int) ∈ zs)) :
    Calls Tryd.prog 93 #[.int .i64 (M : Int)] w (OwnOut w (alT zs 30)) := by
  have HZ := Lib.hid hz
  clear hz
  have hnil : Own w.heap.size (w.alloc (.cells #[] 3)) (.slice (some ⟨w.heap.size, 0, none⟩) 0 0) [] := own_none w w (Since.refl w) w.heap.size rfl
  have hs0 := (Since.refl w).alloc (.cells #[] 3)
  go_enter Tryd.func93, Tryd.ntmps93
  go_wp2
  go_loopw [3, 4] (fun out i wr => ∃ k : Nat, k ≤ 30 ∧ i = .int .i64 k ∧ Hid (Own w.heap.size wr out (alT zs k)) ∧ Since w wr) (fun _ i _ => 30 - (intOf i).toNat)
  case atStart => exact ⟨0, Nat.zero_le _, rfl, hnil, hs0⟩
  case round =>
    obtain ⟨k, hk, rfl, HOw, hsw⟩ := hrel
    by_cases hlt : k < 30
    · have hlen : (alT zs k).length ≤ 4194304 := by have := alT_len zs k; omega
      have HLN := Lib.hid hlen
      have HS := Lib.hid (alT_succ zs k)
      have hzin : InI (k : Int) := by unfold InI; omega
      clear hlen
      by_cases hm : (k : Int) ∈ zs
      · have hb : (bits .and .i64 ((M : Int) / 2 ^ k) 1 == 1) = true := by rw [bit_test1 M k (by omega), HZ.out k]; simpa using hm
        have HP : Hid (alT zs (k + 1) = alT zs k ++ [(k : Int)]) := by unfold Hid; rw [HS.out, if_pos hm]
        clear hm
        go_wp2_with (at_builtin; go_must (refine wpList_append_one rfl (.tmp 15) (.tmp 17) rfl _ (alT zs k) (by first | rfl | simp [Act.eval]) HOw.out (k : Int) (by first | rfl | simp [Act.eval]) hzin HLN.out hsw ?_); intro v2 w2 ho2 hs2; have HO2 := Lib.hid ho2; clear ho2)
        go_roundw
        case rel => exact ⟨k + 1, by omega, by go_num, (by rw [HP.out]; exact HO2.out), hs2⟩
        case measure => simp [intOf]; omega
      · have hb : (bits .and .i64 ((M : Int) / 2 ^ k) 1 == 1) = false := by rw [bit_test1 M k (by omega), HZ.out k]; simpa using hm
        have HP : Hid (alT zs (k + 1) = alT zs k) := by unfold Hid; rw [HS.out, if_neg hm, List.append_nil]
        clear hm
        go_wp2
        go_roundw
        case rel => exact ⟨k + 1, by omega, by go_num, (by rw [HP.out]; exact HOw.out), hsw⟩
        case measure => simp [intOf]; omega
    · obtain rfl : k = 30 := by omega
      have HO : Hid (Own w.heap.size wr u3 (alT zs 30)) := HOw.out
      clear HOw
      go_wp2
      go_ret
      exact ⟨_, rfl, HO.out, hsw⟩
set_option maxHeartbeats 2000000 in
set_option maxRecDepth 100000 in
theorem specAL_any (v : Value) (xs : List Tok) (w : World) (h : ExAt w v xs) (hl : xs.length ≤ 1048577) :
    Calls Tryd.prog 53 #[v] w (OwnOut w (alX xs)) := by
  obtain ⟨a, rfl, ha⟩ := h
  have HA := Lib.hid ha
  obtain ⟨ao, ac, rfl, HC⟩ := ha.row
  clear ha
  obtain ⟨n, hn⟩ : ∃ n, n = xs.length := ⟨_, rfl⟩
  rw [← hn] at HA ⊢
  have HN := Lib.hid hn
  have hn9 : n ≤ 1048577 := by omega
  clear hn
  obtain ⟨y, hy⟩ : ∃ y, y = w.alloc (.cells #[.slice ao n ac] 26) := ⟨_, rfl⟩
  have hsy : Since w y := by rw [hy]; exact (Since.refl w).alloc _
  have BE : Hid (Blk y w.heap.size 26 #[.slice ao n ac]) := by rw [hy]; exact Blk.new rfl _ _
  have HY := Lib.hid hy
  clear hy
  cases hb : isXB xs with
  | false =>
    have HAL : Hid (alX xs = alT [] 30) := by unfold Hid alX; rw [hb]; rfl
    have HB := Lib.hid hb
    clear hb
    go_enter Tryd.func53, Tryd.ntmps53
    go_wp2_with fail
    rw [← HY.out]
    go_loopw [3, 4] (fun m i wr => i = .int .i64 0 ∧ m = .int .i64 0 ∧ Hid (Since y wr)) (fun _ i _ => 0)
    case atStart => exact ⟨rfl, rfl, Since.refl _⟩
    case round =>
      obtain ⟨rfl, rfl, HW⟩ := hrel
      have hw0 := HW.out
      clear HW
      obtain ⟨p0, p1⟩ := (BE.out.since hw0).one
      have HFIN : Hid (∀ W, Since y W → Calls Tryd.prog 93 #[.int .i64 0] W (OwnOut W (alT [] 30))) := fun W _ => l4SetB_any 0 [] W (by omega) (fun i => by simp)
      by_cases hlt : 0 < n
      · have hlti : (0 : Int) < (n : Int) := by omega
        go_wp2_with fail
        clear p0 p1
        refine (specIX_any _ xs _ ⟨_, rfl, HA.out.since (hsy.trans hw0)⟩ hl).mono ?_
        rintro e w2 ⟨rfl, hs2⟩
        rw [HB.out]
        have h2 := hw0.trans hs2
        go_wp2_with fail
        refine (HFIN.out _ h2).mono ?_
        rintro e w3 ⟨v3, rfl, ho3, hs3⟩
        have HO := Lib.hid (ho3.mono (hsy.trans h2).size)
        have h03 := (hsy.trans h2).trans hs3
        clear ho3
        go_wp2
        go_ret
        exact ⟨_, rfl, by rw [HAL.out]; exact HO.out, h03⟩
      · obtain rfl : n = 0 := by omega
        go_wp2_with fail
        clear p0 p1
        refine (HFIN.out _ hw0).mono ?_
        rintro e w3 ⟨v3, rfl, ho3, hs3⟩
        have HO := Lib.hid (ho3.mono (hsy.trans hw0).size)
        have h03 := (hsy.trans hw0).trans hs3
        clear ho3
        go_wp2
        go_ret
        exact ⟨_, rfl, by rw [HAL.out]; exact HO.out, h03⟩
  | true =>
    have hok := isXB_okT hb
    have HOK := Lib.hid hok
    have HAL : Hid (alX xs = alT (ltrs xs) 30) := by
      unfold Hid alX; rw [if_pos hb]
      exact (alT_stop (n := 9) (fun z hz => by have := ltrs_small hok z hz; omega) 30 (by omega)).symm
    have HB := Lib.hid hb
    have hmt : ∀ k, mskX (xs.take k) < 512 := fun k => mskX_lt _ (fun t ht => hok t (List.mem_of_mem_take ht))
    have HMT := Lib.hid hmt
    clear hb hok hmt
    go_enter Tryd.func53, Tryd.ntmps53
    go_wp2_with fail
    rw [← HY.out]
    go_loopw [3, 4] (fun m i wr => ∃ k : Nat, k ≤ n ∧ i = .int .i64 k ∧ m = .int .i64 ((mskX (xs.take k) : Nat) : Int) ∧ Hid (Since y wr)) (fun _ i _ => n - (intOf i).toNat)
    case atStart => exact ⟨0, Nat.zero_le _, rfl, rfl, Since.refl _⟩
    case round =>
      obtain ⟨k, hk, rfl, rfl, HW⟩ := hrel
      have hw0 := HW.out
      clear HW
      obtain ⟨p0, p1⟩ := (BE.out.since hw0).one
      by_cases hlt : k < n
      · have hx : k < xs.length := by have := HN.out; omega
        obtain ⟨b, off, rfl, hbb, c0, c1, c2, c3⟩ := HC.out k hx
        have hki : (k : Int) < (n : Int) := by omega
        have hk0 : (0 : Int) ≤ (k : Int) := by omega
        have HTK := Lib.hid (List.take_succ_eq_append_getElem hx)
        have HOT := Lib.hid (HOK.out xs[k] (List.getElem_mem hx))
        have hM := HMT.out k
        obtain ⟨t, ht⟩ : ∃ t, t = xs[k] := ⟨_, rfl⟩
        rw [← ht] at c0 c1 c2 c3 HTK HOT
        have HMS : Hid (mskX (xs.take (k + 1)) = if t.kd = 3 then mskX (xs.take k) ||| 2 ^ t.lr.toNat else mskX (xs.take k)) := by unfold Hid; rw [HTK.out, mskX_snoc]
        clear ht
        obtain ⟨M, hMM⟩ : ∃ M, M = mskX (xs.take k) := ⟨_, rfl⟩
        rw [← hMM] at hM HMS ⊢
        clear hMM
        have CK := Lib.hid (And.intro c0 c1)
        clear c0 c1 c2 c3
        go_wp2_with fail
        clear p0 p1
        refine (specIX_any _ xs _ ⟨_, rfl, HA.out.since (hsy.trans hw0)⟩ hl).mono ?_
        rintro e w2 ⟨rfl, hs2⟩
        rw [HB.out]
        have h2 := hw0.trans hs2
        have s2 := since_cells (hsy.trans h2) hbb
        obtain ⟨c0, c1⟩ := CK.out
        rw [← s2] at c0 c1
        clear s2
        obtain ⟨p0, p1⟩ := (BE.out.since h2).one
        by_cases h3 : t.kd = 3
        · have hlr := okT_lr HOT.out h3
          obtain ⟨d, hd⟩ : ∃ d : Nat, t.lr = (d : Int) := ⟨t.lr.toNat, by omega⟩
          have hd9 : d < 9 := by omega
          have e3 : (t.kd == 3) = true := by simp [h3]
          have HMN : Hid (mskX (xs.take (k + 1)) = M ||| 2 ^ d) := by unfold Hid; rw [HMS.out, if_pos h3, hd]; rfl
          rw [hd] at c1
          have hor := Lib.hid (or_pow M d (by omega) (by omega))
          have hwr := Lib.hid (wrap_pow d (by omega))
          have hd0 : (0 : Int) ≤ (d : Int) := by omega
          clear h3 hd hlr
          go_wp2
          go_roundw
          case rel => exact ⟨k + 1, by omega, by go_num, (by rw [HMN.out, hwr.out, hor.out]), h2⟩
          case measure => simp [intOf]; omega
        · have e3 : (t.kd == 3) = false := by simp [h3]
          have HMN : Hid (mskX (xs.take (k + 1)) = M) := by unfold Hid; rw [HMS.out, if_neg h3]
          clear h3
          go_wp2
          go_roundw
          case rel => exact ⟨k + 1, by omega, by go_num, (by rw [HMN.out]), h2⟩
          case measure => simp [intOf]; omega
      · obtain rfl : k = n := by omega
        have HFIN : Hid (∀ W, Since y W → Calls Tryd.prog 93 #[.int .i64 ((mskX (xs.take k) : Nat) : Int)] W (OwnOut W (alT (ltrs xs) 30))) := fun W _ => l4SetB_any _ _ W (by have := HMT.out k; omega) (fun i => by rw [List.take_of_length_le (by have := HN.out; omega)]; exact mskX_bit xs HOK.out i)
        have hM := HMT.out k
        generalize mskX (xs.take k) = M at HFIN hM ⊢
        go_wp2_with fail
        clear p0 p1
        refine (HFIN.out _ hw0).mono ?_
        rintro e w3 ⟨v3, rfl, ho3, hs3⟩
        have HO := Lib.hid (ho3.mono (hsy.trans hw0).size)
        have h03 := (hsy.trans hw0).trans hs3
        clear ho3
        go_wp2
        go_ret
        exact ⟨_, rfl, by rw [HAL.out]; exact HO.out, h03⟩
theorem nine9 {k : Nat} (h : k < 9) : k = 0 ∨ k = 1 ∨ k = 2 ∨ k = 3 ∨ k = 4 ∨ k = 5 ∨ k = 6 ∨ k = 7 ∨ k = 8 := by omega
theorem index_nine (B : Nat → Bool) (k : Nat) (h : k < 9) (w : World) :
    (Instr.index 82 (.agg #[.bool (B 0), .bool (B 1), .bool (B 2), .bool (B 3), .bool (B 4), .bool (B 5), .bool (B 6), .bool (B 7), .bool (B 8)]) (.int .i64 (k : Int))).run Tryd.prog w = .ok (.bool (B k)) w := by
  rcases nine9 h with h | h | h | h | h | h | h | h | h <;> subst h <;> kernel_rfl
set_option maxHeartbeats 4000000 in
set_option maxRecDepth 100000 in
theorem implAL_any (v : Value) (xs : List Tok) (w : World) (hf : Forms w) (h : ExAt w v xs) (hl : xs.length ≤ 1048577) :
    Calls Tryd.prog 35 #[v] w (OwnOut w (alX xs)) := by
  obtain ⟨a, rfl, ha⟩ := h
  have HA := Lib.hid ha
  obtain ⟨ao, ac, rfl, HC⟩ := ha.row
  clear ha
  obtain ⟨n, hn⟩ : ∃ n, n = xs.length := ⟨_, rfl⟩
  rw [← hn] at HA ⊢
  have HN := Lib.hid hn
  have hn9 : n ≤ 1048577 := by omega
  clear hn
  obtain ⟨y, hy⟩ : ∃ y, y = w.alloc (.cells #[.slice ao n ac] 26) := ⟨_, rfl⟩
  have hsy : Since w y := by rw [hy]; exact (Since.refl w).alloc _
  have BE : Hid (Blk y w.heap.size 26 #[.slice ao n ac]) := by rw [hy]; exact Blk.new rfl _ _
  have HF := Lib.hid (hf.since hsy)
  have HY := Lib.hid hy
  clear hy hf
  go_enter Tryd.func35, Tryd.ntmps35
  go_wp2_with fail
  rw [← HY.out]
  refine (implIX_any _ xs _ HF.out ⟨_, rfl, HA.out.since hsy⟩ hl).mono ?_
  rintro e w1 ⟨rfl, hs1⟩
  have hyw := hsy.trans hs1
  cases hb : isXB xs with
  | false =>
    have HAL : Hid (alX xs = []) := by unfold Hid alX; rw [hb]; rfl
    clear hb
    go_wp2
    go_ret
    exact ⟨_, rfl, by rw [HAL.out]; exact own_nil0 _ _, hyw⟩
  | true =>
    have hok := isXB_okT hb
    have HOK := Lib.hid hok
    have HAL : Hid (alX xs = alT (ltrs xs) 9) := by unfold Hid alX; rw [if_pos hb]
    clear hb hok
    obtain ⟨p0, p1⟩ := (BE.out.since (hs1.alloc (.cells #[.bool false, .bool false, .bool false, .bool false, .bool false, .bool false, .bool false, .bool false, .bool false] 82))).one
    obtain ⟨y2, hy2⟩ : ∃ y, y = w1.alloc (.cells #[.bool false, .bool false, .bool false, .bool false, .bool false, .bool false, .bool false, .bool false, .bool false] 82) := ⟨_, rfl⟩
    have hs2 : Since w1 y2 := by rw [hy2]; exact (Since.refl w1).alloc _
    have B9 : Hid (Blk y2 w1.heap.size 82 (occL (xs.take 0)).toArray) := by rw [hy2, List.take_zero, occL_nil]; exact Blk.new rfl _ _
    have HY2 := Lib.hid hy2
    clear hy2
    go_wp2_with fail
    rw [← HY2.out]
    clear p0 p1
    obtain ⟨X, hX⟩ : ∃ X, X = w1.heap.size := ⟨_, rfl⟩
    have hX9 : w.heap.size ≤ X := by rw [hX]; exact hyw.size
    rw [← hX] at B9 ⊢
    clear hX
    have hyw2 := hyw.trans hs2
    clear hs1 hs2 hyw
    go_loopw [15] (fun i wr => ∃ k : Nat, k ≤ n ∧ i = .int .i64 k ∧ Hid (Blk wr X 82 (occL (xs.take k)).toArray) ∧ Hid (Since w wr)) (fun i _ => n - (intOf i).toNat)
    case atStart => exact ⟨0, Nat.zero_le _, rfl, B9.out, hyw2⟩
    case round =>
      obtain ⟨k, hk, rfl, HB9, HW⟩ := hrel
      have hw0 := HW.out
      clear HW
      by_cases hlt : k < n
      · have hx : k < xs.length := by have := HN.out; omega
        obtain ⟨b, off, rfl, hbb, c0, c1, c2, c3⟩ := HC.out k hx
        have s2 := since_cells hw0 hbb
        rw [← s2] at c0 c1 c2 c3
        clear s2
        have hki : (k : Int) < (n : Int) := by omega
        have hk0 : (0 : Int) ≤ (k : Int) := by omega
        have HTK := Lib.hid (List.take_succ_eq_append_getElem hx)
        have HOT := Lib.hid (HOK.out xs[k] (List.getElem_mem hx))
        obtain ⟨t, ht⟩ : ∃ t, t = xs[k] := ⟨_, rfl⟩
        rw [← ht] at c0 c1 c2 c3 HTK HOT
        clear ht
        obtain ⟨y3, hy3⟩ : ∃ y, y = wr.alloc (.cells #[.int .i64 t.kd, .int .i64 t.lr, .int .i64 t.lo, .int .i64 t.hi] 65) := ⟨_, rfl⟩
        have hs3 : Since wr y3 := by rw [hy3]; exact (Since.refl wr).alloc _
        have BT : Hid (Blk y3 wr.heap.size 65 #[.int .i64 t.kd, .int .i64 t.lr, .int .i64 t.lo, .int .i64 t.hi]) := by rw [hy3]; exact Blk.new rfl _ _
        have HB3 := Lib.hid (HB9.out.since hs3)
        have HY3 := Lib.hid hy3
        obtain ⟨d0, d1, d2, d3, _⟩ := BT.out.four
        by_cases h3 : t.kd = 3
        · have hlr := okT_lr HOT.out h3
          obtain ⟨d, hd⟩ : ∃ d : Nat, t.lr = (d : Int) := ⟨t.lr.toNat, by omega⟩
          have hd9 : d < 9 := by omega
          have e3 : (t.kd == 3) = true := by simp [h3]
          have HST : Hid ((occL (xs.take k)).set d (.bool true) = occL (xs.take (k + 1))) := by unfold Hid; rw [HTK.out]; exact occL_set _ t d h3 hd
          have hz0 : y3.cell? ⟨X, d, none⟩ = some (.bool (decide ((d : Int) ∈ ltrs (xs.take k)))) := by
            have := HB3.out.cell d
            rw [this, ← Array.getElem?_toList]
            exact occL_at _ d hd9
          have hz1 : y3.frozen? ⟨X, d, none⟩ = false := HB3.out.frozen d
          rw [hd] at d1 c1
          rw [hy3, hd] at d0 d1 d2 d3 hz0 hz1
          have hd0 : (0 : Int) ≤ (d : Int) := by omega
          have hdi : (d : Int) < 9 := by omega
          have HD := Lib.hid hd
          clear h3 hd hlr hy3
          go_wp2
          go_roundw
          case rel =>
            refine ⟨k + 1, by omega, by go_num, ?_, ?_⟩
            · unfold Hid
              rw [← HST.out]
              have := HB3.out.set d (.bool true)
              rw [List.setIfInBounds_toArray] at this
              rw [← HD.out, ← HY3.out]
              exact this
            · rw [← HD.out, ← HY3.out]
              exact (hw0.trans hs3).setCell (by show w.heap.size ≤ X; exact hX9) _
          case measure => simp [intOf]; omega
        · have e3 : (t.kd == 3) = false := by simp [h3]
          have HST : Hid (occL (xs.take (k + 1)) = occL (xs.take k)) := by unfold Hid; rw [HTK.out]; exact occL_skip _ t h3
          rw [hy3] at d0 d1 d2 d3
          clear h3 hy3
          go_wp2
          go_roundw
          case rel =>
            refine ⟨k + 1, by omega, by go_num, ?_, ?_⟩
            · unfold Hid
              rw [HST.out, ← HY3.out]
              exact HB3.out
            · rw [← HY3.out]
              exact hw0.trans hs3
          case measure => simp [intOf]; omega
      · obtain rfl : k = n := by omega
        have HBX : Hid (Blk wr X 82 (occL xs).toArray) := by have := HB9.out; rwa [List.take_of_length_le (by have := HN.out; omega)] at this
        clear HB9
        have hcell : ∀ i, i < 9 → wr.cell? ⟨X, i, none⟩ = some (.bool (decide ((i : Int) ∈ ltrs xs))) := fun i hi => by
          rw [HBX.out.cell i, ← Array.getElem?_toList]
          exact occL_at _ i hi
        obtain ⟨B, hB⟩ : ∃ B : Nat → Bool, B = fun (i : Nat) => decide (((i : Nat) : Int) ∈ ltrs xs) := ⟨_, rfl⟩
        have hcell2 : ∀ i, i < 9 → wr.cell? ⟨X, i, none⟩ = some (.bool (B i)) := fun i hi => by rw [hB]; exact hcell i hi
        have HBV : Hid (∀ i, B i = decide ((i : Int) ∈ ltrs xs)) := fun i => by rw [hB]
        have x0 := hcell2 0 (by omega)
        have x1 := hcell2 1 (by omega)
        have x2 := hcell2 2 (by omega)
        have x3 := hcell2 3 (by omega)
        have x4 := hcell2 4 (by omega)
        have x5 := hcell2 5 (by omega)
        have x6 := hcell2 6 (by omega)
        have x7 := hcell2 7 (by omega)
        have x8 := hcell2 8 (by omega)
        clear hcell hcell2 hB
        go_wp2
        clear x0 x1 x2 x3 x4 x5 x6 x7 x8
        go_loopw [6, 27] (fun out i wz => ∃ j : Nat, j ≤ 9 ∧ i = .int .i64 j ∧ Hid (Own w.heap.size wz out (alT (ltrs xs) j)) ∧ Hid (Since w wz)) (fun _ i _ => 9 - (intOf i).toNat)
        case atStart => exact ⟨0, Nat.zero_le _, rfl, own_nil0 _ _, hw0⟩
        case round =>
          obtain ⟨j, hj, rfl, HOw, HWz⟩ := hrel
          have hwz := HWz.out
          clear HWz
          by_cases hlt2 : j < 9
          · have hix := fun W => index_nine B j hlt2 W
            have hji : (j : Int) < 9 := by omega
            have hj0 : (0 : Int) ≤ (j : Int) := by omega
            have HLN : Hid ((alT (ltrs xs) j).length ≤ 4194304) := by unfold Hid; have := alT_len (ltrs xs) j; omega
            have HS := Lib.hid (alT_succ (ltrs xs) j)
            have hzin : InI (j : Int) := by unfold InI; omega
            have HBJ := Lib.hid (HBV.out j)
            obtain ⟨bj, hbj⟩ : ∃ bj, bj = B j := ⟨_, rfl⟩
            have hix2 : ∀ W, (Instr.index 82 (.agg #[.bool (B 0), .bool (B 1), .bool (B 2), .bool (B 3), .bool (B 4), .bool (B 5), .bool (B 6), .bool (B 7), .bool (B 8)]) (.int .i64 (j : Int))).run Tryd.prog W = .ok (.bool bj) W := fun W => by rw [hbj]; exact hix W
            rw [← hbj] at HBJ
            clear hix hbj
            cases bj with
            | true =>
              have hm : (j : Int) ∈ ltrs xs := by simpa using HBJ.out.symm
              have HP : Hid (alT (ltrs xs) (j + 1) = alT (ltrs xs) j ++ [(j : Int)]) := by unfold Hid; rw [HS.out, if_pos hm]
              clear hm
              go_wp2_with (at_builtin; go_must (refine wpList_append_one rfl (.tmp 32) (.tmp 34) rfl _ (alT (ltrs xs) j) (by first | rfl | simp [Act.eval]) HOw.out (j : Int) (by first | rfl | simp [Act.eval]) hzin HLN.out hwz ?_); intro v2 w2 ho2 hs2; have HO2 := Lib.hid ho2; clear ho2)
              go_roundw
              case rel => exact ⟨j + 1, by omega, by go_num, (by rw [HP.out]; exact HO2.out), hs2⟩
              case measure => simp [intOf]; omega
            | false =>
              have hm : ¬ ((j : Int) ∈ ltrs xs) := by simpa using HBJ.out.symm
              have HP : Hid (alT (ltrs xs) (j + 1) = alT (ltrs xs) j) := by unfold Hid; rw [HS.out, if_neg hm, List.append_nil]
              clear hm
              go_wp2
              go_roundw
              case rel => exact ⟨j + 1, by omega, by go_num, (by rw [HP.out]; exact HOw.out), hwz⟩
              case measure => simp [intOf]; omega
          · obtain rfl : j = 9 := by omega
            have HO := Lib.hid HOw.out
            clear HOw
            go_wp2
            go_ret
            exact ⟨_, rfl, by rw [HAL.out]; exact HO.out, hwz⟩
end Go.Proofs.YtiojgahjfndmdaaDoor
