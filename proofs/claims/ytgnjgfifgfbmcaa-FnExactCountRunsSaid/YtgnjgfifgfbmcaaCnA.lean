/- Arrays of counts; one letter's counts, the program's. -/
import Derived.Test.YtgnjgfifgfbmcaaCnM
import Derived.Laws.CopyOwn
namespace Go.Proofs.Ytgnjgfifgfbmcaa
set_option maxRecDepth 100000
open Go.ChangeShapes Go.WideShapes Go.ChangeAt Go.RowKit
set_option linter.unusedVariables false
set_option linter.unusedSimpArgs false

/-- An array of 21 counts. -/
def cntA (c : Nat → Nat) : Array Value := ((List.range 21).map fun k => Value.int .i64 ((c k : Nat) : Int)).toArray
theorem cntA_size (c : Nat → Nat) : (cntA c).size = 21 := by simp [cntA]
theorem cntA_at (c : Nat → Nat) (k : Nat) (h : k < 21) : (cntA c)[k]? = some (.int .i64 ((c k : Nat) : Int)) := by simp [cntA, h]
theorem cntA_one (c : Nat → Nat) : (cntA c).all (·.oneCell') = true := by
  rw [Array.all_eq_true_iff_forall_mem]
  intro x hx
  unfold cntA at hx
  rw [List.mem_toArray, List.mem_map] at hx
  obtain ⟨k, _, rfl⟩ := hx
  rfl
theorem cntA_set (c d : Nat → Nat) (k : Nat) (h : ∀ j, j ≠ k → d j = c j) : (cntA c).setIfInBounds k (.int .i64 ((d k : Nat) : Int)) = cntA d := by
  refine Array.ext_getElem? fun i => ?_
  rw [Array.getElem?_setIfInBounds]
  by_cases hi : i < 21
  · rw [cntA_at d i hi]
    by_cases e : k = i
    · subst e; rw [if_pos rfl, if_pos (by rw [cntA_size]; exact hi)]
    · rw [if_neg e, cntA_at c i hi, h i (fun e2 => e e2.symm)]
  · have h1 : (cntA c)[i]? = none := Array.getElem?_eq_none (by rw [cntA_size]; omega)
    have h2 : (cntA d)[i]? = none := Array.getElem?_eq_none (by rw [cntA_size]; omega)
    rw [h1, h2]
    split
    · rename_i e; subst e; rw [if_neg (by rw [cntA_size]; omega)]
    · rfl
theorem cntA_congr {c d : Nat → Nat} (h : ∀ j, j < 21 → c j = d j) : cntA c = cntA d := by
  unfold cntA
  congr 1
  refine List.map_congr_left fun j hj => ?_
  rw [List.mem_range] at hj
  rw [h j hj]
theorem cntA_zero : cntA (fun _ => 0) = #[.int .i64 0, .int .i64 0, .int .i64 0, .int .i64 0, .int .i64 0, .int .i64 0, .int .i64 0, .int .i64 0, .int .i64 0, .int .i64 0, .int .i64 0, .int .i64 0, .int .i64 0, .int .i64 0, .int .i64 0, .int .i64 0, .int .i64 0, .int .i64 0, .int .i64 0, .int .i64 0, .int .i64 0] := rfl
theorem cntA_c0 : cntA c0C = #[.int .i64 1, .int .i64 0, .int .i64 0, .int .i64 0, .int .i64 0, .int .i64 0, .int .i64 0, .int .i64 0, .int .i64 0, .int .i64 0, .int .i64 0, .int .i64 0, .int .i64 0, .int .i64 0, .int .i64 0, .int .i64 0, .int .i64 0, .int .i64 0, .int .i64 0, .int .i64 0, .int .i64 0] := rfl
theorem twenty1 {k : Nat} (h : k < 21) : k = 0 ∨ k = 1 ∨ k = 2 ∨ k = 3 ∨ k = 4 ∨ k = 5 ∨ k = 6 ∨ k = 7 ∨ k = 8 ∨ k = 9 ∨ k = 10 ∨ k = 11 ∨ k = 12 ∨ k = 13 ∨ k = 14 ∨ k = 15 ∨ k = 16 ∨ k = 17 ∨ k = 18 ∨ k = 19 ∨ k = 20 := by omega
theorem info_rc (c : Nat → Nat) : (Try.prog.info? 76).map (·.size) = some (cntA c).size := by rw [cntA_size]; kernel_rfl
theorem index_cnt (c : Nat → Nat) (k : Nat) (h : k < 21) (w : World) : (Instr.index 76 (.agg (cntA c)) (.int .i64 (k : Int))).run Try.prog w = .ok (.int .i64 ((c k : Nat) : Int)) w := by
  rcases twenty1 h with h | h | h | h | h | h | h | h | h | h | h | h | h | h | h | h | h | h | h | h | h <;> subst h <;> kernel_rfl
theorem wpList_store_blk {ops : Array Oper} {rest : List Oper} {o : Oper} {a : Act} {w : World} {Q : Exit → Act → World → Prop} (hgd : o.guard = none) (ty : TypeId) (x y : Operand) (ho : o.op = .store ty x y)
    (g : Nat) (cells : Array Value) (hx : a.eval x = .pointer (some ⟨g, 0, none⟩)) (hy : a.eval y = .agg cells) (t : TypeId) (old : Array Value) (hB : Blk w g t old) (hi : (Try.prog.info? ty).map (·.size) = some cells.size)
    (hold : old.size = cells.size) (h1 : cells.all (·.oneCell') = true) (h : wpList Try.prog ops Q rest (a.put o.dst undef) (w.setRow g cells)) : wpList Try.prog ops Q (o :: rest) a w :=
  wpList_plain hgd fun _ hK => wp_store_row ty x y ho g cells hx hy t old hB hi hold h1 (hK _ _ h)
theorem Blk.setRow {w : World} {g : Nat} {t : TypeId} {cs : Array Value} (h : Blk w g t cs) (ds : Array Value) : Blk (w.setRow g ds) g t ds := setRow_heap w g cs ds t (0, 0) h
theorem Since.setRow {w w' : World} (h : Since w w') {g : Nat} (hg : w.heap.size ≤ g) (cs : Array Value) : Since w (w'.setRow g cs) := below_setRow h hg cs
set_option maxRecDepth 100000 in
theorem addRuns_any (a b : Nat) (w : World) (ha : a ≤ 1000000) (hb : b ≤ 1000000) : Calls Try.prog 54 #[.int .i64 (a : Int), .int .i64 (b : Int)] w fun e w' => e = .returned (.int .i64 ((min 1000000 (a + b) : Nat) : Int)) ∧ w = w' := by
  by_cases h : 1000000 < a + b
  · have h1 : (1000000 : Int) < (a : Int) + (b : Int) := by omega
    have HR : Hid (((min 1000000 (a + b) : Nat) : Int) = 1000000) := by unfold Hid; rw [min_if2, if_pos h1]
    clear h
    go_enter Try.func54, Try.ntmps54
    go_wp2
    go_ret
    exact ⟨ret_int HR.out.symm, rfl⟩
  · have h1 : ¬ ((1000000 : Int) < (a : Int) + (b : Int)) := by omega
    have HR : Hid (((min 1000000 (a + b) : Nat) : Int) = (a : Int) + (b : Int)) := by unfold Hid; rw [min_if2, if_neg h1]
    clear h
    go_enter Try.func54, Try.ntmps54
    go_wp2
    go_ret
    exact ⟨ret_int HR.out.symm, rfl⟩
set_option maxHeartbeats 1000000 in
set_option maxRecDepth 100000 in
theorem implCA_any (v : Value) (p : Psn) (c : Nat → Nat) (x : Int) (w : World) (h : PsAt w v p) (hv : posB p = true) (hcl : ∀ j, c j ≤ 1000000) :
    Calls Try.prog 52 #[v, .agg (cntA c), .int .i64 x] w fun e w' => e = .returned (.agg (cntA (stpC p c x))) ∧ Since w w' := by
  have HP := Lib.hid h
  have HCL := Lib.hid hcl
  obtain ⟨a, b, rfl, ha, hb, hi1, hi2⟩ := h
  obtain ⟨ao, ac, rfl, _⟩ := ha.row
  obtain ⟨bo, bc, rfl, _⟩ := hb.row
  clear ha hb hcl
  obtain ⟨n, hn⟩ : ∃ n, n = p.ls.length := ⟨_, rfl⟩
  obtain ⟨m, hm⟩ : ∃ m, m = p.fo.length := ⟨_, rfl⟩
  rw [← hn, ← hm] at HP ⊢
  have HN := Lib.hid hn
  have hn9 : n ≤ 20 := by rw [hn]; exact (posB_parts hv).1
  have HPT : Hid (∀ s, s ≤ 21 → 2 ^ s < 4194305) := fun s hs => pow_two_lt hv hs
  have HAL : Hid (∀ S l, aft p S l < 2097152) := (posB_plain hv).2.2.2.2.2.2
  have HAF : Hid (∀ (S : Nat) (l : Int) W, Since w W → S < 4194305 → Calls Try.prog 61 #[.agg #[.slice ao n ac, .int .i64 p.fi, .int .i64 p.la, .slice bo m bc, .bool p.nu], .int .i64 (S : Int), .int .i64 l] W fun e w' => e = .returned (.int .i64 (aft p S l : Int)) ∧ Since W w') := fun S l W hW hS => implAF_any _ p S l W (HP.out.since hW) hv (by omega)
  have HHS : Hid (∀ (S k : Nat) W, S < 2097152 → k ≤ 21 → Calls Try.prog 53 #[.int .i64 (S : Int), .int .i64 (k : Int)] W fun e w' => e = .returned (.bool (S.testBit k)) ∧ W = w') := fun S k W hS hk => has_any S k W (by omega) (by omega)
  have HFIN : Hid (cntA (fun j => cntK p c x j 21) = cntA (stpC p c x)) := by
    refine cntA_congr fun j _ => ?_
    have e21 : n + 1 + (20 - n) = 21 := by omega
    have := cntK_far p c x j (20 - n)
    rw [← hn, e21] at this
    exact this
  obtain ⟨y, hy⟩ : ∃ y, y = ((w.alloc (.cells #[.slice ao n ac, .int .i64 p.fi, .int .i64 p.la, .slice bo m bc, .bool p.nu] 26)).alloc (.cells (cntA c) 76)).alloc (.cells #[.int .i64 0, .int .i64 0, .int .i64 0, .int .i64 0, .int .i64 0, .int .i64 0, .int .i64 0, .int .i64 0, .int .i64 0, .int .i64 0, .int .i64 0, .int .i64 0, .int .i64 0, .int .i64 0, .int .i64 0, .int .i64 0, .int .i64 0, .int .i64 0, .int .i64 0, .int .i64 0, .int .i64 0] 76) := ⟨_, rfl⟩
  have hs0 : Since w y := by rw [hy]; exact (((Since.refl w).alloc _).alloc _).alloc _
  have hsz : y.heap.size = w.heap.size + 3 := by rw [hy]; simp
  have B0 : Hid (Blk y w.heap.size 26 #[.slice ao n ac, .int .i64 p.fi, .int .i64 p.la, .slice bo m bc, .bool p.nu]) := by rw [hy]; exact ((Blk.new rfl _ _).alloc _).alloc _
  have B1 : Hid (Blk y (w.heap.size + 1) 76 (cntA c)) := by rw [hy]; exact (Blk.new (by simp) _ _).alloc _
  have B2 : Hid (Blk y (w.heap.size + 1 + 1) 76 #[.int .i64 0, .int .i64 0, .int .i64 0, .int .i64 0, .int .i64 0, .int .i64 0, .int .i64 0, .int .i64 0, .int .i64 0, .int .i64 0, .int .i64 0, .int .i64 0, .int .i64 0, .int .i64 0, .int .i64 0, .int .i64 0, .int .i64 0, .int .i64 0, .int .i64 0, .int .i64 0, .int .i64 0]) := by rw [hy]; exact Blk.new (by simp) _ _
  obtain ⟨y2, hy2⟩ : ∃ y2, y2 = y.alloc (.cells #[.int .i64 0, .int .i64 0, .int .i64 0, .int .i64 0, .int .i64 0, .int .i64 0, .int .i64 0, .int .i64 0, .int .i64 0, .int .i64 0, .int .i64 0, .int .i64 0, .int .i64 0, .int .i64 0, .int .i64 0, .int .i64 0, .int .i64 0, .int .i64 0, .int .i64 0, .int .i64 0, .int .i64 0] 76) := ⟨_, rfl⟩
  have hs2 : Since y y2 := by rw [hy2]; exact (Since.refl y).alloc _
  have B3 : Hid (Blk y2 (w.heap.size + 1 + 1 + 1) 76 (cntA (fun j => cntK p c x j 0))) := by rw [hy2]; exact Blk.new (by rw [hsz]) _ _
  have HY := Lib.hid hy
  have HY2 := Lib.hid hy2
  clear hn hm hv hy hy2
  go_enter Try.func52, Try.ntmps52
  go_upto_region 2 with fail
  rw [← HY.out, ← HY2.out]
  go_wp2_with (refine wpList_load_row rfl 76 _ rfl (w.heap.size + 1) rfl 76 (cntA c) (0, 0) _ (B1.out.since hs2) Try.underlying76 rfl (info_rc c) ?_)

  go_loopw [13] (fun i wr => ∃ s : Nat, s ≤ 21 ∧ i = .int .i64 s ∧ Hid (Blk wr (w.heap.size + 1 + 1 + 1) 76 (cntA (fun j => cntK p c x j s))) ∧ Hid (Since y wr)) (fun i _ => 21 - (intOf i).toNat)
  case atStart => exact ⟨0, by omega, rfl, B3, hs2⟩
  case round =>
    obtain ⟨s, hs, rfl, HX, HS⟩ := hrel
    obtain ⟨wq, hwq⟩ : ∃ W, W = wr := ⟨_, rfl⟩
    subst hwq
    clear B3
    have s5 := hs0.trans HS.out
    by_cases hlt : s < 21
    · have hs1' : (0 : Int) ≤ (s : Int) := by omega
      have hs2' : (s : Int) < 21 := by omega
      have hix : ∀ W, (Instr.index 76 (.agg (cntA c)) (.int .i64 (s : Int))).run Try.prog W = .ok (.int .i64 ((c s : Nat) : Int)) W := fun W => index_cnt c s hlt W
      obtain ⟨cs, hcs⟩ : ∃ cs, cs = c s := ⟨_, rfl⟩
      have hcs9 : cs ≤ 1000000 := by rw [hcs]; exact HCL.out s
      obtain ⟨S, hS⟩ : ∃ S, S = 2 ^ s := ⟨_, rfl⟩
      have hS9 : S < 4194305 := by rw [hS]; exact HPT.out s (by omega)
      have HBIT : Hid (∀ j, cntK p c x j (s + 1) = if (aft p S x).testBit j = true then min 1000000 (cntK p c x j s + c s) else cntK p c x j s) := fun j => by rw [hS]; exact cntK_bit p c x j s
      rw [← hcs] at hix HBIT
      have HSO : Hid (∀ W, Calls Try.prog 41 #[.int .i64 (s : Int)] W fun e w' => e = .returned (.int .i64 (S : Int)) ∧ W = w') := fun W => by rw [hS]; exact setOf_any s W (by omega)
      clear hS hcs
      have HKC : Hid (∀ w', Since wq w' → w'.cell? ⟨w.heap.size, 0, none⟩ = some (.slice ao n ac) ∧ w'.cell? ⟨w.heap.size, 1, none⟩ = some (.int .i64 p.fi) ∧ w'.cell? ⟨w.heap.size, 2, none⟩ = some (.int .i64 p.la) ∧ w'.cell? ⟨w.heap.size, 3, none⟩ = some (.slice bo m bc) ∧ w'.cell? ⟨w.heap.size, 4, none⟩ = some (.bool p.nu)) := by
        intro w' hs
        obtain ⟨⟨r0, r1, r2, r3, r4⟩, _⟩ := ((B0.out.since HS.out).since hs).fiveP
        exact ⟨r0, r1, r2, r3, r4⟩
      go_wp2_with fail
      clear hix
      refine wp_region_held_drew (S := (fun w' => w'.cell? ⟨w.heap.size, 0, none⟩ = some (.slice ao n ac) ∧ w'.cell? ⟨w.heap.size, 1, none⟩ = some (.int .i64 p.fi) ∧ w'.cell? ⟨w.heap.size, 2, none⟩ = some (.int .i64 p.la) ∧ w'.cell? ⟨w.heap.size, 3, none⟩ = some (.slice bo m bc) ∧ w'.cell? ⟨w.heap.size, 4, none⟩ = some (.bool p.nu))) (by kernel_rfl) (HKC.out _ (Since.refl _).drew) (fun hHeld => ?_)
      refine take_yes 0 (some 17) (v := ?_) rfl (by kernel_rfl) (by kernel_rfl) (by kernel_rfl) (by kernel_rfl) (fun _ _ _ h => h) (by rfl) (by assumption) ?_ ?_
      rotate_left
      · (intro w' hSw; (try dsimp only at hSw); go_simp; try with_reducible rfl)
      try simp only [Act.put, List.setIfInBounds_toArray, List.set_cons_zero, List.set_cons_succ]
      refine take_yes 1 (some 18) (v := ?_) rfl (by kernel_rfl) (by kernel_rfl) (by kernel_rfl) (by kernel_rfl) (fun _ _ _ h => h) (by rfl) (by assumption) ?_ ?_
      rotate_left
      · (intro w' hSw; (try dsimp only at hSw); go_simp; try with_reducible rfl)
      try simp only [Act.put, List.setIfInBounds_toArray, List.set_cons_zero, List.set_cons_succ]
      refine take_yes 3 (some 20) (v := ?_) rfl (by kernel_rfl) (by kernel_rfl) (by kernel_rfl) (by kernel_rfl) (fun _ _ _ h => h) (by rfl) (by assumption) ?_ ?_
      rotate_left
      · (intro w' hSw; (try dsimp only at hSw); go_simp; try with_reducible rfl)
      try simp only [Act.put, List.setIfInBounds_toArray, List.set_cons_zero, List.set_cons_succ]
      refine take_run 2 rfl (by kernel_rfl) (by rfl) (fun K hK => ?_)
      go_simp
      refine (HSO.out _).mono ?_
      rintro e wx ⟨rfl, rfl⟩
      refine hK.out _ _ (HKC.out _ (Since.refl _).drew) (fun hHeld1 => ?_)
      clear hK K hHeld
      try simp only [Act.put, List.setIfInBounds_toArray, List.set_cons_zero, List.set_cons_succ]
      refine take_run 4 rfl (by kernel_rfl) (by rfl) (fun K hK => ?_)
      go_simp
      refine (HAF.out _ _ _ (s5.drew) hS9).mono ?_
      rintro e w5 ⟨rfl, hs6⟩
      have hc6 := Since.of_drew hs6
      refine hK.out _ _ (HKC.out _ hc6) (fun hHeld2 => ?_)
      clear hK K hHeld1
      try simp only [Act.put, List.setIfInBounds_toArray, List.set_cons_zero, List.set_cons_succ]
      refine take_yes 5 (some 10) (v := ?_) rfl (by kernel_rfl) (by kernel_rfl) (by kernel_rfl) (by kernel_rfl) (fun _ _ _ h => h) (by rfl) (by assumption) ?_ ?_
      rotate_left
      · (intro w' hSw; (try dsimp only at hSw); go_simp; try with_reducible rfl)
      try simp only [Act.put, List.setIfInBounds_toArray, List.set_cons_zero, List.set_cons_succ]
      refine wpAnyH_done (by kernel_rfl) ?_ _
      clear hHeld2
      obtain ⟨R, hR⟩ : ∃ R, R = aft p S x := ⟨_, rfl⟩
      rw [← hR] at HBIT ⊢
      have hR9 : R < 2097152 := by rw [hR]; exact HAL.out _ _
      clear hR
      have HX5 : Hid (Blk w5 (w.heap.size + 1 + 1 + 1) 76 (cntA (mixC p c x s 0))) := by rw [mixC_zero]; exact HX.out.since hc6
      have s6 := Lib.hid (HS.out.trans hc6)
      clear HX
      go_wp2_with fail
      go_loopw [22] (fun i wk => ∃ j : Nat, j ≤ 21 ∧ i = .int .i64 j ∧ Hid (Blk wk (w.heap.size + 1 + 1 + 1) 76 (cntA (mixC p c x s j))) ∧ Hid (Since y wk)) (fun i _ => 21 - (intOf i).toNat)
      case atStart => exact ⟨0, by omega, rfl, HX5, s6⟩
      case round =>
        obtain ⟨j, hj, rfl, HXK, HSK⟩ := hrel
        obtain ⟨wk, hwk⟩ : ∃ W, W = wr := ⟨_, rfl⟩
        subst hwk
        clear HX5 s6
        by_cases hlt3 : j < 21
        · have hj1 : (0 : Int) ≤ (j : Int) := by omega
          have hj2 : (j : Int) < 21 := by omega
          obtain ⟨T, hT⟩ : ∃ T, T = cntK p c x j s := ⟨_, rfl⟩
          have cx := HXK.out.cell j
          rw [cntA_at _ _ hlt3, mixC_at, ← hT] at cx
          have fx := HXK.out.frozen j
          have hT9 : T ≤ 1000000 := by rw [hT]; exact cntK_le ..
          obtain ⟨bt, hbt⟩ : ∃ bt, bt = R.testBit j := ⟨_, rfl⟩
          have HB := HBIT.out j
          rw [← hbt, ← hT] at HB
          have HBB := Lib.hid HB
          have HTT := Lib.hid hT
          have HHB : Hid (∀ W, Calls Try.prog 53 #[.int .i64 (R : Int), .int .i64 (j : Int)] W fun e w' => e = .returned (.bool bt) ∧ W = w') := fun W => by rw [hbt]; exact HHS.out R j W hR9 (by omega)
          clear hT HB hbt
          cases bt with
          | false =>
            have HNXT : Hid (mixC p c x s (j + 1) = mixC p c x s j) := by
              unfold Hid; refine mixC_skip p c x s j ?_; rw [HBB.out, HTT.out]; rfl
            go_wp2_with fail
            refine (HHB.out _).mono ?_
            rintro e wx ⟨rfl, rfl⟩
            go_wp2_with fail
            go_roundw
            case rel => exact ⟨j + 1, by omega, by go_num, by rw [HNXT.out]; exact HXK, HSK⟩
            case measure => simp [intOf]; omega
          | true =>
            have HNXT : Hid (cntK p c x j (s + 1) = min 1000000 (T + cs)) := by unfold Hid; rw [HBB.out]; rfl
            obtain ⟨V, hV⟩ : ∃ V, V = min 1000000 (T + cs) := ⟨_, rfl⟩
            have HADD : Hid (∀ W, Calls Try.prog 54 #[.int .i64 (T : Int), .int .i64 (cs : Int)] W fun e w' => e = .returned (.int .i64 (V : Int)) ∧ W = w') := fun W => by rw [hV]; exact addRuns_any T cs W hT9 hcs9
            have hgo : Hid (Blk (wk.setCell ⟨w.heap.size + 1 + 1 + 1, j, none⟩ (.int .i64 (V : Int))) (w.heap.size + 1 + 1 + 1) 76 (cntA (mixC p c x s (j + 1)))) := by
              have h1 := HXK.out.set j (.int .i64 (V : Int))
              rw [hV, ← HNXT.out, ← mixC_next p c x s j, cntA_set _ _ j (fun i hi => mixC_else p c x s j i hi)] at h1
              rw [mixC_next p c x s j, HNXT.out, ← hV] at h1
              exact h1
            have hso : Hid (Since y (wk.setCell ⟨w.heap.size + 1 + 1 + 1, j, none⟩ (.int .i64 (V : Int)))) := HSK.out.setCell (by rw [hsz]; exact Nat.le_refl _) _
            clear hV
            go_wp2_with fail
            refine (HHB.out _).mono ?_
            rintro e wx ⟨rfl, rfl⟩
            go_wp2_with fail
            refine (HADD.out _).mono ?_
            rintro e wx ⟨rfl, rfl⟩
            go_wp2_with fail
            go_roundw
            case rel => exact ⟨j + 1, by omega, by go_num, hgo, hso⟩
            case measure => simp [intOf]; omega
        · obtain rfl : j = 21 := by omega
          have HX7 : Hid (Blk wk (w.heap.size + 1 + 1 + 1) 76 (cntA (fun i => cntK p c x i (s + 1)))) := by
            have : cntA (mixC p c x s 21) = cntA (fun i => cntK p c x i (s + 1)) := cntA_congr fun i hi => by unfold mixC; rw [if_pos hi]
            rw [← this]; exact HXK.out
          go_wp2_with fail
          go_roundw
          case rel => exact ⟨s + 1, by omega, by go_num, HX7, HSK⟩
          case measure => simp [intOf]; omega
    · obtain rfl : s = 21 := by omega
      have HX9 : Hid (Blk wq (w.heap.size + 1 + 1 + 1) 76 (cntA (stpC p c x))) := by rw [← HFIN.out]; exact HX.out
      have HB2 := Lib.hid (B2.out.since HS.out)
      have HFB := Lib.hid (HB2.out.setRow (cntA (stpC p c x)))
      have HFS : Hid (Since w (wq.setRow (w.heap.size + 1 + 1) (cntA (stpC p c x)))) := Since.setRow s5 (by omega) _
      go_wp2_with (first
        | (refine wpList_load_row rfl 76 _ rfl (w.heap.size + 1 + 1 + 1) rfl 76 (cntA (stpC p c x)) (0, 0) _ HX9.out Try.underlying76 rfl (info_rc _) ?_)
        | (refine wpList_store_blk rfl 76 _ _ rfl (w.heap.size + 1 + 1) (cntA (stpC p c x)) rfl rfl 76 _ HB2.out (info_rc _) (by rw [cntA_size]; rfl) (cntA_one _) ?_))
      refine bodyPost_ret (v := .agg (cntA (stpC p c x))) (results_cell_row rfl _ _ (w.heap.size + 1 + 1) 76 _ (0, 0) _ rfl HFB.out Try.underlying76 rfl (info_rc _)) rfl ?_
      exact ⟨rfl, HFS.out⟩
end Go.Proofs.Ytgnjgfifgfbmcaa
