/- The format of a token and of an expression, the model's and the program's. -/
import Derived.Test.YtiojgahjfndmdaaDoorIx
import Derived.Test.YtiojgahjfndmdaaDoorFmt
import Derived.Test.YtiojgahjfndmdaaDoorLetF
import Derived.Test.YtiojgahjfndmdaaDoorWf
import Derived.Test.YtiojgahjfndmdaaDoorK1
import Derived.Lib.ItoaLen
namespace Go.Proofs.YtiojgahjfndmdaaDoor
set_option maxRecDepth 100000
open Go.ChangeShapes Go.WideShapes Go.ChangeAt Go.RowKit
set_option linter.unusedVariables false
set_option linter.unusedSimpArgs false

def itoaX (n : Int) : ByteArray := ⟨(Lib.itoa n).toArray⟩
theorem itoaX_size (n : Int) (h0 : -9223372036854775808 ≤ n) (h1 : n ≤ 9223372036854775807) : (itoaX n).size ≤ 21 := by
  unfold itoaX; simpa [ByteArray.size] using Lib.itoa_length_le n h0 h1
def fmtR (lo hi : Int) : ByteArray := (⟨#[123]⟩ : ByteArray) ++ itoaX lo ++ ⟨#[44]⟩ ++ itoaX hi ++ ⟨#[125]⟩
def fmtT (t : Tok) : ByteArray := if t.kd = 3 then fmtL t.lr else if t.kd = 7 then fmtR t.lo t.hi else frB t.kd.toNat
theorem fmtT_flat {t : Tok} {k : Nat} (h : t.kd = (k : Int)) (h3 : k ≠ 3) (h7 : k ≠ 7) : fmtT t = frB k := by
  unfold fmtT; rw [if_neg (by omega), if_neg (by omega), h]; rfl
theorem okT_rep_in {t : Tok} (h : okT t = true) (h7 : t.kd = 7) : 0 ≤ t.lo ∧ t.lo ≤ 3 ∧ 0 ≤ t.hi ∧ t.hi ≤ 3 := by
  unfold okT at h
  simp only [Bool.or_eq_true, Bool.and_eq_true, decide_eq_true_eq] at h
  omega
theorem frB_size (k : Nat) : (frB k).size ≤ 2 := by
  unfold frB
  split <;> decide
theorem fmtT_size {t : Tok} (h : okT t = true) : (fmtT t).size ≤ 45 := by
  unfold fmtT
  split
  · have := fmtL_size t.lr; omega
  · split
    · rename_i h7
      have hb := okT_rep_in h h7
      have a := itoaX_size t.lo (by omega) (by omega)
      have b := itoaX_size t.hi (by omega) (by omega)
      unfold fmtR
      simp only [ByteArray.size_append]
      have e1 : (⟨#[123]⟩ : ByteArray).size = 1 := rfl
      have e2 : (⟨#[44]⟩ : ByteArray).size = 1 := rfl
      have e3 : (⟨#[125]⟩ : ByteArray).size = 1 := rfl
      omega
    · have := frB_size t.kd.toNat; omega
set_option maxHeartbeats 2000000 in
set_option maxRecDepth 100000 in
theorem l8Token_any (t : Tok) (w : World) (hok : okT t = true) : Calls Tryd.prog 127 #[kv t] w fun e w' => e = .returned (.string (fmtT t)) ∧ Since w w' := by
  obtain ⟨hk1, hk7⟩ := okT_kd hok
  have hin : t.kd = 7 → 0 ≤ t.lo ∧ t.lo ≤ 3 ∧ 0 ≤ t.hi ∧ t.hi ≤ 3 := okT_rep_in hok
  obtain ⟨kd, lr, lo, hi⟩ := t
  unfold kv
  dsimp only at hk1 hk7 hin ⊢
  have hs1 : ∀ k, Since w (w.alloc (.cells #[.int .i64 k, .int .i64 lr, .int .i64 lo, .int .i64 hi] 65)) := fun k => (Since.refl w).alloc _
  clear hok
  by_cases c1 : kd = 1
  · subst c1
    have hs1 := hs1 1
    have HO := Lib.hid (fmtT_flat (t := ⟨1, lr, lo, hi⟩) (k := 1) rfl (by decide) (by decide))
    skip
    skip
    skip
    clear hk1 hk7 hin
    go_enter Tryd.func127, Tryd.ntmps127
    go_wp2
    go_ret
    exact ⟨ret_str HO.out.symm, hs1⟩
  by_cases c2 : kd = 2
  · subst c2
    have hs1 := hs1 2
    have HO := Lib.hid (fmtT_flat (t := ⟨2, lr, lo, hi⟩) (k := 2) rfl (by decide) (by decide))
    skip
    skip
    skip
    clear hk1 hk7 hin
    go_enter Tryd.func127, Tryd.ntmps127
    go_wp2
    go_ret
    exact ⟨ret_str HO.out.symm, hs1⟩
  by_cases c4 : kd = 4
  · subst c4
    have hs1 := hs1 4
    have HO := Lib.hid (fmtT_flat (t := ⟨4, lr, lo, hi⟩) (k := 4) rfl (by decide) (by decide))
    skip
    skip
    skip
    clear hk1 hk7 hin
    go_enter Tryd.func127, Tryd.ntmps127
    go_wp2
    go_ret
    exact ⟨ret_str HO.out.symm, hs1⟩
  by_cases c5 : kd = 5
  · subst c5
    have hs1 := hs1 5
    have HO := Lib.hid (fmtT_flat (t := ⟨5, lr, lo, hi⟩) (k := 5) rfl (by decide) (by decide))
    skip
    skip
    skip
    clear hk1 hk7 hin
    go_enter Tryd.func127, Tryd.ntmps127
    go_wp2
    go_ret
    exact ⟨ret_str HO.out.symm, hs1⟩
  by_cases c6 : kd = 6
  · subst c6
    have hs1 := hs1 6
    have HO := Lib.hid (fmtT_flat (t := ⟨6, lr, lo, hi⟩) (k := 6) rfl (by decide) (by decide))
    skip
    skip
    skip
    clear hk1 hk7 hin
    go_enter Tryd.func127, Tryd.ntmps127
    go_wp2
    go_ret
    exact ⟨ret_str HO.out.symm, hs1⟩
  by_cases c3 : kd = 3
  · subst c3
    have hs1 := hs1 3
    have HO : Hid (fmtT ⟨3, lr, lo, hi⟩ = fmtL lr) := by unfold Hid fmtT; rw [if_pos rfl]
    clear hk1 hk7 hin
    go_enter Tryd.func127, Tryd.ntmps127
    go_wp2_with fail
    refine (specFL_any lr _).mono ?_
    rintro e w2 ⟨rfl, hs2⟩
    have hs12 := hs1.trans hs2
    go_wp2
    go_ret
    exact ⟨ret_str HO.out.symm, hs12⟩
  · obtain rfl : kd = 7 := by omega
    obtain ⟨l0, l3, h0, h3⟩ := hin rfl
    have hs1 := hs1 7
    have HO : Hid (fmtT ⟨7, lr, lo, hi⟩ = (⟨#[123]⟩ : ByteArray) ++ itoaX lo ++ ⟨#[44]⟩ ++ itoaX hi ++ ⟨#[125]⟩) := by unfold Hid fmtT; rw [if_neg (by show ¬ ((7 : Int) = 3); decide), if_pos rfl]; rfl
    have sA := itoaX_size lo (by omega) (by omega)
    have sB := itoaX_size hi (by omega) (by omega)
    have HA : Hid (∀ W, Since w W → Calls Tryd.prog 130 #[.int .i64 lo] W fun en w' => en = .returned (.string (itoaX lo)) ∧ Since W w') := fun W _ => specFI_any lo W (by omega) (by omega)
    have HB : Hid (∀ W, Since w W → Calls Tryd.prog 130 #[.int .i64 hi] W fun en w' => en = .returned (.string (itoaX hi)) ∧ Since W w') := fun W _ => specFI_any hi W (by omega) (by omega)
    generalize itoaX lo = A at HO sA HA
    generalize itoaX hi = B at HO sB HB
    have n1 : ¬ 9223372036854775807 < 1 + A.size := by omega
    have n2 : ¬ 9223372036854775807 < 1 + A.size + 1 := by omega
    have n3 : ¬ 9223372036854775807 < 1 + A.size + 1 + B.size := by omega
    have n4 : ¬ 9223372036854775807 < 1 + A.size + 1 + B.size + 1 := by omega
    clear hk1 hk7 hin c1 c2 c3 c4 c5 c6 l0 l3 h0 h3
    go_enter Tryd.func127, Tryd.ntmps127
    go_upto_region 14 with fail
    have B0 : Hid (Blk (w.alloc (.cells #[.int .i64 7, .int .i64 lr, .int .i64 lo, .int .i64 hi] 65)) w.heap.size 65 #[.int .i64 7, .int .i64 lr, .int .i64 lo, .int .i64 hi]) := Blk.new rfl _ _
    generalize w.alloc (.cells #[.int .i64 7, .int .i64 lr, .int .i64 lo, .int .i64 hi] 65) = y at hs1 B0 ⊢
    have hsy := hs1
    have HKC : Hid (∀ w', Since y w' → w'.cell? ⟨w.heap.size, 0, none⟩ = some (.int .i64 7) ∧ w'.cell? ⟨w.heap.size, 1, none⟩ = some (.int .i64 lr) ∧ w'.cell? ⟨w.heap.size, 2, none⟩ = some (.int .i64 lo) ∧ w'.cell? ⟨w.heap.size, 3, none⟩ = some (.int .i64 hi)) := by
      intro w' hs
      obtain ⟨x0, x1, x2, x3, _, _, _, _⟩ := (B0.out.since hs).four
      exact ⟨x0, x1, x2, x3⟩
    refine wp_region_held_drew (S := (fun w' => w'.cell? ⟨w.heap.size, 0, none⟩ = some (.int .i64 7) ∧ w'.cell? ⟨w.heap.size, 1, none⟩ = some (.int .i64 lr) ∧ w'.cell? ⟨w.heap.size, 2, none⟩ = some (.int .i64 lo) ∧ w'.cell? ⟨w.heap.size, 3, none⟩ = some (.int .i64 hi))) (by kernel_rfl) (HKC.out _ (Since.refl _).drew) (fun hHeld => ?_)
    refine take_yes 0 (some 20) (v := ?_) rfl (by kernel_rfl) (by kernel_rfl) (by kernel_rfl) (by kernel_rfl) (fun _ _ _ h => h) (by rfl) (by assumption) ?_ ?_
    rotate_left
    · (intro w' hSw; (try dsimp only at hSw); go_simp; try with_reducible rfl)
    try simp only [Act.put, List.setIfInBounds_toArray, List.set_cons_zero, List.set_cons_succ]
    refine take_yes 1 (some 21) (v := ?_) rfl (by kernel_rfl) (by kernel_rfl) (by kernel_rfl) (by kernel_rfl) (fun _ _ _ h => h) (by rfl) (by assumption) ?_ ?_
    rotate_left
    · (intro w' hSw; (try dsimp only at hSw); go_simp; try with_reducible rfl)
    try simp only [Act.put, List.setIfInBounds_toArray, List.set_cons_zero, List.set_cons_succ]
    refine take_yes 5 (some 25) (v := ?_) rfl (by kernel_rfl) (by kernel_rfl) (by kernel_rfl) (by kernel_rfl) (fun _ _ _ h => h) (by rfl) (by assumption) ?_ ?_
    rotate_left
    · (intro w' hSw; (try dsimp only at hSw); go_simp; try with_reducible rfl)
    try simp only [Act.put, List.setIfInBounds_toArray, List.set_cons_zero, List.set_cons_succ]
    refine take_yes 6 (some 26) (v := ?_) rfl (by kernel_rfl) (by kernel_rfl) (by kernel_rfl) (by kernel_rfl) (fun _ _ _ h => h) (by rfl) (by assumption) ?_ ?_
    rotate_left
    · (intro w' hSw; (try dsimp only at hSw); go_simp; try with_reducible rfl)
    try simp only [Act.put, List.setIfInBounds_toArray, List.set_cons_zero, List.set_cons_succ]
    refine take_run 2 rfl (by kernel_rfl) (by rfl) (fun K hK => ?_)
    go_simp
    refine (HA.out _ (hsy.trans (Since.refl y).drew)).mono ?_
    rintro en q1 ⟨rfl, hq1⟩
    have hc1 := Since.trans (Since.refl y).drew hq1
    refine hK.out _ _ (HKC.out _ hc1) (fun hHeld1 => ?_)
    clear hK K hHeld
    try simp only [Act.put, List.setIfInBounds_toArray, List.set_cons_zero, List.set_cons_succ]
    refine take_yes 3 (some 23) (v := ?_) rfl (by kernel_rfl) (by kernel_rfl) (by kernel_rfl) (by kernel_rfl) (fun _ _ _ h => h) (by rfl) (by assumption) ?_ ?_
    rotate_left
    · (intro w' hSw; (try dsimp only at hSw); go_simp; try with_reducible rfl)
    try simp only [Act.put, List.setIfInBounds_toArray, List.set_cons_zero, List.set_cons_succ]
    refine take_yes 4 (some 24) (v := ?_) rfl (by kernel_rfl) (by kernel_rfl) (by kernel_rfl) (by kernel_rfl) (fun _ _ _ h => h) (by rfl) (by assumption) ?_ ?_
    rotate_left
    · (intro w' hSw; (try dsimp only at hSw); go_simp; try with_reducible rfl)
    try simp only [Act.put, List.setIfInBounds_toArray, List.set_cons_zero, List.set_cons_succ]
    refine take_run 7 rfl (by kernel_rfl) (by rfl) (fun K hK => ?_)
    go_simp
    refine (HB.out _ (hsy.trans hc1)).mono ?_
    rintro en q2 ⟨rfl, hq2⟩
    have hc2 := Since.trans hc1 hq2
    refine hK.out _ _ (HKC.out _ hc2) (fun hHeld2 => ?_)
    clear hK K hHeld1
    try simp only [Act.put, List.setIfInBounds_toArray, List.set_cons_zero, List.set_cons_succ]
    refine take_yes 8 (some 28) (v := ?_) rfl (by kernel_rfl) (by kernel_rfl) (by kernel_rfl) (by kernel_rfl) (fun _ _ _ h => h) (by rfl) (by assumption) ?_ ?_
    rotate_left
    · (intro w' hSw; (try dsimp only at hSw); go_simp; try with_reducible rfl)
    try simp only [Act.put, List.setIfInBounds_toArray, List.set_cons_zero, List.set_cons_succ]
    refine take_yes 9 (some 29) (v := ?_) rfl (by kernel_rfl) (by kernel_rfl) (by kernel_rfl) (by kernel_rfl) (fun _ _ _ h => h) (by rfl) (by assumption) ?_ ?_
    rotate_left
    · (intro w' hSw; (try dsimp only at hSw); go_simp; try with_reducible rfl)
    try simp only [Act.put, List.setIfInBounds_toArray, List.set_cons_zero, List.set_cons_succ]
    refine take_yes 10 (some 2) (v := ?_) rfl (by kernel_rfl) (by kernel_rfl) (by kernel_rfl) (by kernel_rfl) (fun _ _ _ h => h) (by rfl) (by assumption) ?_ ?_
    rotate_left
    · (intro w' hSw; (try dsimp only at hSw); go_simp; try with_reducible rfl)
    try simp only [Act.put, List.setIfInBounds_toArray, List.set_cons_zero, List.set_cons_succ]
    refine wpAnyH_done (by kernel_rfl) ?_ _
    clear hHeld2 HKC
    have hs9 := hsy.trans hc2
    go_wp2
    go_ret
    exact ⟨ret_str HO.out.symm, hs9⟩
/-- The format of an expression. -/
def fmtXL (xs : List Tok) : List UInt8 := Lib.join (xs.map fun x => (fmtT x).data.toList) [32]
def fmtX (xs : List Tok) : ByteArray := if validXB xs = true then ⟨(fmtXL xs).toArray⟩ else ⟨#[]⟩
theorem fmtX_out {xs : List Tok} (h : validXB xs = false) : fmtX xs = ⟨#[]⟩ := by unfold fmtX; rw [h]; rfl
theorem fmtX_in {xs : List Tok} (h : validXB xs = true) : fmtX xs = ⟨(fmtXL xs).toArray⟩ := by unfold fmtX; rw [if_pos h]
theorem xcat_zero (xs : List Tok) (h : 0 < xs.length) : (⟨(fmtXL (xs.take 0)).toArray⟩ : ByteArray) ++ fmtT xs[0] = ⟨(fmtXL (xs.take 1)).toArray⟩ := by
  rw [bcat]
  cases xs with
  | nil => simp at h
  | cons x xs => simp [fmtXL, Lib.join_one, Lib.join_nil]
theorem xcat (xs : List Tok) (k : Nat) (h : k < xs.length) (h0 : 0 < k) : ((⟨(fmtXL (xs.take k)).toArray⟩ : ByteArray) ++ ⟨#[32]⟩) ++ fmtT xs[k] = ⟨(fmtXL (xs.take (k + 1))).toArray⟩ := by
  rw [bcat, bcat]
  congr 2
  unfold fmtXL
  rw [List.take_succ_eq_append_getElem h, List.map_append, List.map_cons, List.map_nil, join_snoc]
  intro e
  simp only [List.map_eq_nil_iff, List.take_eq_nil_iff] at e
  rcases e with e | e
  · omega
  · rw [e] at h; simp at h
theorem fmtXL_len (xs : List Tok) (hok : ∀ x ∈ xs, okT x = true) : ∀ k, k ≤ xs.length → (fmtXL (xs.take k)).length ≤ 46 * k := by
  intro k
  induction k with
  | zero => intro _; simp [fmtXL, Lib.join_nil]
  | succ k ih =>
    intro hk
    have ih := ih (by omega)
    have hx : (fmtT (xs[k]'(by omega))).size ≤ 45 := fmtT_size (hok _ (List.getElem_mem _))
    by_cases h0 : 0 < k
    · have := congrArg ByteArray.size (xcat xs k (by omega) h0)
      simp only [ByteArray.size_append] at this
      have e1 : (⟨(fmtXL (xs.take (k + 1))).toArray⟩ : ByteArray).size = (fmtXL (xs.take (k + 1))).length := rfl
      have e2 : (⟨(fmtXL (xs.take k)).toArray⟩ : ByteArray).size = (fmtXL (xs.take k)).length := rfl
      have e3 : (⟨#[32]⟩ : ByteArray).size = 1 := rfl
      omega
    · obtain rfl : k = 0 := by omega
      have := congrArg ByteArray.size (xcat_zero xs (by omega))
      simp only [ByteArray.size_append] at this
      have e1 : (⟨(fmtXL (xs.take 1)).toArray⟩ : ByteArray).size = (fmtXL (xs.take 1)).length := rfl
      have e2 : (⟨(fmtXL (xs.take 0)).toArray⟩ : ByteArray).size = (fmtXL (xs.take 0)).length := rfl
      simp only [Nat.zero_add]
      omega
theorem stk_all {s s' : List Tr} {xs : List Tok} (h : stk s xs = some s') : ∀ x ∈ xs, okT x = true := by
  induction xs generalizing s with
  | nil => intro x hx; simp at hx
  | cons y ys ih =>
    simp only [stk] at h
    cases hp : pushT s y with
    | none => rw [hp] at h; cases h
    | some s1 =>
      rw [hp] at h
      intro x hx
      rcases List.mem_cons.1 hx with e | e
      · subst e; exact (pushT_len hp).1
      · exact ih h x e
theorem valid_all {xs : List Tok} (h : validXB xs = true) : xs.length ≤ 24 ∧ 0 < xs.length ∧ ∀ x ∈ xs, okT x = true := by
  unfold validXB at h
  rw [Bool.and_eq_true] at h
  obtain ⟨h1, h2⟩ := h
  refine ⟨by simpa using h1, ?_, ?_⟩
  · cases xs with
    | nil => exact absurd h2 (by decide)
    | cons => simp
  · cases hs : stk [] xs with
    | none => rw [isXB_none hs] at h2; cases h2
    | some s => exact stk_all hs
end Go.Proofs.YtiojgahjfndmdaaDoor
