/- MatchesWord, the program's. -/
import Derived.Test.YtiojgahjfndmdaaDoorMwN
import Derived.Test.YtiojgahjfndmdaaDoorCsM
import Derived.Test.YtiojgahjfndmdaaDoorIx
namespace Go.Proofs.YtiojgahjfndmdaaDoor
set_option maxRecDepth 100000
open Go.ChangeShapes Go.WideShapes Go.ChangeAt Go.RowKit
set_option linter.unusedVariables false
set_option linter.unusedSimpArgs false

theorem shl_oneK (d : Nat) (hd : d < 10) : IntKind.i64.wrap (2 ^ d : Int) = 2 ^ d := by
  have hp : (2 : Nat) ^ d < 2 ^ 10 := Nat.pow_lt_pow_right (by omega) hd
  rw [pow_cast]
  generalize (2 : Nat) ^ d = p at hp
  exact wrap_small _ (by omega)
set_option maxHeartbeats 2000000 in
set_option maxRecDepth 100000 in
theorem matches_any (T : Tr) (W : List Int) (lo hi : Nat) (v u : Value) (w : World) (hok : T.ok) (hW : W.length ≤ 8) (ht : TreeAt w T lo hi v) (hhi : hi ≤ w.heap.size) (hu : IntsAt w u W) :
    Calls Tryd.prog 75 #[v, u] w (BlOut w (gT W T 0 W.length)) := by
  have HT := Lib.hid ht
  have HU := Lib.hid (WrdAt.of hu (Nat.le_refl _))
  have HOK := Lib.hid hok
  obtain ⟨pv, rfl⟩ := ht.isPtr
  obtain ⟨uo, uc, rfl, _⟩ := hu.row
  have HG := Lib.hid (endT_all W hok)
  have hEl := end_lt hW hok (Nat.zero_le W.length)
  obtain ⟨n, hn⟩ : ∃ n, n = W.length := ⟨_, rfl⟩
  rw [← hn] at HU hW HG ⊢
  have HN := Lib.hid hn
  have hwp := shl_one n (by omega)
  have hwk := shl_oneK n (by omega)
  have hmm : ∀ W : World, (Instr.makeMap 107 none).run Tryd.prog W = .ok (.map (some W.heap.size)) (W.alloc (.map #[] 0)) := fun _ => rfl
  have hn0 : (0 : Int) ≤ (n : Int) := by omega
  clear hn hok ht hu
  obtain ⟨y, hy⟩ : ∃ y, y = (w.alloc (.map #[] 0)).alloc (.cells #[.slice uo n uc, .map (some w.heap.size)] 109) := ⟨_, rfl⟩
  have al : Since w y := by rw [hy]; exact ((Since.refl w).alloc _).alloc _
  have BM : Hid (Blk y (w.heap.size + 1) 109 #[.slice uo n uc, .map (some w.heap.size)]) := by rw [hy]; exact Blk.new (by simp) _ _
  have HM0 : Hid (MemoOk W y w.heap.size lo hi) := by rw [hy]; exact (MemoOk.made w lo hi).since ((Since.refl _).alloc _)
  have HY := Lib.hid hy
  clear hy
  go_enter Tryd.func75, Tryd.ntmps75
  go_upto_region 2 with fail
  rw [← HY.out]
  clear hmm
  have HKC : Hid (∀ w', Blk w' (w.heap.size + 1) 109 #[.slice uo n uc, .map (some w.heap.size)] → w'.cell? ⟨w.heap.size + 1, 0, none⟩ = some (.slice uo n uc) ∧ w'.cell? ⟨w.heap.size + 1, 1, none⟩ = some (.map (some w.heap.size))) := by
    intro w' hb
    obtain ⟨r0, r1, _, _⟩ := hb.two
    exact ⟨r0, r1⟩
  refine wp_region_held_drew (S := (fun w' => w'.cell? ⟨w.heap.size + 1, 0, none⟩ = some (.slice uo n uc) ∧ w'.cell? ⟨w.heap.size + 1, 1, none⟩ = some (.map (some w.heap.size)))) (by kernel_rfl) (HKC.out _ BM.out.drew) (fun hHeld => ?_)
  refine take_yes 0 (some 9) (v := ?_) rfl (by kernel_rfl) (by kernel_rfl) (by kernel_rfl) (by kernel_rfl) (fun _ _ _ h => h) (by rfl) (by assumption) ?_ ?_
  rotate_left
  · (intro w' hSw; (try dsimp only at hSw); go_simp; try with_reducible rfl)
  try simp only [Act.put, List.setIfInBounds_toArray, List.set_cons_zero, List.set_cons_succ]
  refine take_yes 1 (some 10) (v := ?_) rfl (by kernel_rfl) (by kernel_rfl) (by kernel_rfl) (by kernel_rfl) (fun _ _ _ h => h) (by rfl) (by assumption) ?_ ?_
  rotate_left
  · (intro w' hSw; (try dsimp only at hSw); go_simp; try with_reducible rfl)
  try simp only [Act.put, List.setIfInBounds_toArray, List.set_cons_zero, List.set_cons_succ]
  refine take_yes 3 (some 12) (v := ?_) rfl (by kernel_rfl) (by kernel_rfl) (by kernel_rfl) (by kernel_rfl) (fun _ _ _ h => h) (by rfl) (by assumption) ?_ ?_
  rotate_left
  · (intro w' hSw; (try dsimp only at hSw); go_simp; try with_reducible rfl)
  try simp only [Act.put, List.setIfInBounds_toArray, List.set_cons_zero, List.set_cons_succ]
  refine take_yes 4 (some 13) (v := ?_) rfl (by kernel_rfl) (by kernel_rfl) (by kernel_rfl) (by kernel_rfl) (fun _ _ _ h => h) (by rfl) (by assumption) ?_ ?_
  rotate_left
  · (intro w' hSw; (try dsimp only at hSw); go_simp; try with_reducible rfl)
  try simp only [Act.put, List.setIfInBounds_toArray, List.set_cons_zero, List.set_cons_succ]
  refine take_yes 5 (some 14) (v := ?_) rfl (by kernel_rfl) (by kernel_rfl) (by kernel_rfl) (by kernel_rfl) (fun _ _ _ h => h) (by rfl) (by assumption) ?_ ?_
  rotate_left
  · (intro w' hSw; (try dsimp only at hSw); go_simp; try with_reducible rfl)
  try simp only [Act.put, List.setIfInBounds_toArray, List.set_cons_zero, List.set_cons_succ]
  refine take_run 2 rfl (by kernel_rfl) (by rfl) (fun K hK => ?_)
  go_simp
  refine (from_any W (by rw [← HN.out]; exact hW) T w.heap.size lo hi lo hi _ _ 0 _ HOK.out (Nat.le_refl _) (Nat.le_refl _) hhi (HT.out.since al.drew) (HM0.out.since (Since.refl y).drew) (HU.out.since al.drew) (Nat.zero_le _)).mono ?_
  rintro e w2 ⟨rfl, _, hw2⟩
  obtain ⟨Z, hZ⟩ : ∃ Z, Z = endT W T 0 := ⟨_, rfl⟩
  rw [← hZ] at hEl HG ⊢
  have hz := and_zero Z n (by omega) (by omega)
  have HZB := Lib.hid hz
  have HF := Lib.hid (Since.within al.drew (Nat.le_refl _) hw2)
  refine hK.out _ _ (HKC.out _ (BM.out.drew.within hw2 (by omega))) (fun hHeld2 => ?_)
  clear hK K hHeld hw2 hz hZ
  try simp only [Act.put, List.setIfInBounds_toArray, List.set_cons_zero, List.set_cons_succ]
  refine take_yes 6 (some 15) (v := ?_) rfl (by kernel_rfl) (by kernel_rfl) (by kernel_rfl) (by kernel_rfl) (fun _ _ _ h => h) (by rfl) (by assumption) ?_ ?_
  rotate_left
  · (intro w' hSw; (try dsimp only at hSw); go_simp; try with_reducible rfl)
  try simp only [Act.put, List.setIfInBounds_toArray, List.set_cons_zero, List.set_cons_succ]
  refine take_yes 7 (some 16) (v := ?_) rfl (by kernel_rfl) (by kernel_rfl) (by kernel_rfl) (by kernel_rfl) (fun _ _ _ h => h) (by rfl) (by assumption) ?_ ?_
  rotate_left
  · (intro w' hSw; (try dsimp only at hSw); go_simp; try with_reducible rfl)
  try simp only [Act.put, List.setIfInBounds_toArray, List.set_cons_zero, List.set_cons_succ]
  refine take_yes 8 (some 4) (v := ?_) rfl (by kernel_rfl) (by kernel_rfl) (by kernel_rfl) (by kernel_rfl) (fun _ _ _ h => h) (by rfl) (by assumption) ?_ ?_
  rotate_left
  · (intro w' hSw; (try dsimp only at hSw); go_simp; try with_reducible rfl)
  try simp only [Act.put, List.setIfInBounds_toArray, List.set_cons_zero, List.set_cons_succ]
  refine wpAnyH_done (by kernel_rfl) ?_ _
  clear hHeld2 HKC
  go_wp2
  go_ret
  refine ⟨ret_bool ?_, HF.out⟩
  rw [← HG.out]
  have h0 := HZB.out
  first
  | (simp only [bne, h0, Bool.not_not])
  | (simp only [hwp, hwk, bne, h0, Bool.not_not])
/-- What MatchesWord answers. -/
def mtX (xs : List Tok) (W : List Int) : Bool := validXB xs && (isWordB W && matX xs W)
theorem mtX_of (xs : List Tok) (W : List Int) : mtX xs W = (validXB xs && (isWordB W && matX xs W)) := rfl
theorem isWordB_len {W : List Int} (h : isWordB W = true) : W.length ≤ 8 := by
  unfold isWordB at h
  simp only [Bool.and_eq_true, decide_eq_true_eq] at h
  exact h.1
theorem valid_is {xs : List Tok} (h : validXB xs = true) : isXB xs = true ∧ xs.length ≤ 24 := by
  rw [validXB_of] at h
  simp only [Bool.and_eq_true, decide_eq_true_eq] at h
  exact ⟨h.2, h.1⟩
set_option maxHeartbeats 2000000 in
set_option maxRecDepth 100000 in
theorem implMW_any (v u : Value) (xs : List Tok) (W : List Int) (w : World) (hf : Forms w) (h : ExC w v xs) (hl : xs.length ≤ 1048577) (hu : IntsAt w u W) (hl2 : W.length ≤ 1048577) :
    Calls Tryd.prog 27 #[v, u] w fun e w' => e = .returned (.bool (mtX xs W)) ∧ Since w w' := by
  obtain ⟨a, rfl, ha⟩ := h.1
  have HA := Lib.hid ha
  obtain ⟨ao, ac, rfl⟩ := ha.len
  have HU := Lib.hid hu
  obtain ⟨uo, uc, rfl, _⟩ := hu.row
  obtain ⟨m, hm⟩ : ∃ m, m = W.length := ⟨_, rfl⟩
  rw [← hm] at HU ⊢
  obtain ⟨n, hn⟩ : ∃ n, n = xs.length := ⟨_, rfl⟩
  rw [← hn] at HA ⊢
  clear hm hn ha hu h
  obtain ⟨y, hy⟩ : ∃ y, y = w.alloc (.cells #[.slice ao n ac] 26) := ⟨_, rfl⟩
  have hsy : Since w y := by rw [hy]; exact (Since.refl w).alloc _
  have BE : Hid (Blk y w.heap.size 26 #[.slice ao n ac]) := by rw [hy]; exact Blk.new rfl _ _
  have HF := Lib.hid (hf.since hsy)
  have HY := Lib.hid hy
  clear hy hf
  go_enter Tryd.func27, Tryd.ntmps27
  go_wp2_with fail
  rw [← HY.out]
  refine (implVX_any _ xs _ HF.out ⟨_, rfl, HA.out.since hsy⟩ hl).mono ?_
  rintro e w1 ⟨rfl, hs1⟩
  have hyw := hsy.trans hs1
  cases hv : validXB xs with
  | false =>
    have HV : Hid (mtX xs W = false) := by unfold Hid mtX; rw [hv]; rfl
    clear hv
    go_wp2
    go_ret
    exact ⟨ret_bool HV.out.symm, hyw⟩
  | true =>
    obtain ⟨hx1, hx2⟩ := valid_is hv
    obtain ⟨T, hT⟩ : ∃ T, treeO xs = some T := by unfold isXB at hx1; exact Option.isSome_iff_exists.1 hx1
    have HMT : Hid (matX xs W = gT W T 0 W.length) := by unfold Hid matX; rw [hT]
    have HVT : Hid (mtX xs W = (isWordB W && matX xs W)) := by unfold Hid mtX; rw [hv]; rfl
    have HOK := Lib.hid (treeO_some hT).1
    have HTT := Lib.hid (treeT_some hT)
    clear hv hx1 hT
    go_wp2_with fail
    refine (implIW_any _ W _ (HU.out.since hyw) hl2).mono ?_
    rintro e w2 ⟨rfl, rfl⟩
    have hyw2 := hyw
    cases hw : isWordB W with
    | false =>
      have HV : Hid (mtX xs W = false) := by unfold Hid; rw [HVT.out, hw]; rfl
      clear hw
      go_wp2
      go_ret
      exact ⟨ret_bool HV.out.symm, hyw2⟩
    | true =>
      have hW8 := isWordB_len hw
      have HV : Hid (mtX xs W = matX xs W) := by unfold Hid; rw [HVT.out, hw]; rfl
      have s12 := hs1
      obtain ⟨p0, p1⟩ := (BE.out.since s12).one
      clear hw
      go_wp2_with fail
      clear p0 p1
      refine (treeOf_any _ xs _ (HF.out.since s12) ⟨_, rfl, HA.out.since hyw2⟩ hl).mono ?_
      rintro e w3 ⟨v3, rfl, ht, hs3⟩
      rw [HTT.out] at ht
      have HT := Lib.hid ht
      obtain ⟨p, rfl⟩ := ht.isPtr
      clear ht
      have hyw3 := hyw2.trans hs3
      go_wp2_with fail
      refine (matches_any T W _ _ _ _ _ HOK.out hW8 HT.out (Nat.le_refl _) (HU.out.since hyw3)).mono ?_
      rintro e w4 ⟨rfl, hs4⟩
      obtain ⟨z, hz⟩ : ∃ z, z = gT W T 0 W.length := ⟨_, rfl⟩
      rw [← hz]
      have HZ := Lib.hid hz
      clear hz
      go_wp2
      go_ret
      exact ⟨ret_bool (by rw [HV.out, HMT.out, HZ.out]), hyw3.trans hs4⟩
end Go.Proofs.YtiojgahjfndmdaaDoor
