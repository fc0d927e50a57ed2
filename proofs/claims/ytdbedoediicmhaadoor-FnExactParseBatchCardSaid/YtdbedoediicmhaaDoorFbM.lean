/- Batches as text: FormatBatch, the model's. -/
import Derived.Test.YtdbedoediicmhaaDoorFeD
import Derived.Test.YtdbedoediicmhaaDoorChg
import Derived.Test.YtdbedoediicmhaaDoorWfI
namespace Go.Proofs.YtdbedoediicmhaaDoor
set_option maxRecDepth 100000
set_option linter.unusedVariables false
set_option linter.unusedSimpArgs false
open Go.ChangeShapes Go.WideShapes Go.ChangeAt Go.RowKit

theorem fmtE_sizeB (e : Edg) : (fmtE e).size ≤ 66 := by
  rcases Bool.eq_false_or_eq_true (edB 5 e) with hb | hb
  · rw [fmtE_in hb]
    obtain ⟨⟨i0, i9⟩, ⟨f0, f9⟩, ⟨t0, t9⟩, _⟩ := (edB_iff 5 e).1 hb
    have a := itoaS_size e.id (by omega) (by omega)
    have b := itoaS_size e.fr (by omega) (by omega)
    have c := fmtL_size2 (2 * e.lb)
    have d := itoaS_size (Edg.to e) (by omega) (by omega)
    have e3 : (⟨#[58]⟩ : ByteArray).size = 1 := rfl
    simp only [ByteArray.size_append]
    omega
  · rw [fmtE_out hb]; decide
theorem fmtE_ne {e : Edg} (hb : edB 5 e = true) : ((fmtE e).toList == []) = false := by
  have hs : 1 ≤ (fmtE e).size := by
    rw [fmtE_in hb]
    have e3 : (⟨#[58]⟩ : ByteArray).size = 1 := rfl
    simp only [ByteArray.size_append]
    omega
  rw [ByteArray.toList_eq, beq_eq_false_iff_ne]
  intro h
  have : (fmtE e).data.toList.length = 0 := by rw [h]; rfl
  have h2 : (fmtE e).size = (fmtE e).data.toList.length := rfl
  omega
def sgnC (c : Chg) : UInt8 := if c.ins = true then 43 else 45
/-- The format of a change. -/
def fmtC (c : Chg) : ByteArray := ⟨#[sgnC c]⟩ ++ fmtE c.ed
def fmtCL (cs : List Chg) : List UInt8 := Lib.join (cs.map fun c => (fmtC c).data.toList) [32]
def fmtCB (cs : List Chg) : ByteArray := ⟨(fmtCL cs).toArray⟩
def okFB (cs : List Chg) : Bool := decide (cs.length ≤ 6) && cs.all fun c => edB 5 c.ed
/-- The format of a batch. -/
def fmtBat (cs : List Chg) : ByteArray := if okFB cs = true then fmtCB cs else ⟨#[]⟩
theorem fmtBat_in {cs : List Chg} (h : cs.length ≤ 6) (h2 : cs.all (fun c => edB 5 c.ed) = true) : fmtBat cs = fmtCB cs := by
  unfold fmtBat okFB; rw [h2, decide_eq_true h]; rfl
theorem fmtBat_long {cs : List Chg} (h : 6 < cs.length) : fmtBat cs = ⟨#[]⟩ := by
  unfold fmtBat okFB; rw [decide_eq_false (by omega)]; rfl
theorem fmtBat_bad {cs : List Chg} {k : Nat} (hk : k < cs.length) (h : edB 5 cs[k].ed = false) : fmtBat cs = ⟨#[]⟩ := by
  have : cs.all (fun c => edB 5 c.ed) = false := by
    cases ha : cs.all (fun c => edB 5 c.ed) with
    | false => rfl
    | true =>
      rw [List.all_eq_true] at ha
      have := ha cs[k] (List.getElem_mem hk)
      rw [h] at this; cases this
  unfold fmtBat okFB; rw [this, Bool.and_false]; rfl
theorem all_takeC {cs : List Chg} {k : Nat} (hk : k < cs.length) (h : (cs.take k).all (fun c => edB 5 c.ed) = true) (h2 : edB 5 cs[k].ed = true) : (cs.take (k + 1)).all (fun c => edB 5 c.ed) = true := by
  rw [List.take_succ_eq_append_getElem hk, List.all_append, h, List.all_cons, h2]; rfl
theorem ccat_zero (cs : List Chg) (h : 0 < cs.length) : (fmtCB (cs.take 0) ++ ⟨#[sgnC cs[0]]⟩) ++ fmtE cs[0].ed = fmtCB (cs.take (0 + 1)) := by
  unfold fmtCB
  rw [ByteArray.append_assoc, bcat]
  cases cs with
  | nil => simp at h
  | cons c cs => simp [fmtCL, Lib.join_one, Lib.join_nil, fmtC]
theorem ccat (cs : List Chg) (k : Nat) (h : k < cs.length) (h0 : 0 < k) : ((fmtCB (cs.take k) ++ ⟨#[32]⟩) ++ ⟨#[sgnC cs[k]]⟩) ++ fmtE cs[k].ed = fmtCB (cs.take (k + 1)) := by
  unfold fmtCB
  rw [ByteArray.append_assoc, ByteArray.append_assoc, bcat, ← ByteArray.append_assoc]
  congr 2
  unfold fmtCL
  rw [List.take_succ_eq_append_getElem h, List.map_append, List.map_cons, List.map_nil, join_snoc]
  · simp [fmtC]
  · intro e
    simp only [List.map_eq_nil_iff, List.take_eq_nil_iff] at e
    rcases e with e | e
    · omega
    · rw [e] at h; simp at h
theorem fmtCB_size (cs : List Chg) : (fmtCB cs).size ≤ 68 * cs.length := by
  have : ∀ k, k ≤ cs.length → (fmtCB (cs.take k)).size ≤ 68 * k := by
    intro k
    induction k with
    | zero => intro _; simp [fmtCB, fmtCL, Lib.join_nil, ByteArray.size]
    | succ k ih =>
      intro hk
      have ih := ih (by omega)
      have hx := fmtE_sizeB (cs[k]'(by omega)).ed
      have e1 : (⟨#[32]⟩ : ByteArray).size = 1 := rfl
      have e2 : (⟨#[sgnC (cs[k]'(by omega))]⟩ : ByteArray).size = 1 := rfl
      by_cases h0 : 0 < k
      · have := congrArg ByteArray.size (ccat cs k (by omega) h0)
        simp only [ByteArray.size_append] at this
        omega
      · obtain rfl : k = 0 := by omega
        have := congrArg ByteArray.size (ccat_zero cs (by omega))
        simp only [ByteArray.size_append] at this
        omega
  have h := this cs.length (Nat.le_refl _)
  rwa [List.take_of_length_le (Nat.le_refl _)] at h
set_option maxHeartbeats 2000000 in
set_option maxRecDepth 100000 in
theorem specFB_any (v : Value) (cs : List Chg) (w : World) (h : BchAt w v cs) (h1 : cs.length ≤ 1048577) :
    Calls Tryd.prog 6 #[v] w fun e w' => e = .returned (.string (fmtBat cs)) ∧ Since w w' := by
  obtain ⟨b, rfl, hb⟩ := h
  obtain ⟨_, bo, bc, rfl, HC⟩ := hb
  obtain ⟨n, hn⟩ : ∃ n, n = cs.length := ⟨_, rfl⟩
  have hn9 : n ≤ 1048577 := by omega
  have HN := Lib.hid hn
  rw [← hn]
  obtain ⟨y, hy⟩ : ∃ y, y = w.alloc (.cells #[.slice bo n bc] 29) := ⟨_, rfl⟩
  have hs0 : Since w y := by rw [hy]; exact (Since.refl w).alloc _
  have BB : Hid (Blk y w.heap.size 29 #[.slice bo n bc]) := by rw [hy]; exact Blk.new rfl _ _
  by_cases hlen : 6 < n
  · have HR := Lib.hid (fmtBat_long (cs := cs) (by omega))
    have hgt : (6 : Int) < (n : Int) := by omega
    clear hn
    go_enter Tryd.func6, Tryd.ntmps6
    go_wp2_with fail
    rw [← hy]
    go_ret
    exact ⟨ret_str HR.out.symm, hs0⟩
  have hgt : ¬ (6 : Int) < (n : Int) := by omega
  clear hn
  go_enter Tryd.func6, Tryd.ntmps6
  go_wp2_with fail
  rw [← hy]
  clear hy
  go_loopw [3, 4] (fun s i wr => ∃ k : Nat, k ≤ n ∧ i = .int .i64 k ∧ s = .string (fmtCB (cs.take k)) ∧ Hid ((cs.take k).all (fun c => edB 5 c.ed) = true) ∧ Since y wr) (fun _ i _ => n - (intOf i).toNat)
  case atStart => exact ⟨0, Nat.zero_le _, rfl, rfl, rfl, Since.refl y⟩
  case round =>
    obtain ⟨k, hk, rfl, rfl, HAL, hsw⟩ := hrel
    have hs0w := hs0.trans hsw
    obtain ⟨p0, _⟩ := (BB.out.since hsw).one
    have hsz : (fmtCB (cs.take k)).size ≤ 408 := by
      have := fmtCB_size (cs.take k)
      rw [List.length_take] at this
      omega
    by_cases hlt : k < n
    · have hx : k < cs.length := by have := HN.out; omega
      obtain ⟨be, oe, rfl, hbe, d0, d1, d2, d3, d4⟩ := HC.out k hx
      have s1 := since_cells hs0w hbe
      rw [← s1] at d0 d1 d2 d3 d4
      clear s1
      have kk0 : (0 : Int) ≤ (k : Int) := by omega
      have kk1 : (k : Int) < (n : Int) := by omega
      rcases Bool.eq_false_or_eq_true (edB 5 cs[k].ed) with hb | hb
      rotate_left
      · have HR := Lib.hid (fmtBat_bad hx hb)
        have HF := Lib.hid (fun W => specFE_any cs[k].ed W)
        rw [fmtE_out hb] at HF
        clear hb
        generalize cs[k] = c at d0 d1 d2 d3 d4 HF
        unfold ev at HF
        go_wp2_with fail
        refine (HF.out _).mono ?_
        rintro en w1 ⟨rfl, hs1⟩
        have hs01 := hs0w.trans hs1
        go_wp2_with fail
        go_ret
        exact ⟨ret_str HR.out.symm, hs01⟩
      · have HAN := Lib.hid (all_takeC hx HAL.out hb)
        have hfe := fmtE_sizeB cs[k].ed
        have hne := fmtE_ne hb
        have HF := Lib.hid (fun W => specFE_any cs[k].ed W)
        clear hb
        have D0 : Hid (w.cell? ⟨be, oe + k * 5, none⟩ = some (.bool cs[k].ins)) := by
          have := since_cells hs0w hbe
          exact (this _).symm.trans d0
        by_cases hk0 : 0 < k
        · have hki : (0 : Int) < (k : Int) := by omega
          have HW := Lib.hid (ccat cs k hx hk0)
          generalize cs[k] = c at d0 d1 d2 d3 d4 HF hfe hne HW D0
          generalize fmtE c.ed = t at HF hfe hne HW
          generalize fmtCB (cs.take k) = A at hsz HW ⊢
          obtain ⟨ci, ce⟩ := c
          dsimp only at d0 d1 d2 d3 d4 HF D0
          unfold ev at HF
          have n1 : ¬ 9223372036854775807 < A.size + 1 := by omega
          have n2 : ¬ 9223372036854775807 < A.size + 1 + 1 := by omega
          have n3 : ¬ 9223372036854775807 < A.size + 1 + 1 + t.size := by omega
          cases ci
          rotate_left
          · replace HW : Hid (((A ++ ⟨#[32]⟩) ++ ⟨#[43]⟩) ++ t = fmtCB (cs.take (k + 1))) := HW
            go_wp2_with fail
            refine (HF.out _).mono ?_
            rintro en w1 ⟨rfl, hs1⟩
            have hs01 := hs0w.trans hs1
            have hs11 := hsw.trans hs1
            obtain ⟨p1, _⟩ := (BB.out.since hs11).one
            have s1 := since_cells hs01 hbe
            have e0 := (s1 _).trans D0.out
            clear s1
            go_wp2_with fail
            go_roundw
            case rel => exact ⟨k + 1, by omega, by go_num, congrArg Value.string HW.out, HAN, hs11⟩
            case measure => simp [intOf]; omega
          · replace HW : Hid (((A ++ ⟨#[32]⟩) ++ ⟨#[45]⟩) ++ t = fmtCB (cs.take (k + 1))) := HW
            go_wp2_with fail
            refine (HF.out _).mono ?_
            rintro en w1 ⟨rfl, hs1⟩
            have hs01 := hs0w.trans hs1
            have hs11 := hsw.trans hs1
            obtain ⟨p1, _⟩ := (BB.out.since hs11).one
            have s1 := since_cells hs01 hbe
            have e0 := (s1 _).trans D0.out
            clear s1
            go_wp2_with fail
            go_roundw
            case rel => exact ⟨k + 1, by omega, by go_num, congrArg Value.string HW.out, HAN, hs11⟩
            case measure => simp [intOf]; omega
        · obtain rfl : k = 0 := by omega
          have HW := Lib.hid (ccat_zero cs hx)
          generalize cs[0] = c at d0 d1 d2 d3 d4 HF hfe hne HW D0
          generalize fmtE c.ed = t at HF hfe hne HW
          generalize fmtCB (cs.take 0) = A at hsz HW ⊢
          obtain ⟨ci, ce⟩ := c
          dsimp only at d0 d1 d2 d3 d4 HF D0
          simp only [Nat.zero_mul, Nat.add_zero] at d0 d1 d2 d3 d4 D0
          unfold ev at HF
          rw [show ((0 : Nat) : Int) = 0 from rfl]
          have n1 : ¬ 9223372036854775807 < A.size + 1 := by omega
          have n3 : ¬ 9223372036854775807 < A.size + 1 + t.size := by omega
          cases ci
          rotate_left
          · replace HW : Hid ((A ++ ⟨#[43]⟩) ++ t = fmtCB (cs.take (0 + 1))) := HW
            go_wp2_with fail
            refine (HF.out _).mono ?_
            rintro en w1 ⟨rfl, hs1⟩
            have hs01 := hs0w.trans hs1
            have hs11 := hsw.trans hs1
            obtain ⟨p1, _⟩ := (BB.out.since hs11).one
            have s1 := since_cells hs01 hbe
            have e0 := (s1 _).trans D0.out
            clear s1
            go_wp2_with fail
            go_roundw
            case rel => exact ⟨0 + 1, by omega, by go_num, congrArg Value.string HW.out, HAN, hs11⟩
            case measure => simp [intOf]; omega
          · replace HW : Hid ((A ++ ⟨#[45]⟩) ++ t = fmtCB (cs.take (0 + 1))) := HW
            go_wp2_with fail
            refine (HF.out _).mono ?_
            rintro en w1 ⟨rfl, hs1⟩
            have hs01 := hs0w.trans hs1
            have hs11 := hsw.trans hs1
            obtain ⟨p1, _⟩ := (BB.out.since hs11).one
            have s1 := since_cells hs01 hbe
            have e0 := (s1 _).trans D0.out
            clear s1
            go_wp2_with fail
            go_roundw
            case rel => exact ⟨0 + 1, by omega, by go_num, congrArg Value.string HW.out, HAN, hs11⟩
            case measure => simp [intOf]; omega
    · obtain rfl : k = n := by omega
      have ht : cs.take k = cs := List.take_of_length_le (by have := HN.out; omega)
      have hR := fmtBat_in (cs := cs) (by have := HN.out; omega) (by rw [← ht]; exact HAL.out)
      have HR := Lib.hid hR
      rw [ht]
      clear ht hR HAL hsz
      generalize fmtCB cs = A at HR ⊢
      go_wp2
      go_ret
      exact ⟨ret_str HR.out.symm, hs0w⟩
end Go.Proofs.YtdbedoediicmhaaDoor
