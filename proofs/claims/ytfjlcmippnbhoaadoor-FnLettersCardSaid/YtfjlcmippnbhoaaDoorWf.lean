/- Words as text: FormatWord. -/
import Derived.Test.YtfjlcmippnbhoaaDoorWord
import Derived.Test.YtfjlcmippnbhoaaDoorLetF
import Derived.Test.YtfjlcmippnbhoaaDoorShelf
import Derived.Lib.Join
namespace Go.Proofs.YtfjlcmippnbhoaaDoor
set_option linter.unusedVariables false
open Go.ChangeShapes Go.WideShapes Go.ChangeAt Go.RowKit

theorem join_snoc (l : List (List UInt8)) (x sep : List UInt8) (h : l ≠ []) : Lib.join (l ++ [x]) sep = Lib.join l sep ++ sep ++ x := by
  cases l with
  | nil => exact absurd rfl h
  | cons y l => rw [List.cons_append, Lib.join_cons, Lib.join_cons]; simp [Lib.joinTail]
def fmtWL (xs : List Int) : List UInt8 := Lib.join (xs.map fun x => (fmtL x).data.toList) [32]
def fmtW (xs : List Int) : ByteArray := if isWordB xs = true then (if xs = [] then ⟨#[40, 41]⟩ else ⟨(fmtWL xs).toArray⟩) else ⟨#[]⟩
theorem fmtW_out {xs : List Int} (h : isWordB xs = false) : fmtW xs = ⟨#[]⟩ := by unfold fmtW; rw [h]; rfl
theorem fmtW_nil : fmtW [] = ⟨#[40, 41]⟩ := rfl
theorem fmtW_in {xs : List Int} (h : isWordB xs = true) (h0 : xs ≠ []) : fmtW xs = ⟨(fmtWL xs).toArray⟩ := by unfold fmtW; rw [if_pos h, if_neg h0]
theorem bcat (a : List UInt8) (b : ByteArray) : (⟨a.toArray⟩ : ByteArray) ++ b = ⟨(a ++ b.data.toList).toArray⟩ := by
  obtain ⟨⟨l⟩⟩ := b
  exact ByteArray.mk_append_mk a l
theorem wcat_zero (xs : List Int) (h : 0 < xs.length) : (⟨(fmtWL (xs.take 0)).toArray⟩ : ByteArray) ++ fmtL xs[0] = ⟨(fmtWL (xs.take 1)).toArray⟩ := by
  rw [bcat]
  cases xs with
  | nil => simp at h
  | cons x xs => simp [fmtWL, Lib.join_one, Lib.join_nil]
theorem wcat (xs : List Int) (k : Nat) (h : k < xs.length) (h0 : 0 < k) : ((⟨(fmtWL (xs.take k)).toArray⟩ : ByteArray) ++ ⟨#[32]⟩) ++ fmtL xs[k] = ⟨(fmtWL (xs.take (k + 1))).toArray⟩ := by
  rw [bcat, bcat]
  congr 2
  unfold fmtWL
  rw [List.take_succ_eq_append_getElem h, List.map_append, List.map_cons, List.map_nil, join_snoc]
  intro e
  simp only [List.map_eq_nil_iff, List.take_eq_nil_iff] at e
  rcases e with e | e
  · omega
  · rw [e] at h; simp at h
theorem fmtL_size (x : Int) : (fmtL x).size ≤ 2 := by
  cases h : inB x 0 8 with
  | false => rw [fmtL_out h]; decide
  | true =>
    obtain ⟨k, hk, rfl⟩ := inB_nat h
    rw [fmtL_in hk]
    rcases nine hk with rfl | rfl | rfl | rfl | rfl | rfl | rfl | rfl | rfl <;> decide
theorem fmtWL_len (xs : List Int) : (fmtWL xs).length ≤ 3 * xs.length := by
  have hl : ∀ x : Int, (fmtL x).data.toList.length ≤ 2 := fmtL_size
  have : ∀ k, k ≤ xs.length → (fmtWL (xs.take k)).length ≤ 3 * k := by
    intro k
    induction k with
    | zero => intro _; simp [fmtWL, Lib.join_nil]
    | succ k ih =>
      intro hk
      have ih := ih (by omega)
      have hx := hl (xs[k]'(by omega))
      by_cases h0 : 0 < k
      · have := congrArg ByteArray.size (wcat xs k (by omega) h0)
        simp only [ByteArray.size_append] at this
        have e1 : (⟨(fmtWL (xs.take (k + 1))).toArray⟩ : ByteArray).size = (fmtWL (xs.take (k + 1))).length := rfl
        have e2 : (⟨(fmtWL (xs.take k)).toArray⟩ : ByteArray).size = (fmtWL (xs.take k)).length := rfl
        have e3 : (⟨#[32]⟩ : ByteArray).size = 1 := rfl
        have e4 : (fmtL (xs[k]'(by omega))).size ≤ 2 := fmtL_size _
        omega
      · obtain rfl : k = 0 := by omega
        have := congrArg ByteArray.size (wcat_zero xs (by omega))
        simp only [ByteArray.size_append] at this
        have e1 : (⟨(fmtWL (xs.take 1)).toArray⟩ : ByteArray).size = (fmtWL (xs.take 1)).length := rfl
        have e2 : (⟨(fmtWL (xs.take 0)).toArray⟩ : ByteArray).size = (fmtWL (xs.take 0)).length := rfl
        have e4 : (fmtL (xs[0]'(by omega))).size ≤ 2 := fmtL_size _
        simp only [Nat.zero_add]
        omega
  have h := this xs.length (Nat.le_refl _)
  rwa [List.take_of_length_le (Nat.le_refl _)] at h

theorem isWord_len {xs : List Int} (h : isWordB xs = true) : xs.length ≤ 8 := by
  unfold isWordB at h; rw [Bool.and_eq_true] at h; simpa using h.1

set_option maxHeartbeats 1000000 in
set_option maxRecDepth 100000 in
theorem specFW_any (v : Value) (xs : List Int) (w : World) (h : IntsAt w v xs) (hl : xs.length ≤ 1048577) :
    Calls Tryd.prog 27 #[v] w fun e w' => e = .returned (.string (fmtW xs)) ∧ Since w w' := by
  have HI := Lib.hid (specIW_any v xs w h hl)
  have h' := h
  obtain ⟨_, ⟨rfl, ao, cap, rfl⟩ | ⟨b, off, cap, rfl, hb, hc⟩⟩ := h'
  · have HR := Lib.hid fmtW_nil
    have hw : isWordB [] = true := rfl
    clear h
    go_enter Tryd.func27, Tryd.ntmps27
    go_wp2_with (go_at_call 25; refine (HI.out).mono ?_; rintro e w' ⟨rfl, rfl⟩)
    go_ret
    exact ⟨ret_str HR.out.symm, Since.refl _⟩
  · cases hw : isWordB xs with
    | false =>
      have HR := Lib.hid (fmtW_out hw)
      clear hc h
      go_enter Tryd.func27, Tryd.ntmps27
      go_wp2_with (go_at_call 25; refine (HI.out).mono ?_; rintro e w' ⟨rfl, rfl⟩)
      go_ret
      exact ⟨ret_str HR.out.symm, Since.refl _⟩
    | true =>
      have h8 := isWord_len hw
      by_cases h0 : xs = []
      · subst h0
        have HR := Lib.hid fmtW_nil
        clear hc h
        go_enter Tryd.func27, Tryd.ntmps27
        go_wp2_with (go_at_call 25; refine (HI.out).mono ?_; rintro e w' ⟨rfl, rfl⟩)
        go_ret
        exact ⟨ret_str HR.out.symm, Since.refl _⟩
      · have HR := Lib.hid (fmtW_in hw h0)
        have HC := Lib.hid hc
        clear hc h
        have hlp : 0 < xs.length := by cases xs with
          | nil => exact absurd rfl h0
          | cons => simp
        clear h0
        obtain ⟨n, hn⟩ : ∃ n, n = xs.length := ⟨_, rfl⟩
        rw [← hn] at HI hlp h8 ⊢
        have hnz : ((n : Int) == 0) = false := by simp; omega
        have HN := Lib.hid hn
        clear hn hl
        go_enter Tryd.func27, Tryd.ntmps27
        go_wp2_with (go_at_call 25; refine (HI.out).mono ?_; rintro e w' ⟨rfl, rfl⟩)
        go_loopw [3, 4] (fun s i wr => ∃ k : Nat, k ≤ n ∧ i = .int .i64 k ∧ s = .string ⟨(fmtWL (xs.take k)).toArray⟩ ∧ Since w wr) (fun _ i _ => n - (intOf i).toNat)
        case atStart => exact ⟨0, Nat.zero_le _, rfl, rfl, Since.refl w⟩
        case round =>
          obtain ⟨k, hk, rfl, rfl, hsin⟩ := hrel
          have hsz : (fmtWL (xs.take k)).length ≤ 24 := by
            have := fmtWL_len (xs.take k)
            have h2 : (xs.take k).length ≤ k := List.length_take_le _ _
            omega
          by_cases hlt : k < n
          · have hx : k < xs.length := by have := HN.out; omega
            have hcell : wr.cell? ⟨b, off + k, none⟩ = some (.int .i64 xs[k]) := (Below.cell hsin (p := ⟨b, off + k, none⟩) hb).trans (HC.out k hx)
            have hfs := fmtL_size xs[k]
            by_cases hk0 : 0 < k
            · have hki : (0 : Int) < (k : Int) := by omega
              have HW := Lib.hid (wcat xs k hx hk0)
              go_wp2_with fail
              refine (specFL_any _ _).mono ?_
              rintro e w1 ⟨rfl, hs1⟩
              go_wp2_with fail
              go_roundw
              case rel => exact ⟨k + 1, by omega, by go_num, by rw [HW.out], hsin.trans hs1⟩
              case measure => simp [intOf]; omega
            · obtain rfl : k = 0 := by omega
              rw [Nat.add_zero] at hcell
              rw [List.take_zero] at hsz
              have HW := Lib.hid (wcat_zero xs hx)
              rw [show ((0 : Nat) : Int) = 0 from rfl]
              go_wp2_with fail
              refine (specFL_any _ _).mono ?_
              rintro e w1 ⟨rfl, hs1⟩
              go_wp2_with fail
              exact ⟨⟨1, by omega, by go_num, congrArg Value.string HW.out, hsin.trans hs1⟩, by simp [intOf]; omega⟩
          · obtain rfl : k = n := by omega
            have ht : xs.take k = xs := List.take_of_length_le (by have := HN.out; omega)
            rw [ht] at hsz ⊢
            clear ht
            go_wp2
            go_ret
            exact ⟨ret_str HR.out.symm, hsin⟩
end Go.Proofs.YtfjlcmippnbhoaaDoor
