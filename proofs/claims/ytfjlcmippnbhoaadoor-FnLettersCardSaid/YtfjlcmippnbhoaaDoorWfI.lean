/- FormatWord, the program's; its law. -/
import Derived.Test.YtfjlcmippnbhoaaDoorWf
import Derived.Test.YtfjlcmippnbhoaaDoorCmp
namespace Go.Proofs.YtfjlcmippnbhoaaDoor
set_option linter.unusedVariables false
open Go.ChangeShapes Go.WideShapes Go.ChangeAt Go.RowKit

theorem info_str : (Tryd.prog.info? 9).map (fun i => (i.zero, i.size, i.bytes)) = some (some (.string ByteArray.empty), 1, 16) := by kernel_rfl
theorem made_strs (n : Nat) : (madeCells (Value.string ByteArray.empty).cells (n * 1)).toList = List.replicate n (.string ByteArray.empty) := by
  rw [Nat.mul_one]; exact toList_madeCells_one _ n
def scell (s : ByteArray) : Value := .string s
/-- The row of the formats of a list's first k letters. -/
def fmtFill (xs : List Int) (k : Nat) : List Value := filled ((xs.map fmtL).map scell) (.string ByteArray.empty) k

theorem own_cells {base n : Nat} {w : World} {g cap : Nat} {ss : List ByteArray} (h : w.ownsRow base 9 1 (.slice (some ⟨g, 0, none⟩) n cap) n (ss.map scell)) :
    g < w.heap.size ∧ n ≤ cap ∧ ∀ (j : Nat) x, ss[j]? = some x → w.cell? ⟨g, 0 + j, none⟩ = some (.string x) := by
  have h' := h
  rcases h.2 with ⟨hv, hn⟩ | ⟨g', cap', cur, hv, hb, hg, hnc, _⟩
  · cases hv
  · cases hv
    refine ⟨heap_lt hg, hnc, fun j x hx => ?_⟩
    have hl := h.1
    rw [List.length_map] at hl
    have hj : j < ss.length := (List.getElem?_eq_some_iff.1 hx).1
    rw [Nat.zero_add, h'.cellAt j (by omega), List.getElem?_map, hx]
    rfl

set_option maxHeartbeats 2000000 in
set_option maxRecDepth 100000 in
theorem implFW_any (v : Value) (xs : List Int) (w : World) (ht : Fmts w) (h : IntsAt w v xs) (hl : xs.length ≤ 1048577) :
    Calls Tryd.prog 22 #[v] w fun e w' => e = .returned (.string (fmtW xs)) ∧ Since w w' := by
  have HI := Lib.hid (implIW_any v xs w h hl)
  have HT := Lib.hid ht
  clear ht
  have h' := h
  obtain ⟨i0, hi, hz0, hz1, hz2⟩ := info_parts info_str
  have HZ2 := Lib.hid hz2
  clear hz2
  obtain ⟨_, ⟨rfl, ao, cap, rfl⟩ | ⟨b, off, cap, rfl, hb, hc⟩⟩ := h'
  · have HR := Lib.hid fmtW_nil
    have hw : isWordB [] = true := rfl
    clear h
    go_enter Tryd.func22, Tryd.ntmps22
    go_wp2_with (go_at_call 44; refine (HI.out).mono ?_; rintro e w' ⟨rfl, rfl⟩)
    go_ret
    exact ⟨ret_str HR.out.symm, Since.refl _⟩
  · cases hw : isWordB xs with
    | false =>
      have HR := Lib.hid (fmtW_out hw)
      clear hc h
      go_enter Tryd.func22, Tryd.ntmps22
      go_wp2_with (go_at_call 44; refine (HI.out).mono ?_; rintro e w' ⟨rfl, rfl⟩)
      go_ret
      exact ⟨ret_str HR.out.symm, Since.refl _⟩
    | true =>
      have h8 := isWord_len hw
      by_cases h0 : xs = []
      · subst h0
        have HR := Lib.hid fmtW_nil
        clear hc h
        go_enter Tryd.func22, Tryd.ntmps22
        go_wp2_with (go_at_call 44; refine (HI.out).mono ?_; rintro e w' ⟨rfl, rfl⟩)
        go_ret
        exact ⟨ret_str HR.out.symm, Since.refl _⟩
      · have HR := Lib.hid (fmtW_in hw h0)
        have HC := Lib.hid hc
        clear hc h
        have hlp : 0 < xs.length := by cases xs with
          | nil => exact absurd rfl h0
          | cons => simp
        clear h0
        obtain ⟨n, hn⟩ : ∃ n, n = xs.length := ⟨_, rfl⟩
        rw [← hn] at HI hlp h8 ⊢
        have hnz : ((n : Int) == 0) = false := by simp; omega
        have HN := Lib.hid hn
        clear hn hl
        go_enter Tryd.func22, Tryd.ntmps22
        go_wp2_with (first
          | (go_at_call 44; refine (HI.out).mono ?_; rintro e w' ⟨rfl, rfl⟩)
          | (at_make; go_must (refine wpList_make_full _ rfl _ _ 49 rfl w.heap.size 9 i0 (.string ByteArray.empty) 1 Tryd.underlying49 hi hz0 hz1 .i64 .i64 _ _ n rfl rfl rfl rfl (by rw [HZ2.out]; omega) (by unfold maxLen; omega) (Nat.le_refl _) ?_); intro w1 hown hgrow))
        have hsin : Since w w1 := (Since.refl w).grown hgrow (fun _ h => by simp at h)
        have hrow : w1.ownsRow w.heap.size 9 1 (.slice (some ⟨w.heap.size, 0, none⟩) n n) n (fmtFill xs 0) := by
          rw [fmtFill, filled_zero, List.length_map, List.length_map, ← HN.out]
          rw [made_strs] at hown
          exact hown
        clear hown hgrow
        go_loopw [17] (fun i wr => ∃ k : Nat, k ≤ n ∧ i = .int .i64 k ∧ wr.ownsRow w.heap.size 9 1 (.slice (some ⟨w.heap.size, 0, none⟩) n n) n (fmtFill xs k) ∧ Since w wr) (fun i _ => n - (intOf i).toNat)
        case atStart => exact ⟨0, Nat.zero_le _, rfl, hrow, hsin⟩
        case round =>
          obtain ⟨k, hk, rfl, hown, hsin⟩ := hrel
          by_cases hlt : k < n
          · have hx : k < xs.length := by have := HN.out; omega
            have hcell : wr.cell? ⟨b, off + k, none⟩ = some (.int .i64 xs[k]) := (Below.cell hsin (p := ⟨b, off + k, none⟩) hb).trans (HC.out k hx)
            have HO := Lib.hid hown
            have HS := Lib.hid hsin
            clear hown hsin
            go_wp2_with fail
            refine (implFL_any _ _ (HT.out.since HS.out)).mono ?_
            rintro e w2 ⟨rfl, hs2⟩
            have hsin2 := HS.out.trans hs2
            have hown2 : w2.ownsRow w.heap.size 9 1 (.slice (some ⟨w.heap.size, 0, none⟩) n n) n (fmtFill xs k) := by
              obtain ⟨a, b⟩ := HO.out
              refine ⟨a, ?_⟩
              rcases b with b | ⟨g, c, cur, b1, b2, b3, b4⟩
              · exact .inl b
              · exact .inr ⟨g, c, cur, b1, b2, (hs2.block g (heap_lt b3)).trans b3, b4⟩
            have hdst : (w2.cell? ⟨w.heap.size, k, none⟩) = some (.string ByteArray.empty) := (hown2.cellAt k (by omega)).trans (filled_at _ _ k (by simpa using hx))
            have hfz := hown2.frozenAt k
            have hst := (hown2.stored k (.string (fmtL xs[k]))).1
            have hfs := filled_set ((xs.map fmtL).map scell) (.string ByteArray.empty) k (by simpa using hx)
            rw [List.getElem_map, List.getElem_map] at hfs
            rw [show (Value.string (fmtL xs[k])) = scell (fmtL xs[k]) from rfl, fmtFill, hfs] at hst
            have HST := Lib.hid hst
            have HS2 := Lib.hid hsin2
            clear hst hfs hown2 hsin2 hs2
            go_wp2_with fail
            go_roundw
            case rel => exact ⟨k + 1, by omega, by go_num, HST.out, HS2.out.setCell (Nat.le_refl _) _⟩
            case measure => simp [intOf]; omega
          · obtain rfl : k = n := by omega
            have hfin : fmtFill xs k = (xs.map fmtL).map scell := filled_all _ _ k (by rw [List.length_map, List.length_map, ← HN.out]; exact Nat.le_refl _)
            rw [hfin] at hown
            obtain ⟨hg, hcap, hcells⟩ := own_cells hown
            have hlen : (xs.map fmtL).length = k := by rw [List.length_map, ← HN.out]
            have hj : Lib.join ((xs.map fmtL).map (·.data.toList)) (⟨#[32]⟩ : ByteArray).data.toList = fmtWL xs := by
              unfold fmtWL; rw [List.map_map]; rfl
            have HJ := Lib.hid (by
              have h := fun W a b => Tryd.strings_Join w.heap.size 0 k (xs.map fmtL) ⟨#[32]⟩ W a b (by rw [hlen]; omega) (by rw [hlen]; exact Nat.le_refl _) (by rw [hj]; have := fmtWL_len xs; have := HN.out; omega)
              rw [hlen, hj] at h
              exact h)
            have HCE := Lib.hid hcells
            have HS := Lib.hid hsin
            clear hfin hown hcells hlen hj hsin
            go_wp2_with fail
            refine (HJ.out _ HCE.out hg).mono ?_
            rintro e w2 ⟨rfl, hs2⟩
            have hs3 : Since w w2 := HS.out.trans hs2
            go_wp2_with fail
            go_ret
            exact ⟨ret_str HR.out.symm, hs3⟩

set_option maxRecDepth 100000 in
theorem fnExactFormatWord_walk (v : Value) (xs : List Int) (w : World) (ht : Fmts w) (h : IntsAt w v xs) (hl : xs.length ≤ maxLen) :
    Calls Tryd.prog 6 #[v] w fun e w' => e = .returned (.bool true) ∧ Since w w' := by
  unfold maxLen at hl
  have H := Lib.hid h
  have HT := Lib.hid ht
  obtain ⟨ao, cap, rfl⟩ := h.len
  clear h ht
  by_cases hbig : 1048576 < xs.length
  · go_enter Tryd.func6, Tryd.ntmps6
    go_wp2
    go_ret
    exact ⟨rfl, Since.refl _⟩
  · have hn : xs.length ≤ 1048577 := by omega
    have hn2 : xs.length ≤ 4611686018427387904 := by omega
    go_enter Tryd.func6, Tryd.ntmps6
    go_wp2_with fail
    refine (toIntS_any _ xs _ H.out hn).mono ?_
    rintro e w1 ⟨v1, rfl, ho1, hs1⟩
    go_wp2_with fail
    refine (specFW_any _ xs _ ho1.at hn).mono ?_
    rintro e w2 ⟨rfl, hs2⟩
    have hs12 := hs1.trans hs2
    go_wp2_with fail
    refine (toIntS_any _ xs _ (H.out.since hs12) hn).mono ?_
    rintro e w3 ⟨v3, rfl, ho3, hs3⟩
    have hs13 := hs12.trans hs3
    go_wp2_with fail
    refine (implFW_any _ xs _ (HT.out.since hs13) ho3.at hn).mono ?_
    rintro e w4 ⟨rfl, hs4⟩
    have hs14 := hs13.trans hs4
    go_wp2_with fail
    refine (toIntS_any _ xs _ (H.out.since hs14) hn).mono ?_
    rintro e w5 ⟨v5, rfl, ho5, hs5⟩
    go_wp2_with fail
    refine (eqIntS_any _ _ xs xs _ ((ho3.at.since hs4).since hs5) ho5.at hn2 hn2).mono ?_
    rintro e w6 ⟨rfl, hs6⟩
    have hf := (hs14.trans hs5).trans hs6
    go_wp2_with fail
    go_ret
    exact ⟨ret_bool (by simp), hf⟩
end Go.Proofs.YtfjlcmippnbhoaaDoor
