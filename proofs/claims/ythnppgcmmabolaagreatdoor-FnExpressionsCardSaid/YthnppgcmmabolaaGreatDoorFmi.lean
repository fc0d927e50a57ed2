/- FormatExpr, the program's. -/
import Derived.Test.YthnppgcmmabolaaGreatDoorFmx
import Derived.Test.YthnppgcmmabolaaGreatDoorWfI
namespace Go.Proofs.YthnppgcmmabolaaGreatDoor
set_option maxRecDepth 100000
open Go.ChangeShapes Go.WideShapes Go.ChangeAt Go.RowKit
set_option linter.unusedVariables false
set_option linter.unusedSimpArgs false

/-- The row of the formats of a list's first k tokens. -/
def fillX (xs : List Tok) (k : Nat) : List Value := filled ((xs.map fmtT).map scell) (.string ByteArray.empty) k
set_option maxHeartbeats 2000000 in
set_option maxRecDepth 100000 in
theorem implFX_any (v : Value) (xs : List Tok) (w : World) (htab : Tab w) (hfm : Fmts w) (hfr : Forms w) (h : ExAt w v xs) (hl : xs.length ≤ 1048577) :
    Calls Tryz.prog 14 #[v] w fun e w' => e = .returned (.string (fmtX xs)) ∧ Since w w' := by
  have HTB := Lib.hid htab
  have HFM := Lib.hid hfm
  have HFR := Lib.hid hfr
  clear htab hfm hfr
  obtain ⟨a, rfl, ha⟩ := h
  have HA := Lib.hid ha
  obtain ⟨ao, ac, rfl, HC⟩ := ha.row
  clear ha
  obtain ⟨i0, hi, hz0, hz1, hz2⟩ := info_parts info_str
  have HZ2 := Lib.hid hz2
  clear hz2
  obtain ⟨n, hn⟩ : ∃ n, n = xs.length := ⟨_, rfl⟩
  rw [← hn] at HA ⊢
  have HN := Lib.hid hn
  have hn9 : n ≤ 1048577 := by omega
  clear hn
  obtain ⟨y, hy⟩ : ∃ y, y = w.alloc (.cells #[.slice ao n ac] 26) := ⟨_, rfl⟩
  have hsy : Since w y := by rw [hy]; exact (Since.refl w).alloc _
  have BE : Hid (Blk y w.heap.size 26 #[.slice ao n ac]) := by rw [hy]; exact Blk.new rfl _ _
  have HY := Lib.hid hy
  clear hy
  cases hv : validXB xs with
  | false =>
    have HR := Lib.hid (fmtX_out hv)
    have HV := Lib.hid hv
    clear hv
    go_enter Tryz.func14, Tryz.ntmps14
    go_wp2_with fail
    rw [← HY.out]
    refine (implVX_any _ xs _ (HFR.out.since hsy) ⟨_, rfl, HA.out.since hsy⟩ hl).mono ?_
    rintro e w1 ⟨rfl, hs1⟩
    rw [HV.out]
    have hyw := hsy.trans hs1
    go_wp2
    go_ret
    exact ⟨ret_str HR.out.symm, hyw⟩
  | true =>
    have HR := Lib.hid (fmtX_in hv)
    obtain ⟨h24, hpos, hall⟩ := valid_all hv
    have HALL := Lib.hid hall
    have HFL := Lib.hid (fmtXL_len xs hall)
    have HV := Lib.hid hv
    have hn24 : n ≤ 24 := by have := HN.out; omega
    have hnp : 0 < n := by have := HN.out; omega
    clear hv hall h24 hpos
    go_enter Tryz.func14, Tryz.ntmps14
    go_wp2_with fail
    rw [← HY.out]
    refine (implVX_any _ xs _ (HFR.out.since hsy) ⟨_, rfl, HA.out.since hsy⟩ hl).mono ?_
    rintro e w1 ⟨rfl, hs1⟩
    rw [HV.out]
    have hyw := hsy.trans hs1
    obtain ⟨p0, p1⟩ := (BE.out.since hs1).one
    go_upto_region 4 with (at_make; go_must (refine wpList_make_full _ rfl _ _ 50 rfl w1.heap.size 9 i0 (.string ByteArray.empty) 1 Tryz.underlying50 hi hz0 hz1 .i64 .i64 _ _ n rfl rfl rfl rfl (by rw [HZ2.out]; omega) (by unfold maxLen; omega) (Nat.le_refl _) ?_); intro w2 hown hgrow)
    have hs2 : Since w1 w2 := (Since.refl w1).grown hgrow (fun _ h => by simp at h)
    have hrow : w2.ownsRow w1.heap.size 9 1 (.slice (some ⟨w1.heap.size, 0, none⟩) n n) n (fillX xs 0) := by
      rw [fillX, filled_zero, List.length_map, List.length_map, ← HN.out]
      rw [made_strs] at hown
      exact hown
    clear hown hgrow p0 p1
    obtain ⟨p0, p1⟩ := (BE.out.since (hs1.trans hs2)).one
    go_wp2_with fail
    go_loopw [16] (fun i wr => ∃ k : Nat, k ≤ n ∧ i = .int .i64 k ∧ Hid (wr.ownsRow w1.heap.size 9 1 (.slice (some ⟨w1.heap.size, 0, none⟩) n n) n (fillX xs k)) ∧ Hid (Since w1 wr)) (fun i _ => n - (intOf i).toNat)
    case atStart => exact ⟨0, Nat.zero_le _, rfl, hrow, hs2⟩
    case round =>
      obtain ⟨k, hk, rfl, HO, HS⟩ := hrel
      by_cases hlt : k < n
      · have hx : k < xs.length := by have := HN.out; omega
        obtain ⟨b, off, rfl, hb, c0, c1, c2, c3⟩ := HC.out k hx
        have s1 := since_cells (hyw.trans HS.out) hb
        rw [← s1] at c0 c1 c2 c3
        clear s1
        have hok : Hid (okT xs[k] = true) := HALL.out _ (List.getElem_mem hx)
        have hki : (k : Int) < (n : Int) := by omega
        have hk0 : (0 : Int) ≤ (k : Int) := by omega
        have hfs := filled_set ((xs.map fmtT).map scell) (.string ByteArray.empty) k (by simpa using hx)
        rw [List.getElem_map, List.getElem_map] at hfs
        have HFS : Hid ((fillX xs k).set k (scell (fmtT xs[k])) = fillX xs (k + 1)) := hfs
        have HAT : Hid ((fillX xs k)[k]? = some (.string ByteArray.empty)) := filled_at _ _ k (by simpa using hx)
        clear hfs
        obtain ⟨t, ht⟩ : ∃ t, t = xs[k] := ⟨_, rfl⟩
        rw [← ht] at c0 c1 c2 c3 hok HFS
        clear ht
        obtain ⟨z, hz⟩ : ∃ z, z = wr.alloc (.cells #[.int .i64 t.kd, .int .i64 t.lr, .int .i64 t.lo, .int .i64 t.hi] 42) := ⟨_, rfl⟩
        have hsz : Since wr z := by rw [hz]; exact (Since.refl wr).alloc _
        have HZ := Lib.hid hz
        clear hz
        go_wp2_with fail
        rw [← HZ.out]
        clear c0 c1 c2 c3
        refine (formatToken_any t _ hok.out (HTB.out.since ((hyw.trans HS.out).trans hsz)) (HFM.out.since ((hyw.trans HS.out).trans hsz)) (HFR.out.since ((hyw.trans HS.out).trans hsz))).mono ?_
        rintro e w3 ⟨rfl, hs3⟩
        have hs13 := (HS.out.trans hsz).trans hs3
        have hown3 := row_since (row_since HO.out hsz) hs3
        have hdst : (w3.cell? ⟨w1.heap.size, k, none⟩) = some (.string ByteArray.empty) := (hown3.cellAt k (by omega)).trans HAT.out
        have hfz := hown3.frozenAt k
        have hst := (hown3.stored k (.string (fmtT t))).1
        rw [show (Value.string (fmtT t)) = scell (fmtT t) from rfl, HFS.out] at hst
        have HST := Lib.hid hst
        have HS3 := Lib.hid hs13
        clear hst hown3 hs13 hs3
        go_wp2_with fail
        go_roundw
        case rel => exact ⟨k + 1, by omega, by go_num, HST.out, HS3.out.setCell (Nat.le_refl _) _⟩
        case measure => simp [intOf]; omega
      · obtain rfl : k = n := by omega
        have hfin : fillX xs k = (xs.map fmtT).map scell := filled_all _ _ k (by rw [List.length_map, List.length_map, ← HN.out]; exact Nat.le_refl _)
        have hown := HO.out
        rw [hfin] at hown
        obtain ⟨hg, hcap, hcells⟩ := own_cells hown
        have hlen : (xs.map fmtT).length = k := by rw [List.length_map, ← HN.out]
        have hj : Lib.join ((xs.map fmtT).map (·.data.toList)) (⟨#[32]⟩ : ByteArray).data.toList = fmtXL xs := by
          unfold fmtXL; rw [List.map_map]; rfl
        have hfl := HFL.out k (by rw [← HN.out]; exact Nat.le_refl _)
        rw [List.take_of_length_le (by rw [← HN.out]; exact Nat.le_refl _)] at hfl
        have HJ := Lib.hid (by
          have h := fun W a b => Tryz.strings_Join w1.heap.size 0 k (xs.map fmtT) ⟨#[32]⟩ W a b (by rw [hlen]; omega) (by rw [hlen]; exact Nat.le_refl _) (by rw [hj]; omega)
          rw [hlen, hj] at h
          exact h)
        have HCE := Lib.hid hcells
        clear hfin hown hcells hlen hj hfl HO
        go_wp2_with fail
        refine (HJ.out _ HCE.out hg).mono ?_
        rintro e w3 ⟨rfl, hs3⟩
        have hs4 : Since w w3 := (hyw.trans HS.out).trans hs3
        go_wp2_with fail
        go_ret
        exact ⟨ret_str HR.out.symm, hs4⟩
end Go.Proofs.YthnppgcmmabolaaGreatDoor
