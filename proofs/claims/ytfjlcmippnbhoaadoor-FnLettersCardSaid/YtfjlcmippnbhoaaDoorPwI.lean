/- ParseWord, the program's; its law. -/
import Derived.Test.YtfjlcmippnbhoaaDoorPwS
import Derived.Test.YtfjlcmippnbhoaaDoorPlI
import Derived.Test.YtfjlcmippnbhoaaDoorIw
namespace Go.Proofs.YtfjlcmippnbhoaaDoor
set_option linter.unusedVariables false
open Go.ChangeShapes Go.WideShapes Go.ChangeAt Go.RowKit

/-- The cell of internal/bytealg.MaxLen holds some number. -/
def MaxL (w : World) : Prop := 1 < w.heap.size ∧ ∃ m : Int, w.cell? ⟨1, 0, none⟩ = some (.int .i64 m)
theorem MaxL.since {w w' : World} (h : MaxL w) (k : Since w w') : MaxL w' := by
  obtain ⟨h1, m, h2⟩ := h
  exact ⟨Nat.lt_of_lt_of_le h1 k.size, m, (Below.cell k (p := ⟨1, 0, none⟩) h1).trans h2⟩
theorem cellsOf_at (ss : List ByteArray) (n j : Nat) (h : j < ss.length) : (Lib.cellsOf ss n)[j]? = some (.string ss[j]) := by
  unfold Lib.cellsOf
  rw [List.getElem?_toArray, List.getElem?_append_left (by simpa using h), List.getElem?_map, List.getElem?_eq_getElem h]; rfl

set_option maxHeartbeats 4000000 in
set_option maxRecDepth 100000 in
theorem implPW_any (s : ByteArray) (w : World) (ht : Fmts w) (hm : MaxL w) (hs : s.size ≤ 1048576) :
    Calls Tryd.prog 23 #[.string s] w (PwOut w s) := by
  by_cases hnil : s = nilS
  · have HR := Lib.hid (pw_nil hnil)
    subst hnil
    have he : (nilS.toList == [40, 41]) = true := by rw [nilS_list]; decide
    clear ht hm
    go_enter Tryd.func23, Tryd.ntmps23
    go_wp2
    go_ret2
    exact pwOut_some HR.out (own_nil w w) (Since.refl w)
  · have he : (s.toList == [40, 41]) = false := by have := str_ne hnil; rwa [nilS_list] at this
    have HN := Lib.hid hnil
    have HT := Lib.hid ht
    obtain ⟨hm1, m, hm⟩ := hm
    have HSP := Lib.hid (Tryd.strings_SplitN s sp 9 m w (by omega) hm (by decide) (by omega) (by omega))
    obtain ⟨ps, hps⟩ : ∃ ps, ps = Lib.splitB sp 0 (min 9 (s.size + 1) - 1) s := ⟨_, rfl⟩
    obtain ⟨c9, hc9⟩ : ∃ c9, c9 = min 9 (s.size + 1) := ⟨_, rfl⟩
    rw [← hps, ← hc9] at HSP
    have H9 := Lib.hid (splitB_nine s)
    rw [← hps] at H9
    have hl9 : ps.length ≤ 9 := by
      have := Lib.splitB_length_le sp 0 (min 9 (s.size + 1) - 1) s
      rw [← hps] at this; omega
    clear hnil ht hm hps hc9
    have hwsz : w.heap.size = w.heap.size := rfl
    by_cases hlong : 8 < ps.length
    · have HB : Hid (pwOk s = false) := pwOk_long (by
        have h := H9.out
        by_cases h8 : (cutB s).length ≤ 8
        · have := h.1 h8; rw [this] at hlong; omega
        · omega)
      have hli : (8 : Int) < (ps.length : Int) := by omega
      clear hwsz
      go_enter Tryd.func23, Tryd.ntmps23
      go_wp2_with fail
      refine (HSP.out).mono ?_
      rintro e w1 ⟨rfl, hw1⟩
      have HS1 : Hid (Since w w1) := by rw [hw1]; exact (Since.refl w).alloc _
      clear hw1
      go_wp2_with fail
      go_ret2
      exact pwOut_none (pw_bad HN.out HB.out) (own_nil w w1) HS1.out
    · have h8 : (cutB s).length ≤ 8 := by
        have h := H9.out
        by_cases h8 : (cutB s).length ≤ 8
        · exact h8
        · have := h.2 (by omega); omega
      have HPS : Hid (ps = cutB s) := (H9.out).1 h8
      obtain ⟨n, hn⟩ : ∃ n, n = ps.length := ⟨_, rfl⟩
      have hn8 : n ≤ 8 := by omega
      have hli : ¬ (8 : Int) < (n : Int) := by omega
      rw [← hn] at HSP
      have HNN := Lib.hid hn
      clear hn hlong hwsz hl9 h8
      obtain ⟨i0, hi, hz0, hz1, hz2⟩ := info_parts info_int
      have HZ2 := Lib.hid hz2
      clear hz2
      go_enter Tryd.func23, Tryd.ntmps23
      go_wp2_with fail
      refine (HSP.out).mono ?_
      rintro e w1 ⟨rfl, hw1⟩
      have HS1 : Hid (Since w w1) := by rw [hw1]; exact (Since.refl w).alloc _
      have HC : Hid (w.heap.size < w1.heap.size ∧ ∀ j (h : j < ps.length), w1.cell? ⟨w.heap.size, j, none⟩ = some (.string ps[j])) := by
        rw [hw1]
        refine ⟨by simp, fun j h => ?_⟩
        rw [World.cell?_alloc_at _ _ _ _ rfl]
        exact cellsOf_at ps c9 j h
      clear hw1
      obtain ⟨g, hg⟩ : ∃ g, g = w.heap.size := ⟨_, rfl⟩
      rw [← hg]
      rw [← hg] at HC
      have HG := Lib.hid hg
      clear hg
      go_wp2_with (at_make; go_must (refine wpList_make_full _ rfl _ _ 30 rfl w1.heap.size 3 i0 (.int .i64 0) 1 Tryd.underlying30 hi hz0 hz1 .i64 .i64 _ _ n rfl rfl rfl rfl (by rw [HZ2.out]; omega) (by unfold maxLen; omega) (Nat.le_refl _) ?_); intro w2 hown hgrow)
      have hs2 : Since w1 w2 := (Since.refl w1).grown hgrow (fun _ h => by simp at h)
      have hrow : w2.ownsRow w1.heap.size 3 1 (.slice (some ⟨w1.heap.size, 0, none⟩) n n) n (filled ((ps.map plN).map icell) (icell 0) 0) := by
        rw [filled_zero, List.length_map, List.length_map, ← HNN.out]
        rw [made_ints] at hown
        exact hown
      clear hown hgrow
      go_loopw [22] (fun i wr => ∃ k : Nat, k ≤ n ∧ i = .int .i64 k ∧ Hid ((ps.take k).all plB = true) ∧ wr.ownsRow w1.heap.size 3 1 (.slice (some ⟨w1.heap.size, 0, none⟩) n n) n (filled ((ps.map plN).map icell) (icell 0) k) ∧ Since w1 wr) (fun i _ => n - (intOf i).toNat)
      case atStart => exact ⟨0, Nat.zero_le _, rfl, rfl, hrow, hs2⟩
      case round =>
        obtain ⟨k, hk, rfl, HA, hown, hsin⟩ := hrel
        by_cases hlt : k < n
        · have hx : k < ps.length := by have := HNN.out; omega
          have hcell : wr.cell? ⟨g, k, none⟩ = some (.string ps[k]) := (Below.cell hsin (p := ⟨g, k, none⟩) HC.out.1).trans (HC.out.2 k hx)
          have HS := Lib.hid hsin
          have HO := Lib.hid hown
          have hsz : Hid (ps[k].size ≤ 9223372036854775807) := by
            have := cutB_part_le s ps[k] (by rw [← HPS.out]; exact List.getElem_mem hx)
            unfold Hid; omega
          clear hown hsin
          cases hp : plB ps[k] with
          | false =>
            have HBAD : Hid (pwOk s = false) := pwOk_bad k (by rw [← HPS.out]; exact hx) (by have := HPS.out; subst this; exact hp)
            go_wp2_with fail
            refine (implPL_any ps[k] _ (HT.out.since (HS1.out.trans HS.out)) hsz.out).mono ?_
            rintro e w3 ⟨rfl, hs3⟩
            have hs4 : Since w w3 := (HS1.out.trans HS.out).trans hs3
            go_wp2_with fail
            go_ret2
            exact pwOut_none (pw_bad HN.out HBAD.out) (own_nil w w3) hs4
          | true =>
            have HA2 := Lib.hid (all_snoc k hx HA.out hp)
            go_wp2_with fail
            refine (implPL_any ps[k] _ (HT.out.since (HS1.out.trans HS.out)) hsz.out).mono ?_
            rintro e w3 ⟨rfl, hs3⟩
            have hs4 := HS.out.trans hs3
            have hown2 : w3.ownsRow w1.heap.size 3 1 (.slice (some ⟨w1.heap.size, 0, none⟩) n n) n (filled ((ps.map plN).map icell) (icell 0) k) := by
              obtain ⟨a, b⟩ := HO.out
              refine ⟨a, ?_⟩
              rcases b with b | ⟨g, c, cur, b1, b2, b3, b4⟩
              · exact .inl b
              · exact .inr ⟨g, c, cur, b1, b2, (hs3.block g (heap_lt b3)).trans b3, b4⟩
            have hdst : (w3.cell? ⟨w1.heap.size, k, none⟩) = some (icell 0) := (hown2.cellAt k (by omega)).trans (filled_at _ _ k (by simpa using hx))
            unfold icell at hdst
            have hfz := hown2.frozenAt k
            have hst := (hown2.stored k (.int .i64 (plN ps[k]))).1
            have hfs := filled_set ((ps.map plN).map icell) (icell 0) k (by simpa using hx)
            rw [List.getElem_map, List.getElem_map] at hfs
            rw [show (Value.int .i64 (plN ps[k])) = icell (plN ps[k]) from rfl, hfs] at hst
            have HST := Lib.hid hst
            have HS4 := Lib.hid hs4
            clear hst hfs hown2 hs4 hs3
            go_wp2_with fail
            go_roundw
            case rel => exact ⟨k + 1, by omega, by go_num, HA2, HST.out, HS4.out.setCell (Nat.le_refl _) _⟩
            case measure => simp [intOf]; omega
        · obtain rfl : k = n := by omega
          have hfin : filled ((ps.map plN).map icell) (icell 0) k = (ps.map plN).map icell := filled_all _ _ k (by rw [List.length_map, List.length_map, ← HNN.out]; exact Nat.le_refl _)
          rw [hfin] at hown
          have HGD : Hid (pwOk s = true) := pwOk_good (by rw [← HPS.out, ← HNN.out]; omega) (by have h := HA.out; rw [List.take_of_length_le (by have := HNN.out; omega), HPS.out] at h; exact h)
          have HO : Hid (Own w.heap.size wr (.slice (some ⟨w1.heap.size, 0, none⟩) k k) ((cutB s).map plN)) := by
            have : Own w1.heap.size wr (.slice (some ⟨w1.heap.size, 0, none⟩) k k) (ps.map plN) := ⟨ins_of _, by rw [List.length_map, ← HNN.out]; exact hown⟩
            rw [HPS.out] at this
            exact this.mono HS1.out.lt
          have HS := Lib.hid (HS1.out.trans hsin)
          clear hown hsin hfin
          go_wp2_with fail
          go_ret2
          exact pwOut_some (pw_good HN.out HGD.out) HO.out HS.out

set_option maxRecDepth 100000 in
theorem fnExactParseWord_walk (s : ByteArray) (hs : s.size ≤ maxLen) (w : World) (ht : Fmts w) (hm : MaxL w) :
    Calls Tryd.prog 7 #[.string s] w fun e w' => e = .returned (.bool true) ∧ Since w w' := by
  unfold maxLen at hs
  by_cases hbig : 1048576 < s.size
  · clear ht hm
    go_enter Tryd.func7, Tryd.ntmps7
    go_wp2
    go_ret
    exact ⟨rfl, Since.refl _⟩
  · have HT := Lib.hid ht
    have HM := Lib.hid hm
    clear ht hm
    have hsm : s.size ≤ 1048576 := by omega
    have hlen : (pwL s).length ≤ 8 := by
      unfold pwL
      split
      · simp
      · split
        · rename_i h; rw [List.length_map]
          unfold pwOk at h; rw [Bool.and_eq_true] at h; simpa using h.1
        · simp
    have h2 : (pwL s).length ≤ 4611686018427387904 := by omega
    have h3 : (pwL s).length ≤ 2305843009213693952 := by omega
    obtain ⟨xs, hxs⟩ : ∃ xs, xs = pwL s := ⟨_, rfl⟩
    rw [← hxs] at h2 h3
    have HX := Lib.hid hxs
    clear hxs hlen
    go_enter Tryd.func7, Tryd.ntmps7
    go_wp2_with fail
    refine (specPW_any s _ hsm).mono ?_
    rintro e w1 ⟨v1, rfl, ho1, hs1⟩
    rw [← HX.out] at ho1
    go_wp2_with fail
    refine (implPW_any s _ (HT.out.since hs1) (HM.out.since hs1) hsm).mono ?_
    rintro e w2 ⟨v2, rfl, ho2, hs2⟩
    rw [← HX.out] at ho2
    have hs12 := hs1.trans hs2
    go_wp2_with fail
    refine (eqIntS_any _ _ xs xs _ ho2.at (ho1.at.since hs2) h2 h2).mono ?_
    rintro e w3 ⟨rfl, hs3⟩
    have hs13 := hs12.trans hs3
    have hx : decide (xs = xs) = true := by simp
    have hbb : (pwB s != pwB s) = false := by simp
    go_wp2_with fail
    refine (markIntS_any w1.heap.size v2 xs 1 w3 (ho2.since hs3) (by decide) (by decide) h3).mono ?_
    rintro e w4 ⟨rfl, ho4, hg4⟩
    have hs14 : Since w w4 := hs13.grown hg4 (fun k hk => by have := (ho2.lt k hk).1; have := hs1.lt; omega)
    have ho1b : IntsAt w4 v1 xs := (ho1.at.since (hs2.trans hs3)).grown hg4 (ownBlock_or _ _ (fun k hk e => by have a1 := (ho1.lt k hk).2; have a2 := (ho2.lt k e).1; omega))
    go_wp2_with fail
    refine (heldIntS_any v2 1 xs.length w4 ho4.at (by decide) (by decide) h3).mono ?_
    rintro e w' ⟨rfl, rfl⟩
    have hd1 : decide ((1 : Int) + (xs.length : Int) < 0) = false := by simp; omega
    have hb1 : ((1 : Int) + (xs.length : Int) != 1 + (xs.length : Int)) = false := by simp
    go_wp2_with fail
    refine (implPW_any s _ (HT.out.since hs14) (HM.out.since hs14) hsm).mono ?_
    rintro e w5 ⟨v5, rfl, ho5, hs5⟩
    rw [← HX.out] at ho5
    have hs15 := hs14.trans hs5
    go_wp2_with fail
    refine (eqIntS_any _ _ xs xs _ ho5.at (ho1b.since hs5) h2 h2).mono ?_
    rintro e w6 ⟨rfl, hs6⟩
    have hs16 := hs15.trans hs6
    go_wp2_with fail
    refine (heldIntS_any v2 1 xs.length w6 (ho4.at.since (hs5.trans hs6)) (by decide) (by decide) h3).mono ?_
    rintro e w' ⟨rfl, rfl⟩
    go_wp2_with fail
    go_ret
    exact ⟨ret_bool (by simp), hs16⟩
end Go.Proofs.YtfjlcmippnbhoaaDoor
