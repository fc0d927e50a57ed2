/- IsValidGraph, the program's. -/
import Derived.Test.YtilkheclimammaaVgS
namespace Go.Proofs.Ytilkheclimammaa
set_option maxRecDepth 100000
open Go.ChangeShapes Go.WideShapes Go.ChangeAt Go.RowKit
set_option linter.unusedVariables false
set_option linter.unusedSimpArgs false

/-- The number of the edge ahead of place j, 0 at the first. -/
def prevId (es : List Edg) (j : Nat) : Int := if h : 0 < j ∧ j ≤ es.length then (es[j - 1]'(by omega)).id else 0
theorem prevId_zero (es : List Edg) : prevId es 0 = 0 := by unfold prevId; rw [dif_neg (by omega)]
theorem prevId_succ {es : List Edg} {j : Nat} (h : j < es.length) : prevId es (j + 1) = (es[j]).id := by unfold prevId; rw [dif_pos ⟨by omega, by omega⟩]; simp
theorem asc_step_prev {es : List Edg} {j : Nat} (hj : j < es.length) (hp : (es.take j).Pairwise idLt) (h : prevId es j < (es[j]).id) : (es.take (j + 1)).Pairwise idLt :=
  asc_step hj hp (fun h0 => by unfold prevId at h; rw [dif_pos ⟨h0, by omega⟩] at h; exact h)
theorem bad_prev {g : Grf} {j : Nat} (hj : j < g.es.length) (hed : edB g.vs.length g.es[j] = true) (h : (g.es[j]).id ≤ prevId g.es j) : validB g = false := by
  by_cases h0 : 0 < j
  · exact valid_bad_o hj h0 (by unfold prevId at h; rw [dif_pos ⟨h0, by omega⟩] at h; exact h)
  · have := edB_ids hed
    unfold prevId at h; rw [dif_neg (by omega)] at h; omega

set_option maxHeartbeats 1000000 in
set_option maxRecDepth 100000 in
theorem implVG_any (v : Value) (g : Grf) (w : World) (h : GrfAt w v g) (h1 : g.vs.length ≤ 1048577) (h2 : g.es.length ≤ 1048577) :
    Calls Try.prog 67 #[v] w fun e w' => e = .returned (.bool (validB g)) ∧ Since w w' := by
  obtain ⟨a, b, rfl, ha, hb⟩ := h
  obtain ⟨ao, ac, rfl, HV⟩ := ha.row
  obtain ⟨bo, bc, rfl, HE⟩ := hb.row
  clear ha hb
  obtain ⟨n, hn⟩ : ∃ n, n = g.vs.length := ⟨_, rfl⟩
  obtain ⟨m, hm⟩ : ∃ m, m = g.es.length := ⟨_, rfl⟩
  rw [← hn, ← hm]
  have hn9 : n ≤ 1048577 := by omega
  have hm9 : m ≤ 1048577 := by omega
  have HN := Lib.hid hn
  have HM := Lib.hid hm
  clear hn hm h1 h2
  have hs0 : Since w (w.alloc (.cells #[.slice ao n ac, .slice bo m bc] 27)) := (Since.refl w).alloc _
  have HB : Hid (Blk (w.alloc (.cells #[.slice ao n ac, .slice bo m bc] 27)) w.heap.size 27 #[.slice ao n ac, .slice bo m bc]) := Blk.new rfl _ _
  have HBAD : Hid (¬ (1 ≤ n ∧ n ≤ 5 ∧ m ≤ 12) → validB g = false) := fun hh => validB_false (fun hv => hh (by have := hv.1; have := HN.out; have := HM.out; omega))
  by_cases c1 : n < 1
  · have HX := Lib.hid (HBAD.out (by omega))
    go_enter Try.func67, Try.ntmps67
    go_wp2
    go_ret
    exact ⟨ret_bool HX.out.symm, hs0⟩
  · by_cases c2 : 5 < n
    · have HX := Lib.hid (HBAD.out (by omega))
      go_enter Try.func67, Try.ntmps67
      go_wp2
      go_ret
      exact ⟨ret_bool HX.out.symm, hs0⟩
    · by_cases c3 : 12 < m
      · have HX := Lib.hid (HBAD.out (by omega))
        go_enter Try.func67, Try.ntmps67
        go_wp2
        go_ret
        exact ⟨ret_bool HX.out.symm, hs0⟩
      · go_enter Try.func67, Try.ntmps67
        go_wp2
        go_loop [27] (fun i => ∃ k : Nat, k ≤ n ∧ i = .int .i64 k ∧ Hid (∀ x ∈ g.vs.take k, inB x 0 2 = true)) (fun i => n - (intOf i).toNat)
        case atStart => exact ⟨0, Nat.zero_le _, rfl, fun x hx => by simp at hx⟩
        case round =>
          obtain ⟨k, hk, rfl, HT⟩ := hrel
          by_cases hlt : k < n
          · have hx : k < g.vs.length := by have := HN.out; omega
            obtain ⟨bv, ov, rfl, hbv, cv⟩ := HV.out k hx
            rw [← since_cells hs0 hbv] at cv
            by_cases hg : inB g.vs[k] 0 2 = true
            · have HT2 := Lib.hid (all_take_step (P := fun x => inB x 0 2 = true) hx HT.out hg)
              go_wp2_with (go_at_call 102; refine (isValue_any _ _).mono ?_; rintro e w' ⟨rfl, rfl⟩)
              go_round
              case rel => exact ⟨k + 1, by omega, by go_num, HT2⟩
              case measure => simp [intOf]; omega
            · have hg2 : inB g.vs[k] 0 2 = false := by simpa using hg
              have HX := Lib.hid (valid_bad_v hx hg2)
              clear hg
              go_wp2_with (go_at_call 102; refine (isValue_any _ _).mono ?_; rintro e w' ⟨rfl, rfl⟩)
              go_ret
              exact ⟨ret_bool HX.out.symm, hs0⟩
          · obtain rfl : k = n := by omega
            have HT2 : Hid (∀ x ∈ g.vs, inB x 0 2 = true) := by
              have := HT.out
              rw [List.take_of_length_le (by have := HN.out; omega)] at this
              exact this
            clear HT
            go_wp2_with fail
            go_loopw [5, 38] (fun q i wr => ∃ j : Nat, j ≤ m ∧ i = .int .i64 j ∧ q = .int .i64 (prevId g.es j) ∧ Hid (∀ e ∈ g.es.take j, edB g.vs.length e = true) ∧ Hid ((g.es.take j).Pairwise idLt) ∧ Hid (Since (w.alloc (.cells #[.slice ao k ac, .slice bo m bc] 27)) wr)) (fun _ i _ => m - (intOf i).toNat)
            case atStart => exact ⟨0, Nat.zero_le _, rfl, by rw [prevId_zero], fun x hx => by simp at hx, by unfold Hid; simp, Since.refl _⟩
            case round =>
              obtain ⟨j, hj, rfl, rfl, HA, HP, HS⟩ := hrel
              by_cases hlt2 : j < m
              · have hx : j < g.es.length := by have := HM.out; omega
                obtain ⟨be, oe, rfl, hbe, d0, d1, d2, d3⟩ := HE.out j hx
                have hsw := hs0.trans HS.out
                have s1 := since_cells hsw hbe
                rw [← s1] at d0 d1 d2 d3
                have b0 := Lib.hid ((HB.out.since HS.out).alloc (.cells #[.int .i64 g.es[j].id, .int .i64 g.es[j].fr, .int .i64 g.es[j].to, .int .i64 g.es[j].lb] 108))
                have b1 : Hid (Blk (wr.alloc (.cells #[.int .i64 g.es[j].id, .int .i64 g.es[j].fr, .int .i64 g.es[j].to, .int .i64 g.es[j].lb] 108)) wr.heap.size 108 #[.int .i64 g.es[j].id, .int .i64 g.es[j].fr, .int .i64 g.es[j].to, .int .i64 g.es[j].lb]) := Blk.new rfl _ _
                obtain ⟨p0, p1, _, _⟩ := (b0.out).two
                have hs2 := HS.out.alloc (.cells #[.int .i64 g.es[j].id, .int .i64 g.es[j].fr, .int .i64 g.es[j].to, .int .i64 g.es[j].lb] 108)
                have HPS := Lib.hid (prevId_succ hx)
                clear s1 hsw
                by_cases hed : edB k g.es[j] = true
                · have hed1 : edB g.vs.length g.es[j] = true := by rw [← HN.out]; exact hed
                  have HA2 := Lib.hid (all_take_step (P := fun e => edB g.vs.length e = true) hx HA.out hed1)
                  by_cases hord : prevId g.es j < (g.es[j]).id
                  · have HP2 := Lib.hid (asc_step_prev hx HP.out hord)
                    clear hed1
                    go_wp2_with fail
                    refine (isEdge_is g.es[j] k true _ hed).mono ?_
                    rintro e w1 ⟨rfl, hs1⟩
                    obtain ⟨q0, q1, q2, q3, _⟩ := (b1.out.since hs1).four
                    have hs3 := hs2.trans hs1
                    go_wp2
                    go_roundw
                    case rel => exact ⟨j + 1, by omega, by go_num, by rw [HPS.out], HA2, HP2, hs3⟩
                    case measure => simp [intOf]; omega
                  · have HX := Lib.hid (bad_prev hx hed1 (by omega))
                    clear hed1
                    go_wp2_with fail
                    refine (isEdge_is g.es[j] k true _ hed).mono ?_
                    rintro e w1 ⟨rfl, hs1⟩
                    obtain ⟨q0, q1, q2, q3, _⟩ := (b1.out.since hs1).four
                    have hs3 := hs2.trans hs1
                    go_wp2
                    go_ret
                    exact ⟨ret_bool HX.out.symm, hs0.trans hs3⟩
                · have hed2 : edB k g.es[j] = false := by simpa using hed
                  have HX := Lib.hid (valid_bad_e hx (by rw [← HN.out]; exact hed2))
                  clear hed
                  go_wp2_with fail
                  refine (isEdge_is g.es[j] k false _ hed2).mono ?_
                  rintro e w1 ⟨rfl, hs1⟩
                  have hs3 := hs2.trans hs1
                  go_wp2
                  go_ret
                  exact ⟨ret_bool HX.out.symm, hs0.trans hs3⟩
              · obtain rfl : j = m := by omega
                have HA2 : ∀ e ∈ g.es, edB g.vs.length e = true := by
                  have := HA.out
                  rw [List.take_of_length_le (by have := HM.out; omega)] at this
                  exact this
                have HP2 : g.es.Pairwise idLt := by
                  have := HP.out
                  rw [List.take_of_length_le (by have := HM.out; omega)] at this
                  exact this
                have HV2 : Hid (validB g = true) := by
                  unfold Hid
                  rw [valid_all HT2.out HA2 HP2, ← HN.out, ← HM.out, inB_true (by omega) (by omega)]
                  simp; omega
                have hsw := Lib.hid (hs0.trans HS.out)
                clear HA2 HP2
                go_wp2
                go_ret
                exact ⟨ret_bool HV2.out.symm, hsw.out⟩
end Go.Proofs.Ytilkheclimammaa
