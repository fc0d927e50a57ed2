/- The model's IsTrail. -/
import Derived.Test.YtilkheclimammaaWe
namespace Go.Proofs.Ytilkheclimammaa
set_option maxRecDepth 100000
open Go.ChangeShapes Go.WideShapes Go.ChangeAt Go.RowKit
set_option linter.unusedVariables false
set_option linter.unusedSimpArgs false

/-- No two of the first k steps, up to the 61st, go over one edge. -/
def apart (ss : List Stp) (k : Nat) : Prop := ∀ i j (hi : i < ss.length) (hj : j < ss.length), i < j → j < k → j ≤ 60 → (ss[i]).id ≠ (ss[j]).id
theorem apart_zero (ss : List Stp) : apart ss 0 := fun i j hi hj _ h => by omega
theorem apart_step {ss : List Stp} {k : Nat} (h : apart ss k) (hx : k < ss.length) (hk : k ≤ 60 → ∀ i (hi : i < ss.length), i < k → (ss[i]).id ≠ (ss[k]).id) : apart ss (k + 1) := by
  intro i j hi hj hij hjk h60
  by_cases e : j = k
  · subst e; exact hk h60 i hi hij
  · exact h i j hi hj hij (by omega) h60
theorem trail_end {g : Grf} {x : Wlk} (h : apart x.ss x.ss.length) : validW g x = trailW g x := by
  unfold trailW
  cases hv : validW g x with
  | false => rfl
  | true =>
    rw [Bool.true_and]
    refine (decide_eq_true ?_).symm
    unfold validW at hv
    obtain ⟨ts, hts⟩ := Option.isSome_iff_exists.1 hv
    have hl := folG_len hts
    unfold edgesW
    rw [List.Nodup, List.pairwise_iff_getElem]
    intro i j hi hj hij
    rw [List.length_map] at hi hj
    rw [List.getElem_map, List.getElem_map]
    exact h i j hi hj hij hj (by omega)
theorem trail_dup {g : Grf} {x : Wlk} {i j : Nat} (hi : i < x.ss.length) (hj : j < x.ss.length) (hij : i < j) (h : (x.ss[i]).id = (x.ss[j]).id) : trailW g x = false := by
  unfold trailW
  have : decide (edgesW x).Nodup = false := by
    refine decide_eq_false fun hn => ?_
    unfold edgesW at hn
    rw [List.Nodup, List.pairwise_iff_getElem] at hn
    have := hn i j (by rw [List.length_map]; exact hi) (by rw [List.length_map]; exact hj) hij
    rw [List.getElem_map, List.getElem_map] at this
    exact this h
  rw [this, Bool.and_false]
set_option maxHeartbeats 2000000 in
set_option maxRecDepth 100000 in
theorem specIT_any (v u : Value) (g : Grf) (x : Wlk) (w : World) (h : GrfAt w v g) (hu : WlkAt w u x) (h1 : g.vs.length ≤ 1048577) (h2 : g.es.length ≤ 1048577) (h3 : x.ss.length ≤ 1048577) :
    Calls Try.prog 45 #[v, u] w fun e w' => e = .returned (.bool (trailW g x)) ∧ Since w w' := by
  have HG := Lib.hid h
  have HU := Lib.hid hu
  obtain ⟨a, b, rfl, ha, hb⟩ := h
  obtain ⟨ao, ac, rfl, _⟩ := ha.row
  obtain ⟨bo, bc, rfl⟩ := hb.len
  obtain ⟨so, rfl, hss⟩ := hu
  obtain ⟨sao, sac, rfl, HS⟩ := hss
  clear ha hb
  have hs0 : Since w ((w.alloc (.cells #[.slice ao g.vs.length ac, .slice bo g.es.length bc] 27)).alloc (.cells #[.int .i64 x.st, .slice sao x.ss.length sac] 53)) := ((Since.refl w).alloc _).alloc _
  have BG : Hid (Blk ((w.alloc (.cells #[.slice ao g.vs.length ac, .slice bo g.es.length bc] 27)).alloc (.cells #[.int .i64 x.st, .slice sao x.ss.length sac] 53)) w.heap.size 27 #[.slice ao g.vs.length ac, .slice bo g.es.length bc]) := (Blk.new rfl _ _).alloc _
  have BW : Hid (Blk ((w.alloc (.cells #[.slice ao g.vs.length ac, .slice bo g.es.length bc] 27)).alloc (.cells #[.int .i64 x.st, .slice sao x.ss.length sac] 53)) (w.heap.size + 1) 53 #[.int .i64 x.st, .slice sao x.ss.length sac]) := Blk.new (by simp) _ _
  have HIV := Lib.hid (fun V U W (k1 : GrfAt W V g) (k2 : WlkAt W U x) => specIVW_any V U g x W k1 k2 h1 h2 h3)
  obtain ⟨q, hq⟩ : ∃ q, q = x.ss.length := ⟨_, rfl⟩
  rw [← hq] at HU BW hs0 BG ⊢
  have HQ := Lib.hid hq
  have hq9 : q ≤ 1048577 := by omega
  clear hq
  go_enter Try.func45, Try.ntmps45
  go_wp2_with fail
  generalize (w.alloc (.cells #[.slice ao g.vs.length ac, .slice bo g.es.length bc] 27)).alloc (.cells #[.int .i64 x.st, .slice sao q sac] 53) = y at hs0 BG BW ⊢
  go_loopw [5] (fun i wr => ∃ k : Nat, k ≤ q ∧ i = .int .i64 k ∧ Hid (apart x.ss k) ∧ Since y wr) (fun i _ => q - (intOf i).toNat)
  case atStart => exact ⟨0, Nat.zero_le _, rfl, apart_zero _, Since.refl _⟩
  case round =>
    obtain ⟨k, hk, rfl, HA, hsw⟩ := hrel
    obtain ⟨p0, p1, _, _⟩ := (BG.out.since hsw).two
    obtain ⟨r0, r1, _, _⟩ := (BW.out.since hsw).two
    by_cases hlt : k < q
    · have hx : k < x.ss.length := by have := HQ.out; omega
      obtain ⟨be, oe, rfl, hbe, d0, d1⟩ := HS.out k hx
      have HC : Hid (∀ (i : Nat) (hi : i < x.ss.length) W, Since w W → W.cell? ⟨be, oe + i * 2, none⟩ = some (.int .i64 x.ss[i].id)) := fun i hi W hW => by
        obtain ⟨be', oe', e, hbe', d0', _⟩ := HS.out i hi
        injection e with e
        injection e with e1 e2
        subst e1; subst e2
        exact (since_cells hW hbe' _).trans d0'
      have hki : (k : Int) < (q : Int) := by omega
      have hk0 : (0 : Int) ≤ (k : Int) := by omega
      clear d0 d1
      go_wp2_with fail
      clear p0 p1 r0 r1
      go_loopw [6] (fun i wq => ∃ j : Nat, j ≤ k ∧ i = .int .i64 j ∧ Hid (∀ i (hi : i < x.ss.length), i < j → (x.ss[i]).id ≠ (x.ss[k]).id) ∧ Since wr wq) (fun i _ => k - (intOf i).toNat)
      case atStart => exact ⟨0, Nat.zero_le _, rfl, fun i hi h => by omega, Since.refl _⟩
      case round =>
        obtain ⟨j, hj, rfl, HJ, hsq⟩ := hrel
        have hs1q := hsw.trans hsq
        have hs0q := hs0.trans hs1q
        obtain ⟨r0, r1, _, _⟩ := (BW.out.since hs1q).two
        by_cases hjk : j < k
        · by_cases h60 : k ≤ 60
          · have hjx : j < x.ss.length := by omega
            have c0 := HC.out k hx _ hs0q
            have c1 := HC.out j hjx _ hs0q
            have hji : (j : Int) < (q : Int) := by omega
            have hj0 : (0 : Int) ≤ (j : Int) := by omega
            by_cases he : (x.ss[k]).id = (x.ss[j]).id
            · have HT : Hid (trailW g x = false) := trail_dup hjx hx hjk he.symm
              have hb : (x.ss[k].id == x.ss[j].id) = true := by simpa using he
              clear he
              go_wp2
              go_quiet (fail)
              go_wp2
              go_ret
              exact ⟨ret_bool HT.out.symm, hs0q.drewN _⟩
            · have HJ2 : Hid (∀ i (hi : i < x.ss.length), i < j + 1 → (x.ss[i]).id ≠ (x.ss[k]).id) := fun i hi h => by
                by_cases e : i = j
                · subst e; exact fun h2 => he h2.symm
                · exact HJ.out i hi (by omega)
              have hb : (x.ss[k].id == x.ss[j].id) = false := by simpa using he
              clear he
              go_wp2
              go_quiet (fail)
              go_wp2
              go_roundw
              case rel => exact ⟨j + 1, by omega, by go_num, HJ2, hsq.drewN _⟩
              case measure => simp [intOf]; omega
          · have HA2 := Lib.hid (apart_step HA.out hx (fun h => absurd h h60))
            go_wp2
            go_roundw
            case rel => exact ⟨k + 1, by omega, by go_num, HA2, hs1q⟩
            case measure => simp [intOf]; omega
        · obtain rfl : j = k := by omega
          have HA2 := Lib.hid (apart_step HA.out hx (fun _ i hi h => HJ.out i hi h))
          go_wp2
          go_roundw
          case rel => exact ⟨j + 1, by omega, by go_num, HA2, hs1q⟩
          case measure => simp [intOf]; omega
    · obtain rfl : k = q := by omega
      have HT : Hid (validW g x = trailW g x) := trail_end (by rw [← HQ.out]; exact HA.out)
      have hs0w := hs0.trans hsw
      go_wp2_with fail
      refine (HIV.out _ _ _ (HG.out.since hs0w) (HU.out.since hs0w)).mono ?_
      rintro en w2 ⟨rfl, hs2⟩
      rw [HT.out]
      have hs02 := hs0w.trans hs2
      go_wp2
      go_ret
      exact ⟨rfl, hs02⟩
end Go.Proofs.Ytilkheclimammaa
