/- l13Onward, the model's: what is reached from a state in one step or more. -/
import Derived.Test.YtmaagihfjldgeaaAuX
import Derived.Test.YtmaagihfjldgeaaFnM
import Derived.Test.YtmaagihfjldgeaaK1
namespace Go.Proofs.Ytmaagihfjldgeaa
set_option maxRecDepth 100000
open Go.ChangeShapes Go.WideShapes Go.ChangeAt Go.RowKit Go.Maps
set_option linter.unusedVariables false
set_option linter.unusedSimpArgs false

/-- The successors by the first letters. -/
def succK (A : Aut) (s k : Nat) : Nat → Bool := fun t => (List.range k).any fun j => tgt A s j == some t
theorem succK_zero (A : Aut) (s n : Nat) : boL (succK A s 0) n = List.replicate n false := by
  apply List.ext_getElem
  · simp [boL]
  · intro i h1 h2; simp [boL, succK]
theorem succK_step (A : Aut) (s k t : Nat) : succK A s (k + 1) t = (succK A s k t || tgt A s k == some t) := by
  unfold succK
  rw [List.range_succ, List.any_append]
  simp
theorem succK_none {A : Aut} {s k n : Nat} (h : tgt A s k = none) : boL (succK A s (k + 1)) n = boL (succK A s k) n := by
  unfold boL
  apply List.map_congr_left
  intro t _
  rw [succK_step, h]
  simp
theorem succK_some {A : Aut} {s k t n : Nat} (h : tgt A s k = some t) (ht : t < n) : boL (succK A s (k + 1)) n = (boL (succK A s k) n).set t true := by
  apply List.ext_getElem
  · simp [boL]
  · intro i h1 h2
    have hi : i < n := by rw [boL_length] at h1; exact h1
    rw [boL_get _ _ _ hi, List.getElem_set, succK_step, h]
    by_cases e : t = i
    · subst e; simp
    · rw [if_neg e, boL_get _ _ _ hi]
      simp [e]
set_option maxHeartbeats 4000000 in
set_option maxRecDepth 100000 in
theorem specOW_any (v : Value) (A : Aut) (s0 : Nat) (f : Nat → Bool) (w : World) (h : AutAt w v A) (hv : ValidA A) (h0 : s0 < A.ac.length) (hf : ∀ s, f s = true ↔ LeastP (rchR A) A.ac.length (boL (succB A s0) A.ac.length) s) :
    Calls Try.prog 132 #[v, .int .i64 (s0 : Int)] w (BoOut w (boL f A.ac.length)) := by
  obtain ⟨a, b, rfl, _, ha, hb⟩ := h
  obtain ⟨ao, ca, rfl⟩ := ha.len
  obtain ⟨bo, cb, rfl, HC⟩ := hb
  clear ha
  have HV := Lib.hid hv
  have HF := Lib.hid hf
  have hn12 := hv.1
  have hst := hv.2.2.1
  have hn0 : 0 < A.ac.length := by omega
  have hnm : A.nx.length = A.ac.length := hv.2.1
  rw [hnm]
  clear hnm hv hf
  obtain ⟨n, hn⟩ : ∃ n, n = A.ac.length := ⟨_, rfl⟩
  rw [← hn] at hn12 hn0 hst h0 ⊢
  have HN := Lib.hid hn
  clear hn
  obtain ⟨i0, hi, hz0, hz1, hz2⟩ := info_parts info_boolB
  have HZ2 := Lib.hid hz2
  clear hz2
  obtain ⟨y, hy⟩ : ∃ y, y = w.alloc (.cells #[.int .i64 A.st, .slice ao n ca, .slice bo n cb] 39) := ⟨_, rfl⟩
  have hs0 : Since w y := by rw [hy]; exact (Since.refl w).alloc _
  have hz : y.heap.size = w.heap.size + 1 := by rw [hy]; simp
  have B0 : Hid (Blk y w.heap.size 39 #[.int .i64 A.st, .slice ao n ca, .slice bo n cb]) := by rw [hy]; exact Blk.new rfl _ _
  obtain ⟨⟨p0, p1, p2⟩, _⟩ := B0.out.threeA
  have HB0 := Lib.hid B0.out
  have HS0 := Lib.hid hs0
  have e1 : (w.alloc (.cells #[.int .i64 A.st, .slice ao n ca, .slice bo n cb] 39)).heap.size = w.heap.size + 1 := by simp
  rw [hy] at p0 p1 p2 HB0 HS0
  have hsi0 : (s0 : Int) < (n : Int) := by omega
  have hsj0 : (0 : Int) ≤ (s0 : Int) := by omega
  obtain ⟨u1, v1, u2, v2, uc, rfl, hu1, hucell, hu2, hucs⟩ := next_cells HV.out HC s0 (by rw [← HN.out]; exact h0)
  have HUC := Lib.hid hucs
  have HUL := Lib.hid hucell
  clear hucs hucell hy B0 hs0 hz hst
  go_enter Try.func132, Try.ntmps132
  go_upto_region 2 with (at_make; go_must (refine wpList_make_full _ rfl _ _ 36 rfl (w.heap.size + 1) 4 i0 (.bool false) 1 Try.underlying36 hi hz0 hz1 .i64 .i64 _ _ n rfl rfl rfl rfl (by rw [HZ2.out]; omega) (by unfold maxLen; omega) (by rw [e1]; exact Nat.le_refl _) ?_); intro w1 hown hgrow)
  rw [made_bools] at hown
  try rw [e1] at hown
  have hL := lv_made hown hgrow HS0.out HB0.out hn0 e1
  have HL00 : Hid (LvW w n (w.heap.size + 1) n #[.int .i64 A.st, .slice ao n ca, .slice (some ⟨u1, v1, none⟩) n cb] w1 (boL (succK A s0 0) n)) := by rw [succK_zero]; exact hL
  clear hown hgrow p0 p1 p2 hL
  go_wp2
  go_loopw [6] (fun i wr => ∃ k : Nat, k ≤ 9 ∧ i = .int .i64 k ∧ Hid (LvW w n (w.heap.size + 1) n #[.int .i64 A.st, .slice ao n ca, .slice (some ⟨u1, v1, none⟩) n cb] wr (boL (succK A s0 k) n))) (fun i _ => 9 - (intOf i).toNat)
  case atStart => exact ⟨0, Nat.zero_le _, rfl, HL00.out⟩
  case round =>
    obtain ⟨k, hk, rfl, HLk⟩ := hrel
    obtain ⟨⟨p0, p1, p2⟩, _⟩ := HLk.out.box.threeA
    by_cases hkt : k < 9
    · have hki : (k : Int) < 9 := by omega
      have hk0i : (0 : Int) ≤ (k : Int) := by omega
      obtain ⟨q, hq⟩ : ∃ q, q = nextA A.nx s0 k := ⟨_, rfl⟩
      have f1 : wr.cell? ⟨u1, v1 + s0, none⟩ = some (.slice (some ⟨u2, v2, none⟩) 9 uc) := (Below.cell HLk.out.since (p := ⟨u1, v1 + s0, none⟩) hu1).trans HUL.out
      have f2 : wr.cell? ⟨u2, v2 + k, none⟩ = some (.int .i64 q) := by rw [hq]; exact (Below.cell HLk.out.since (p := ⟨u2, v2 + k, none⟩) hu2).trans (HUC.out k hkt)
      obtain ⟨_, _, _, hb5, hb6⟩ := nextA_in HV.out (s0 : Int) (k : Int) ⟨hsj0, by rw [← HN.out]; omega⟩ (by simp [inB]; omega)
      rw [← hq] at hb5 hb6
      rw [← HN.out] at hb6
      have HQ := Lib.hid hq
      clear hq
      by_cases e1 : q = -1
      · subst e1
        have HE : Hid (boL (succK A s0 (k + 1)) n = boL (succK A s0 k) n) := succK_none (tgt_none (by rw [← HQ.out]; decide))
        go_wp2
        go_roundw
        case rel => exact ⟨k + 1, by omega, by go_num, by rw [HE.out]; exact HLk.out⟩
        case measure => simp [intOf]; omega
      · have e2 : (0 : Int) ≤ q := by omega
        obtain ⟨t, rfl⟩ : ∃ t : Nat, q = t := ⟨q.toNat, by omega⟩
        have htn : t < n := by omega
        have hti : (t : Int) < (n : Int) := by omega
        have HE : Hid (boL (succK A s0 (k + 1)) n = (boL (succK A s0 k) n).set t true) := succK_some (tgt_some (by rw [← HN.out]; exact h0) HQ.out.symm (by rw [← HN.out]; exact htn)) htn
        obtain ⟨d1, d4⟩ := HLk.out.own.cellB (by rw [boL_length]) t (by rw [boL_length]; exact htn)
        clear e1
        have HL3 := Lib.hid (HLk.out.set (by rw [boL_length]) (Nat.le_refl _) t)
        go_wp2
        go_roundw
        case rel => exact ⟨k + 1, by omega, by go_num, by rw [HE.out]; exact HL3.out⟩
        case measure => simp [intOf]; omega
    · have HL : Hid (LvW w n (w.heap.size + 1) n #[.int .i64 A.st, .slice ao n ca, .slice (some ⟨u1, v1, none⟩) n cb] wr (boL (succB A s0) n)) := by
        have h9 := HLk.out
        rw [show k = 9 from by omega] at h9
        exact h9
      have hnk : ¬ ((k : Int) < 9) := by omega
      obtain ⟨wv, hwv⟩ : ∃ q, q = wr := ⟨_, rfl⟩
      rw [← hwv] at HL p0 p1 p2 ⊢
      clear hwv HLk hk hkt
      go_wp2
      clear hnk
      have HSW0 : Hid (SwpI (rchR A) n (boL (succB A s0) n) (boL (succB A s0) n)) := ⟨boL_length _ _, fun s h => h, fun s h => LeastP.base h⟩
      clear p0 p1 p2
      go_loopw [7] (fun i wr => ∃ (r : Nat) (b : List Bool), r ≤ n ∧ i = .int .i64 r ∧ Hid (SwpI (rchR A) n (boL (succB A s0) n) b) ∧ Hid (Rnd (rchR A) n r b) ∧ Hid (LvW w n (w.heap.size + 1) n #[.int .i64 A.st, .slice ao n ca, .slice (some ⟨u1, v1, none⟩) n cb] wr b)) (fun i _ => n - (intOf i).toNat)
      case atStart => exact ⟨0, (boL (succB A s0) n), Nat.zero_le _, rfl, HSW0.out, .inr (Nat.zero_le _), HL.out⟩
      case round =>
        obtain ⟨r, b, hr, rfl, HI, HRd, HLr⟩ := hrel
        obtain ⟨⟨p0, p1, p2⟩, _⟩ := HLr.out.box.threeA
        by_cases hlt : r < n
        · have hri : (r : Int) < (n : Int) := by omega
          go_wp2
          clear p0 p1 p2
          go_loopw [8] (fun i wz => ∃ (s : Nat) (b' : List Bool), s ≤ n ∧ i = .int .i64 s ∧ Hid (SwpI (rchR A) n (boL (succB A s0) n) b') ∧ Hid (Swept (rchR A) n b b' s 0) ∧ Hid (LvW w n (w.heap.size + 1) n #[.int .i64 A.st, .slice ao n ca, .slice (some ⟨u1, v1, none⟩) n cb] wz b')) (fun i _ => n - (intOf i).toNat)
          case atStart => exact ⟨0, b, Nat.zero_le _, rfl, HI.out, Swept.start _ _ _, HLr.out⟩
          case round =>
            obtain ⟨s, b', hs, rfl, HI', HSw, HLz⟩ := hrel
            obtain ⟨⟨p0, p1, p2⟩, _⟩ := HLz.out.box.threeA
            by_cases hst : s < n
            · have hsi : (s : Int) < (n : Int) := by omega
              have hs0i : (0 : Int) ≤ (s : Int) := by omega
              obtain ⟨c1, o1, c2, o2, cc, ecc, hc1, hcell, hc2, hcs⟩ := next_cells HV.out HC s (by rw [← HN.out]; exact hst)
              injection ecc with ecc
              injection ecc with ecc1 ecc2
              subst ecc1 ecc2
              have HCS := Lib.hid hcs
              have HCL := Lib.hid hcell
              clear hcs hcell
              go_wp2
              clear p0 p1 p2
              go_loopw [9] (fun i wk => ∃ (k : Nat) (b'' : List Bool), k ≤ 9 ∧ i = .int .i64 k ∧ Hid (SwpI (rchR A) n (boL (succB A s0) n) b'') ∧ Hid (Swept (rchR A) n b b'' s k) ∧ Hid (LvW w n (w.heap.size + 1) n #[.int .i64 A.st, .slice ao n ca, .slice (some ⟨u1, v1, none⟩) n cb] wk b'')) (fun i _ => 9 - (intOf i).toNat)
              case atStart => exact ⟨0, b', Nat.zero_le _, rfl, HI'.out, HSw.out, HLz.out⟩
              case round =>
                obtain ⟨k, b'', hk, rfl, HI2, HSw2, HLk⟩ := hrel
                obtain ⟨⟨p0, p1, p2⟩, _⟩ := HLk.out.box.threeA
                by_cases hkt : k < 9
                · have hki : (k : Int) < 9 := by omega
                  have hk0i : (0 : Int) ≤ (k : Int) := by omega
                  obtain ⟨q, hq⟩ : ∃ q, q = nextA A.nx s k := ⟨_, rfl⟩
                  have f1 : wr.cell? ⟨u1, v1 + s, none⟩ = some (.slice (some ⟨c2, o2, none⟩) 9 cc) := (Below.cell HLk.out.since (p := ⟨u1, v1 + s, none⟩) hc1).trans HCL.out
                  have f2 : wr.cell? ⟨c2, o2 + k, none⟩ = some (.int .i64 q) := by rw [hq]; exact (Below.cell HLk.out.since (p := ⟨c2, o2 + k, none⟩) hc2).trans (HCS.out k hkt)
                  obtain ⟨_, _, _, hb5, hb6⟩ := nextA_in HV.out (s : Int) (k : Int) ⟨hs0i, by rw [← HN.out]; omega⟩ (by simp [inB]; omega)
                  rw [← hq] at hb5 hb6
                  rw [← HN.out] at hb6
                  have HQ := Lib.hid hq
                  clear hq
                  have hbl := HI2.out.len
                  obtain ⟨d2, d3⟩ := HLk.out.own.cellB hbl.symm s (by omega)
                  cases e3 : at0 b'' s with
                  | false =>
                    have HSw3 : Hid (Swept (rchR A) n b b'' s (k + 1)) := HSw2.out.skip (fun x y hR hx => by
                      rw [(rchR_inv hR).2, e3] at hx; cases hx)
                    rw [e3] at d2
                    clear e3
                    go_wp2
                    go_roundw
                    case rel => exact ⟨k + 1, b'', by omega, by go_num, HI2.out, HSw3.out, HLk.out⟩
                    case measure => simp [intOf]; omega
                  | true =>
                    have HE3 := Lib.hid e3
                    rw [e3] at d2
                    clear e3
                    by_cases e1 : q = -1
                    · subst e1
                      have HSw3 : Hid (Swept (rchR A) n b b'' s (k + 1)) := HSw2.out.skip (fun x y hR _ => by
                        rw [(show rchR A s k = none by unfold rchR; rw [tgt_none (by rw [← HQ.out]; decide)]; rfl)] at hR; cases hR)
                      go_wp2
                      go_roundw
                      case rel => exact ⟨k + 1, b'', by omega, by go_num, HI2.out, HSw3.out, HLk.out⟩
                      case measure => simp [intOf]; omega
                    · have e2 : (0 : Int) ≤ q := by omega
                      obtain ⟨t, rfl⟩ : ∃ t : Nat, q = t := ⟨q.toNat, by omega⟩
                      have htn : t < n := by omega
                      have hti : (t : Int) < (n : Int) := by omega
                      have HT : Hid (rchR A s k = some (s, t)) := rchR_of (tgt_some (by rw [← HN.out]; exact hst) HQ.out.symm (by rw [← HN.out]; exact htn))
                      obtain ⟨d1, d4⟩ := HLk.out.own.cellB hbl.symm t (by omega)
                      clear e1
                      have HI3 : Hid (SwpI (rchR A) n (boL (succB A s0) n) (b''.set t true)) := HI2.out.turn hst hkt HT.out HE3.out htn
                      have HSw3 : Hid (Swept (rchR A) n b (b''.set t true) s (k + 1)) := HSw2.out.turn hst hkt HT.out HE3.out (by omega)
                      have HL3 := Lib.hid (HLk.out.set hbl.symm (Nat.le_refl _) t)
                      go_wp2
                      go_roundw
                      case rel => exact ⟨k + 1, b''.set t true, by omega, by go_num, HI3.out, HSw3.out, HL3.out⟩
                      case measure => simp [intOf]; omega
                · have hk9 : k = 9 := by omega
                  subst hk9
                  have HSw3 : Hid (Swept (rchR A) n b b'' (s + 1) 0) := HSw2.out.row
                  go_wp2
                  go_roundw
                  case rel => exact ⟨s + 1, b'', by omega, by go_num, HI2.out, HSw3.out, HLk.out⟩
                  case measure => simp [intOf]; omega
            · have hsn : s = n := by omega
              have HRd2 : Hid (Rnd (rchR A) n (r + 1) b') := by
                have := HSw.out
                rw [hsn] at this
                exact this.round HRd.out
              go_wp2
              go_roundw
              case rel => exact ⟨r + 1, b', by omega, by go_num, HI'.out, HRd2.out, HLz.out⟩
              case measure => simp [intOf]; omega
        · have hrn : r = n := by omega
          have HE : Hid (b = boL f n) := by
            have h1 := HRd.out
            rw [hrn] at h1
            have hf := HF.out
            refine HI.out.done (f := f) (fun s => by rw [hf s, HN.out]) (h1.closed HI.out.len (fun s k x y h => by rw [HN.out]; exact (rchR_lt s k x y h).2))
          go_wp2
          go_ret
          have ho := HLr.out.own
          rw [HE.out] at ho
          exact ⟨_, rfl, by have := ho.mono (Nat.le_succ _); exact this, HLr.out.since⟩
end Go.Proofs.Ytmaagihfjldgeaa
