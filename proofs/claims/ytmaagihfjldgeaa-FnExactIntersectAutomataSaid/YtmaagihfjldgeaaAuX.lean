/- The live and the reached states, swept: the model's. -/
import Derived.Test.YtmaagihfjldgeaaA2
namespace Go.Proofs.Ytmaagihfjldgeaa
set_option maxRecDepth 100000
open Go.ChangeShapes Go.WideShapes Go.ChangeAt Go.RowKit
set_option linter.unusedVariables false
set_option linter.unusedSimpArgs false

/-- A row of truth values behind the box of an automaton. -/
structure LvW (w : World) (n g cap : Nat) (cs : Array Value) (wr : World) (b : List Bool) : Prop where
  own : OwnBo (w.heap.size + 1) wr (.slice (some ⟨g, 0, none⟩) n cap) b
  box : Blk wr w.heap.size 39 cs
  since : Since w wr
theorem LvW.set {w : World} {n g cap : Nat} {cs : Array Value} {wr : World} {b : List Bool} (h : LvW w n g cap cs wr b) (hn : n = b.length) (hg : w.heap.size + 1 ≤ g) (s : Nat) : LvW w n g cap cs (wr.setCell ⟨g, s, none⟩ (.bool true)) (b.set s true) :=
  ⟨h.own.setB hn s, h.box.far (by show w.heap.size ≠ g; omega) _, h.since.setCell (by show w.heap.size ≤ g; omega) _⟩
theorem lv_start {w y1 w1 : World} {cs : Array Value} {v1 : Value} {xs : List Bool} (ho : OwnBo (w.heap.size + 1) w1 v1 xs) (hg : y1.grownBy w1 (Value.slice (some ⟨w.heap.size + 1, 0, none⟩) 0 0).ownBlock) (hs : Since w y1) (hb : Blk y1 w.heap.size 39 cs) (h0 : 0 < xs.length) :
    ∃ g cap, v1 = .slice (some ⟨g, 0, none⟩) xs.length cap ∧ w.heap.size + 1 ≤ g ∧ LvW w xs.length g cap cs w1 xs := by
  obtain ⟨g, cap, e, h1, h2⟩ := ho.row h0
  subst e
  exact ⟨g, cap, rfl, h1, ho, (hg.block w.heap.size hb.lt (by simp [Value.ownBlock])).trans hb, hs.grown hg (fun k hk => by simp [Value.ownBlock] at hk; omega)⟩
theorem lv_made {w y1 w1 : World} {cs : Array Value} {n : Nat} (ho : w1.ownsRow (w.heap.size + 1) 4 1 (.slice (some ⟨w.heap.size + 1, 0, none⟩) n n) n (List.replicate n (.bool false))) (hg : y1.grownBy w1 none) (hs : Since w y1) (hb : Blk y1 w.heap.size 39 cs) (h0 : 0 < n) (hy : y1.heap.size = w.heap.size + 1) :
    LvW w n (w.heap.size + 1) n cs w1 (List.replicate n false) :=
  ⟨by unfold OwnBo; simpa [tcell] using ho, (hg.block w.heap.size hb.lt (by simp)).trans hb, hs.grown hg (fun k hk => by cases hk)⟩
set_option maxHeartbeats 4000000 in
set_option maxRecDepth 100000 in
theorem specLive_any (v : Value) (A : Aut) (f : Nat → Bool) (w : World) (h : AutAt w v A) (hv : ValidA A) (hf : ∀ s, f s = true ↔ LiveP A s) :
    Calls Try.prog 109 #[v] w (BoOut w (boL f A.ac.length)) := by
  obtain ⟨a, b, rfl, _, ha, hb⟩ := h
  have HA := Lib.hid ha
  obtain ⟨ao, ca, rfl⟩ := ha.len
  obtain ⟨bo, cb, rfl, HC⟩ := hb
  clear ha
  have HV := Lib.hid hv
  have HF := Lib.hid hf
  have hn12 := hv.1
  have hn0 : 0 < A.ac.length := by have := hv.2.2.1; omega
  have hnm : A.nx.length = A.ac.length := hv.2.1
  rw [hnm]
  clear hnm hv hf
  obtain ⟨n, hn⟩ : ∃ n, n = A.ac.length := ⟨_, rfl⟩
  rw [← hn] at hn12 hn0 HA ⊢
  have HN := Lib.hid hn
  clear hn
  obtain ⟨y, hy⟩ : ∃ y, y = w.alloc (.cells #[.int .i64 A.st, .slice ao n ca, .slice bo n cb] 39) := ⟨_, rfl⟩
  have hs0 : Since w y := by rw [hy]; exact (Since.refl w).alloc _
  have hz : y.heap.size = w.heap.size + 1 := by rw [hy]; simp
  have B0 : Hid (Blk y w.heap.size 39 #[.int .i64 A.st, .slice ao n ca, .slice bo n cb]) := by rw [hy]; exact Blk.new rfl _ _
  have hlit := Lib.hid (bol_lit y y (Since.refl y) y.heap.size rfl)
  have hal : Since y (y.alloc (.cells #[] 4)) := (Since.refl y).alloc _
  have B1 : Hid (Blk (y.alloc (.cells #[] 4)) w.heap.size 39 #[.int .i64 A.st, .slice ao n ca, .slice bo n cb]) := B0.out.since hal
  have HA1 := Lib.hid (HA.out.since (hs0.trans hal))
  have zal : (y.alloc (.cells #[] 4)).heap.size = w.heap.size + 2 := by simp; omega
  obtain ⟨⟨p0, p1, p2⟩, _⟩ := B1.out.threeA
  obtain ⟨y1, hy1⟩ : ∃ y1, y1 = y.alloc (.cells #[] 4) := ⟨_, rfl⟩
  have HS1 : Hid (Since w (y.alloc (.cells #[] 4))) := hs0.trans hal
  have hyb : w.heap.size + 1 = y.heap.size := hz.symm
  rw [hy] at p0 p1 p2 hlit B1 HA1 zal HS1
  have e1 : (w.alloc (.cells #[.int .i64 A.st, .slice ao n ca, .slice bo n cb] 39)).heap.size = w.heap.size + 1 := by simp
  rw [e1] at hlit
  have hn9 : A.ac.length ≤ 1000 := by rw [← HN.out]; exact hn12
  clear hy1 hal hy hyb e1
  go_enter Try.func109, Try.ntmps109
  go_wp2_with (at_builtin; go_must (refine wpList_append_bools rfl (.tmp 7) (.tmp 9) rfl (w.heap.size + 1) (.slice (some ⟨w.heap.size + 1, 0, none⟩) 0 0) [] rfl hlit.out ao n ca rfl A.ac HA1.out (by simp; omega) (by omega) ?_); intro v1 w1 ho1 hg1 hb1; rw [List.nil_append] at ho1; have hL1 := lv_start ho1 hg1 HS1.out B1.out (by rw [← HN.out]; exact hn0); clear ho1 hg1 hb1; obtain ⟨g, cap, e1, hg, hL⟩ := hL1; rw [← HN.out] at e1 hL; subst e1; have HL := Lib.hid hL; clear hL p0 p1 p2)
  go_loopw [4] (fun i wr => ∃ (r : Nat) (b : List Bool), r ≤ n ∧ i = .int .i64 r ∧ Hid (SwpI (liveR A) n A.ac b) ∧ Hid (Rnd (liveR A) n r b) ∧ Hid (LvW w n g cap #[.int .i64 A.st, .slice ao n ca, .slice bo n cb] wr b)) (fun i _ => n - (intOf i).toNat)
  case atStart => exact ⟨0, A.ac, Nat.zero_le _, rfl, ⟨HN.out.symm, fun s h => h, fun s h => LeastP.base h⟩, .inr (Nat.zero_le _), HL.out⟩
  case round =>
    obtain ⟨r, b, hr, rfl, HI, HRd, HLr⟩ := hrel
    obtain ⟨⟨p0, p1, p2⟩, _⟩ := HLr.out.box.threeA
    by_cases hlt : r < n
    · have hri : (r : Int) < (n : Int) := by omega
      go_wp2
      clear p0 p1 p2
      go_loopw [5] (fun i wz => ∃ (s : Nat) (b' : List Bool), s ≤ n ∧ i = .int .i64 s ∧ Hid (SwpI (liveR A) n A.ac b') ∧ Hid (Swept (liveR A) n b b' s 0) ∧ Hid (LvW w n g cap #[.int .i64 A.st, .slice ao n ca, .slice bo n cb] wz b')) (fun i _ => n - (intOf i).toNat)
      case atStart => exact ⟨0, b, Nat.zero_le _, rfl, HI.out, Swept.start _ _ _, HLr.out⟩
      case round =>
        obtain ⟨s, b', hs, rfl, HI', HSw, HLz⟩ := hrel
        obtain ⟨⟨p0, p1, p2⟩, _⟩ := HLz.out.box.threeA
        by_cases hst : s < n
        · have hsi : (s : Int) < (n : Int) := by omega
          have hs0i : (0 : Int) ≤ (s : Int) := by omega
          obtain ⟨c1, o1, c2, o2, cc, rfl, hc1, hcell, hc2, hcs⟩ := next_cells HV.out HC s (by rw [← HN.out]; exact hst)
          have HCS := Lib.hid hcs
          have HCL := Lib.hid hcell
          clear hcs hcell
          go_wp2
          clear p0 p1 p2
          go_loopw [6] (fun i wk => ∃ (k : Nat) (b'' : List Bool), k ≤ 9 ∧ i = .int .i64 k ∧ Hid (SwpI (liveR A) n A.ac b'') ∧ Hid (Swept (liveR A) n b b'' s k) ∧ Hid (LvW w n g cap #[.int .i64 A.st, .slice ao n ca, .slice (some ⟨c1, o1, none⟩) n cb] wk b'')) (fun i _ => 9 - (intOf i).toNat)
          case atStart => exact ⟨0, b', Nat.zero_le _, rfl, HI'.out, HSw.out, HLz.out⟩
          case round =>
            obtain ⟨k, b'', hk, rfl, HI2, HSw2, HLk⟩ := hrel
            obtain ⟨⟨p0, p1, p2⟩, _⟩ := HLk.out.box.threeA
            by_cases hkt : k < 9
            · have hki : (k : Int) < 9 := by omega
              have hk0i : (0 : Int) ≤ (k : Int) := by omega
              obtain ⟨q, hq⟩ : ∃ q, q = nextA A.nx s k := ⟨_, rfl⟩
              have f1 : wr.cell? ⟨c1, o1 + s, none⟩ = some (.slice (some ⟨c2, o2, none⟩) 9 cc) := (Below.cell HLk.out.since (p := ⟨c1, o1 + s, none⟩) hc1).trans HCL.out
              have f2 : wr.cell? ⟨c2, o2 + k, none⟩ = some (.int .i64 q) := by rw [hq]; exact (Below.cell HLk.out.since (p := ⟨c2, o2 + k, none⟩) hc2).trans (HCS.out k hkt)
              obtain ⟨_, _, _, hb5, hb6⟩ := nextA_in HV.out (s : Int) (k : Int) ⟨hs0i, by rw [← HN.out]; omega⟩ (by simp [inB]; omega)
              rw [← hq] at hb5 hb6
              rw [← HN.out] at hb6
              have HQ := Lib.hid hq
              clear hq
              have hbl := HI2.out.len
              by_cases e1 : q = -1
              · subst e1
                have HSw3 : Hid (Swept (liveR A) n b b'' s (k + 1)) := HSw2.out.skip (fun x y hR _ => by
                  rw [(show liveR A s k = none by unfold liveR; rw [tgt_none (by rw [← HQ.out]; decide)]; rfl)] at hR; cases hR)
                go_wp2
                go_roundw
                case rel => exact ⟨k + 1, b'', by omega, by go_num, HI2.out, HSw3.out, HLk.out⟩
                case measure => simp [intOf]; omega
              · have e2 : (0 : Int) ≤ q := by omega
                obtain ⟨t, rfl⟩ : ∃ t : Nat, q = t := ⟨q.toNat, by omega⟩
                have htn : t < n := by omega
                have hti : (t : Int) < (n : Int) := by omega
                have HT : Hid (liveR A s k = some (t, s)) := liveR_of (tgt_some (by rw [← HN.out]; exact hst) HQ.out.symm (by rw [← HN.out]; exact htn))
                obtain ⟨d1, _⟩ := HLk.out.own.cellB hbl.symm t (by omega)
                obtain ⟨d2, d3⟩ := HLk.out.own.cellB hbl.symm s (by omega)
                clear e1
                cases e3 : at0 b'' t with
                | true =>
                  have HI3 : Hid (SwpI (liveR A) n A.ac (b''.set s true)) := HI2.out.turn hst hkt HT.out e3 hst
                  have HSw3 : Hid (Swept (liveR A) n b (b''.set s true) s (k + 1)) := HSw2.out.turn hst hkt HT.out e3 (by omega)
                  have HL3 := Lib.hid (HLk.out.set hbl.symm hg s)
                  rw [e3] at d1
                  clear e3
                  go_wp2
                  go_roundw
                  case rel => exact ⟨k + 1, b''.set s true, by omega, by go_num, HI3.out, HSw3.out, HL3.out⟩
                  case measure => simp [intOf]; omega
                | false =>
                  have HSw3 : Hid (Swept (liveR A) n b b'' s (k + 1)) := HSw2.out.skip (fun x y hR hx => by
                    rw [HT.out] at hR
                    injection hR with hR
                    injection hR with h1 h2
                    rw [← h1, e3] at hx; cases hx)
                  rw [e3] at d1
                  clear e3
                  go_wp2
                  go_roundw
                  case rel => exact ⟨k + 1, b'', by omega, by go_num, HI2.out, HSw3.out, HLk.out⟩
                  case measure => simp [intOf]; omega
            · have hk9 : k = 9 := by omega
              subst hk9
              have HSw3 : Hid (Swept (liveR A) n b b'' (s + 1) 0) := HSw2.out.row
              go_wp2
              go_roundw
              case rel => exact ⟨s + 1, b'', by omega, by go_num, HI2.out, HSw3.out, HLk.out⟩
              case measure => simp [intOf]; omega
        · have hsn : s = n := by omega
          have HRd2 : Hid (Rnd (liveR A) n (r + 1) b') := by
            have := HSw.out
            rw [hsn] at this
            exact this.round HRd.out
          go_wp2
          go_roundw
          case rel => exact ⟨r + 1, b', by omega, by go_num, HI'.out, HRd2.out, HLz.out⟩
          case measure => simp [intOf]; omega
    · have hrn : r = n := by omega
      have HE : Hid (b = boL f n) := by
        have h1 := HRd.out
        rw [hrn] at h1
        have hf := HF.out
        refine HI.out.done (f := f) (fun s => by rw [hf s, HN.out]; exact Iff.rfl) (h1.closed HI.out.len (fun s k x y h => by rw [HN.out]; exact (liveR_lt s k x y h).2))
      go_wp2
      go_ret
      have ho := HLr.out.own
      rw [HE.out] at ho
      exact ⟨_, rfl, by have := ho.mono (Nat.le_succ _); exact this, HLr.out.since⟩
set_option maxHeartbeats 4000000 in
set_option maxRecDepth 100000 in
theorem specReach_any (v : Value) (A : Aut) (f : Nat → Bool) (w : World) (h : AutAt w v A) (hv : ValidA A) (hf : ∀ s, f s = true ↔ RchP A s) :
    Calls Try.prog 171 #[v] w (BoOut w (boL f A.ac.length)) := by
  obtain ⟨a, b, rfl, _, ha, hb⟩ := h
  obtain ⟨ao, ca, rfl⟩ := ha.len
  obtain ⟨bo, cb, rfl, HC⟩ := hb
  clear ha
  have HV := Lib.hid hv
  have HF := Lib.hid hf
  have hn12 := hv.1
  have hst := hv.2.2.1
  have hn0 : 0 < A.ac.length := by omega
  have hnm : A.nx.length = A.ac.length := hv.2.1
  rw [hnm]
  clear hnm hv hf
  obtain ⟨n, hn⟩ : ∃ n, n = A.ac.length := ⟨_, rfl⟩
  rw [← hn] at hn12 hn0 hst ⊢
  have HN := Lib.hid hn
  clear hn
  obtain ⟨i0, hi, hz0, hz1, hz2⟩ := info_parts info_boolB
  have HZ2 := Lib.hid hz2
  clear hz2
  obtain ⟨y, hy⟩ : ∃ y, y = w.alloc (.cells #[.int .i64 A.st, .slice ao n ca, .slice bo n cb] 39) := ⟨_, rfl⟩
  have hs0 : Since w y := by rw [hy]; exact (Since.refl w).alloc _
  have hz : y.heap.size = w.heap.size + 1 := by rw [hy]; simp
  have B0 : Hid (Blk y w.heap.size 39 #[.int .i64 A.st, .slice ao n ca, .slice bo n cb]) := by rw [hy]; exact Blk.new rfl _ _
  obtain ⟨⟨p0, p1, p2⟩, _⟩ := B0.out.threeA
  have HB0 := Lib.hid B0.out
  have HS0 := Lib.hid hs0
  have e1 : (w.alloc (.cells #[.int .i64 A.st, .slice ao n ca, .slice bo n cb] 39)).heap.size = w.heap.size + 1 := by simp
  rw [hy] at p0 p1 p2 HB0 HS0
  obtain ⟨t0, ht0⟩ : ∃ t0 : Nat, A.st = t0 := ⟨A.st.toNat, by omega⟩
  have HT0 := Lib.hid ht0
  have ht0n : t0 < n := by omega
  have hti0 : (t0 : Int) < (n : Int) := by omega
  have hti1 : (0 : Int) ≤ (t0 : Int) := by omega
  clear hy ht0 B0 hs0 hz
  go_enter Try.func171, Try.ntmps171
  go_upto_region 2 with (at_make; go_must (refine wpList_make_full _ rfl _ _ 36 rfl (w.heap.size + 1) 4 i0 (.bool false) 1 Try.underlying36 hi hz0 hz1 .i64 .i64 _ _ n rfl rfl rfl rfl (by rw [HZ2.out]; omega) (by unfold maxLen; omega) (by rw [e1]; exact Nat.le_refl _) ?_); intro w1 hown hgrow)
  rw [made_bools] at hown
  try rw [e1] at hown
  have hL := lv_made hown hgrow HS0.out HB0.out hn0 e1
  clear hown hgrow p0 p1 p2
  obtain ⟨⟨p0, p1, p2⟩, _⟩ := hL.box.threeA
  obtain ⟨d0, d9⟩ := hL.own.cellB (by simp) t0 (by simpa using ht0n)
  have HL0 := Lib.hid (hL.set (by simp) (Nat.le_refl _) t0)
  clear hL
  rw [HT0.out] at p0
  go_wp2
  have HSW0 : Hid (SwpI (rchR A) n (startL A) (startL A)) := ⟨by rw [startL_length]; exact HN.out.symm, fun s h => h, fun s h => LeastP.base h⟩
  have HL : Hid (LvW w n (w.heap.size + 1) n #[.int .i64 A.st, .slice ao n ca, .slice bo n cb] (w1.setCell ⟨w.heap.size + 1, t0, none⟩ (.bool true)) (startL A)) := by
    have h1 := HL0.out
    rw [show (List.replicate n false).set t0 true = startL A by unfold startL; rw [HT0.out, HN.out]; rfl] at h1
    exact h1
  go_loopw [4] (fun i wr => ∃ (r : Nat) (b : List Bool), r ≤ n ∧ i = .int .i64 r ∧ Hid (SwpI (rchR A) n (startL A) b) ∧ Hid (Rnd (rchR A) n r b) ∧ Hid (LvW w n (w.heap.size + 1) n #[.int .i64 A.st, .slice ao n ca, .slice bo n cb] wr b)) (fun i _ => n - (intOf i).toNat)
  case atStart => exact ⟨0, (startL A), Nat.zero_le _, rfl, HSW0.out, .inr (Nat.zero_le _), HL.out⟩
  case round =>
    obtain ⟨r, b, hr, rfl, HI, HRd, HLr⟩ := hrel
    obtain ⟨⟨p0, p1, p2⟩, _⟩ := HLr.out.box.threeA
    by_cases hlt : r < n
    · have hri : (r : Int) < (n : Int) := by omega
      go_wp2
      clear p0 p1 p2
      go_loopw [5] (fun i wz => ∃ (s : Nat) (b' : List Bool), s ≤ n ∧ i = .int .i64 s ∧ Hid (SwpI (rchR A) n (startL A) b') ∧ Hid (Swept (rchR A) n b b' s 0) ∧ Hid (LvW w n (w.heap.size + 1) n #[.int .i64 A.st, .slice ao n ca, .slice bo n cb] wz b')) (fun i _ => n - (intOf i).toNat)
      case atStart => exact ⟨0, b, Nat.zero_le _, rfl, HI.out, Swept.start _ _ _, HLr.out⟩
      case round =>
        obtain ⟨s, b', hs, rfl, HI', HSw, HLz⟩ := hrel
        obtain ⟨⟨p0, p1, p2⟩, _⟩ := HLz.out.box.threeA
        by_cases hst : s < n
        · have hsi : (s : Int) < (n : Int) := by omega
          have hs0i : (0 : Int) ≤ (s : Int) := by omega
          obtain ⟨c1, o1, c2, o2, cc, rfl, hc1, hcell, hc2, hcs⟩ := next_cells HV.out HC s (by rw [← HN.out]; exact hst)
          have HCS := Lib.hid hcs
          have HCL := Lib.hid hcell
          clear hcs hcell
          go_wp2
          clear p0 p1 p2
          go_loopw [6] (fun i wk => ∃ (k : Nat) (b'' : List Bool), k ≤ 9 ∧ i = .int .i64 k ∧ Hid (SwpI (rchR A) n (startL A) b'') ∧ Hid (Swept (rchR A) n b b'' s k) ∧ Hid (LvW w n (w.heap.size + 1) n #[.int .i64 A.st, .slice ao n ca, .slice (some ⟨c1, o1, none⟩) n cb] wk b'')) (fun i _ => 9 - (intOf i).toNat)
          case atStart => exact ⟨0, b', Nat.zero_le _, rfl, HI'.out, HSw.out, HLz.out⟩
          case round =>
            obtain ⟨k, b'', hk, rfl, HI2, HSw2, HLk⟩ := hrel
            obtain ⟨⟨p0, p1, p2⟩, _⟩ := HLk.out.box.threeA
            by_cases hkt : k < 9
            · have hki : (k : Int) < 9 := by omega
              have hk0i : (0 : Int) ≤ (k : Int) := by omega
              obtain ⟨q, hq⟩ : ∃ q, q = nextA A.nx s k := ⟨_, rfl⟩
              have f1 : wr.cell? ⟨c1, o1 + s, none⟩ = some (.slice (some ⟨c2, o2, none⟩) 9 cc) := (Below.cell HLk.out.since (p := ⟨c1, o1 + s, none⟩) hc1).trans HCL.out
              have f2 : wr.cell? ⟨c2, o2 + k, none⟩ = some (.int .i64 q) := by rw [hq]; exact (Below.cell HLk.out.since (p := ⟨c2, o2 + k, none⟩) hc2).trans (HCS.out k hkt)
              obtain ⟨_, _, _, hb5, hb6⟩ := nextA_in HV.out (s : Int) (k : Int) ⟨hs0i, by rw [← HN.out]; omega⟩ (by simp [inB]; omega)
              rw [← hq] at hb5 hb6
              rw [← HN.out] at hb6
              have HQ := Lib.hid hq
              clear hq
              have hbl := HI2.out.len
              obtain ⟨d2, d3⟩ := HLk.out.own.cellB hbl.symm s (by omega)
              cases e3 : at0 b'' s with
              | false =>
                have HSw3 : Hid (Swept (rchR A) n b b'' s (k + 1)) := HSw2.out.skip (fun x y hR hx => by
                  rw [(rchR_inv hR).2, e3] at hx; cases hx)
                rw [e3] at d2
                clear e3
                go_wp2
                go_roundw
                case rel => exact ⟨k + 1, b'', by omega, by go_num, HI2.out, HSw3.out, HLk.out⟩
                case measure => simp [intOf]; omega
              | true =>
                have HE3 := Lib.hid e3
                rw [e3] at d2
                clear e3
                by_cases e1 : q = -1
                · subst e1
                  have HSw3 : Hid (Swept (rchR A) n b b'' s (k + 1)) := HSw2.out.skip (fun x y hR _ => by
                    rw [(show rchR A s k = none by unfold rchR; rw [tgt_none (by rw [← HQ.out]; decide)]; rfl)] at hR; cases hR)
                  go_wp2
                  go_roundw
                  case rel => exact ⟨k + 1, b'', by omega, by go_num, HI2.out, HSw3.out, HLk.out⟩
                  case measure => simp [intOf]; omega
                · have e2 : (0 : Int) ≤ q := by omega
                  obtain ⟨t, rfl⟩ : ∃ t : Nat, q = t := ⟨q.toNat, by omega⟩
                  have htn : t < n := by omega
                  have hti : (t : Int) < (n : Int) := by omega
                  have HT : Hid (rchR A s k = some (s, t)) := rchR_of (tgt_some (by rw [← HN.out]; exact hst) HQ.out.symm (by rw [← HN.out]; exact htn))
                  obtain ⟨d1, d4⟩ := HLk.out.own.cellB hbl.symm t (by omega)
                  clear e1
                  have HI3 : Hid (SwpI (rchR A) n (startL A) (b''.set t true)) := HI2.out.turn hst hkt HT.out HE3.out htn
                  have HSw3 : Hid (Swept (rchR A) n b (b''.set t true) s (k + 1)) := HSw2.out.turn hst hkt HT.out HE3.out (by omega)
                  have HL3 := Lib.hid (HLk.out.set hbl.symm (Nat.le_refl _) t)
                  go_wp2
                  go_roundw
                  case rel => exact ⟨k + 1, b''.set t true, by omega, by go_num, HI3.out, HSw3.out, HL3.out⟩
                  case measure => simp [intOf]; omega
            · have hk9 : k = 9 := by omega
              subst hk9
              have HSw3 : Hid (Swept (rchR A) n b b'' (s + 1) 0) := HSw2.out.row
              go_wp2
              go_roundw
              case rel => exact ⟨s + 1, b'', by omega, by go_num, HI2.out, HSw3.out, HLk.out⟩
              case measure => simp [intOf]; omega
        · have hsn : s = n := by omega
          have HRd2 : Hid (Rnd (rchR A) n (r + 1) b') := by
            have := HSw.out
            rw [hsn] at this
            exact this.round HRd.out
          go_wp2
          go_roundw
          case rel => exact ⟨r + 1, b', by omega, by go_num, HI'.out, HRd2.out, HLz.out⟩
          case measure => simp [intOf]; omega
    · have hrn : r = n := by omega
      have HE : Hid (b = boL f n) := by
        have h1 := HRd.out
        rw [hrn] at h1
        have hf := HF.out
        refine HI.out.done (f := f) (fun s => by rw [hf s, HN.out]; exact Iff.rfl) (h1.closed HI.out.len (fun s k x y h => by rw [HN.out]; exact (rchR_lt s k x y h).2))
      go_wp2
      go_ret
      have ho := HLr.out.own
      rw [HE.out] at ho
      exact ⟨_, rfl, by have := ho.mono (Nat.le_succ _); exact this, HLr.out.since⟩
end Go.Proofs.Ytmaagihfjldgeaa
