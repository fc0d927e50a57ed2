/- ParseWalk, the program's. -/
import Derived.Test.YtilkheclimammaaDoorQkA
namespace Go.Proofs.YtilkheclimammaaDoor
set_option maxRecDepth 100000
open Go.ChangeShapes Go.WideShapes Go.ChangeAt Go.RowKit
set_option linter.unusedVariables false
set_option linter.unusedSimpArgs false

set_option maxHeartbeats 4000000 in
set_option maxRecDepth 100000 in
theorem implQK_any (s : ByteArray) (p : List UInt8) (t : List (List UInt8)) (hpt : parts62 s = p :: t) (w : World) (hs : s.size ≤ 1048576) (htab : Tab w) (hml : MaxK w) :
    Calls Tryd.prog 11 #[.string s] w (WBOut w (pkW p t) (piB p t)) := by
  have hs0 : Since w (w.alloc (.cells #[.int .i64 0, .slice none 0 0] 29)) := (Since.refl w).alloc _
  have r0 : Hid (Blk (w.alloc (.cells #[.int .i64 0, .slice none 0 0] 29)) w.heap.size 29 #[.int .i64 0, .slice none 0 0]) := Blk.new rfl _ _
  have hps : p.length ≤ 1048576 := by have := parts_le s p (by rw [hpt]; exact List.mem_cons_self ..); omega
  have HTS : Hid (∀ k (hk : k < t.length), t[k].length ≤ 1048576) := fun k hk => by have := parts_le s t[k] (by rw [hpt]; exact List.mem_cons_of_mem _ (List.getElem_mem hk)); omega
  have htl : t.length ≤ 61 := by
    have h1 := Lib.splitB_length_le sp 0 (min 62 (s.size + 1) - 1) s
    have h2 := congrArg List.length hpt
    unfold parts62 at h2
    rw [List.length_map, List.length_cons] at h2; omega
  have HPS0 : Hid (∀ k (hk : k < t.length) W, Since w W → Calls Tryd.prog 28 #[.string (bS t[k])] W fun e w' => e = .returned (.tuple #[.agg #[.int .i64 (psO t[k]).id, .bool (psO t[k]).inv], .bool (okP t[k])]) ∧ Since W w') := fun k hk W hW => parseStep_any t[k] W (HTS.out k hk) (htab.since hW)
  have HPI : Hid (∀ W, Since w W → Calls Tryd.prog 27 #[.string (bS p)] W fun e w' => e = .returned (.tuple #[.int .i64 (pOut p).1, .bool (pOut p).2]) ∧ Since W w') := fun W hW => by
    have h := implPI_any (bS p) W (by rw [bS_size]; exact hps) (htab.since hW)
    rw [bS_list] at h
    exact h
  obtain ⟨T, hT⟩ : ∃ T, T = t.length := ⟨_, rfl⟩
  rw [← hT] at htl
  have HC := Lib.hid (fun W (hW : Since w W) => splitQ_at hpt T hT W hs (hml.since hW))
  have HT := Lib.hid hT
  obtain ⟨n0, hn0⟩ : ∃ n, n = (pOut p).1 := ⟨_, rfl⟩
  have HN0 := Lib.hid hn0
  obtain ⟨b, hb⟩ : ∃ b, (pOut p).2 = b := ⟨_, rfl⟩
  have HB := Lib.hid hb
  rw [← hn0, hb] at HPI
  clear hT hpt HTS htab hml hps hn0 hb
  go_enter Tryd.func11, Tryd.ntmps11
  go_wp2_with fail
  refine (HC.out _ hs0).mono ?_
  rintro en w1 ⟨g, cap, rfl, hcap, hs1, HG⟩
  have hs01 := hs0.trans hs1
  obtain ⟨g0, _⟩ := HG.out _ (Since.refl _)
  have h0 : (0 : Int) < (T : Int) + 1 := by omega
  go_wp2_with fail
  refine (HPI.out _ hs01).mono ?_
  rintro en w2 ⟨rfl, hs2⟩
  have hs02 := hs01.trans hs2
  have R2 := Lib.hid (r0.out.since (hs1.trans hs2))
  have HG2 : Hid (∀ W, Since w2 W → ∀ k (hk : k < t.length), W.cell? ⟨g, k + 1, none⟩ = some (.string (bS t[k]))) := fun W hW => (HG.out W (hs2.trans hW)).2
  obtain ⟨a0, a1, a2, a3⟩ := R2.out.two
  clear g0 HG hs01 hs0 hs1 hs2 r0
  cases b
  · have HP := Lib.hid (piB_p (t := t) HB.out)
    go_wp2_with fail
    refine bodyPost_ret (v := .tuple #[.agg #[.int .i64 0, .slice none 0 0], .bool false]) (by simp [results, Tryd.results11, go_sem, *]) rfl ?_
    refine wbQ_no HP.out ?_
    exact (hs02.setCell (by simp) _).setCell (by simp) _
  · go_wp2_with fail
    refine (isNode_any _ 5 _).mono ?_
    rintro en w3 ⟨rfl, rfl⟩
    rcases Bool.eq_false_or_eq_true (inB n0 0 4) with hin | hin
    · have hin5 : inB n0 0 (((5 : Nat) : Int) - 1) = true := hin
      have HIN : Hid (inB (pOut p).1 0 4 = true) := by unfold Hid; rw [← HN0.out]; exact hin
      rw [hin5]
      clear hin hin5
      by_cases hlt : 60 < T
      · have HP := Lib.hid (piB_long (p := p) (r := t) (by have := HT.out; omega))
        have h61 : (61 : Int) < (T : Int) + 1 := by omega
        go_wp2_with fail
        refine bodyPost_ret (v := .tuple #[.agg #[.int .i64 0, .slice none 0 0], .bool false]) (by simp [results, Tryd.results11, go_sem, *]) rfl ?_
        refine wbQ_no HP.out ?_
        exact (hs02.setCell (by simp) _).setCell (by simp) _
      · have h61 : ¬ (61 : Int) < (T : Int) + 1 := by omega
        have h1T : (1 : Int) ≤ (T : Int) + 1 := by omega
        have h1c : (1 : Int) ≤ (cap : Int) := by omega
        have h1d : 1 ≤ cap := by omega
        have hTc : T + 1 ≤ cap := hcap
        have hTci : (T : Int) + 1 ≤ (cap : Int) := by omega
        obtain ⟨A, hA⟩ : ∃ A, (if cap = 1 then (some ⟨g, 0, none⟩ : Option Addr) else some ⟨g, 1, none⟩) = A := ⟨_, rfl⟩
        have HAA := Lib.hid hA
        clear hcap
        obtain ⟨G, hG⟩ : ∃ G, G = w2.heap.size := ⟨_, rfl⟩
        have BG : Hid (Blk (w2.alloc (.cells #[.int .i64 n0, .slice none 0 0] 29)) G 29 #[.int .i64 n0, .slice none 0 0]) := Blk.new hG _ _
        have hwG : Hid (w.heap.size < G) := by unfold Hid; rw [hG]; exact R2.out.lt
        have HGW : Hid (w2.heap.size ≤ G) := by unfold Hid; omega
        have hsG : Since w2 (w2.alloc (.cells #[.int .i64 n0, .slice none 0 0] 29)) := (Since.refl w2).alloc _
        go_wp2_with fail
        rw [← hG]
        clear hA hG a0 a1 a2 a3
        go_loopw [39] (fun i wr => ∃ (j : Nat) (v : Value), j ≤ T ∧ i = .int .i64 j ∧ Hid (OwnSt (G + 1) wr v ((t.take j).map sOf)) ∧ Hid (Blk wr G 29 #[.int .i64 n0, v]) ∧ Since w2 wr ∧ Hid ((t.take j).all okP = true)) (fun i _ => T - (intOf i).toNat)
        case atStart => exact ⟨0, .slice none 0 0, Nat.zero_le _, rfl, World.ownsRow_nil _ _ _ _, BG.out, hsG, rfl⟩
        case round =>
          obtain ⟨j, v, hj, rfl, HO, HBG, hsw, HOK⟩ := hrel
          obtain ⟨a0, a1, a2, a3⟩ := (R2.out.since hsw).two
          by_cases hlt2 : j < T
          · have hjr : j < t.length := by have := HT.out; omega
            obtain rfl : A = some ⟨g, 1, none⟩ := by rw [← HAA.out]; exact if_neg (by omega)
            have hcell1 : wr.cell? ⟨g, j + 1, none⟩ = some (.string (bS t[j])) := HG2.out wr hsw j hjr
            have hcell2 : wr.cell? ⟨g, 1 + j, none⟩ = some (.string (bS t[j])) := by rw [Nat.add_comm]; exact hcell1
            have HPS : Hid (∀ W, Since w W → Calls Tryd.prog 28 #[.string (bS t[j])] W fun e w' => e = .returned (.tuple #[.agg #[.int .i64 (psO t[j]).id, .bool (psO t[j]).inv], .bool (okP t[j])]) ∧ Since W w') := HPS0.out j hjr
            have HBD : Hid (okP t[j] = false → piB p t = false) := fun h => piB_part j hjr h
            have HTK : Hid (okP t[j] = true → (t.take (j + 1)).map sOf = (t.take j).map sOf ++ [psO t[j]]) := fun h => by unfold psO; rw [if_pos h]; exact map_takeQ t j hjr
            have HOK2 : Hid (okP t[j] = true → (t.take (j + 1)).all okP = true) := fun h => all_takeQ t j hjr HOK.out h
            have HLN : Hid (((t.take j).map sOf).length ≤ 1048577) := by unfold Hid; rw [List.length_map, List.length_take]; omega
            generalize psO t[j] = Z at HPS HTK
            generalize okP t[j] = c at HPS HBD HTK HOK2
            generalize bS t[j] = qq at HPS hcell1 hcell2
            have HSw := Lib.hid (hs02.trans hsw)
            clear HAA HOK
            go_wp2_with fail
            refine (HPS.out _ HSw.out).mono ?_
            rintro en w3 ⟨rfl, hs3⟩
            have hX3 : Blk (w3.alloc (.cells #[.int .i64 Z.id, .bool Z.inv] 41)) w3.heap.size 41 #[.int .i64 Z.id, .bool Z.inv] := Blk.new rfl _ _
            have hs4 := hs3.alloc (.cells #[.int .i64 Z.id, .bool Z.inv] 41)
            have HO4 := Lib.hid (HO.out.since hs4)
            have HB4 := Lib.hid (HBG.out.since hs4)
            have HR4 := Lib.hid ((R2.out.since hsw).since hs4)
            have hsw4 := hsw.trans hs4
            clear hcell1 hcell2 HO HBG hs3 hs4 a0 a1 a2 a3 hsw
            rcases Bool.eq_false_or_eq_true c with rfl | rfl
            · obtain ⟨d0, d1, d2, d3⟩ := hX3.two
              obtain ⟨q0, q1, q2, q3⟩ := HB4.out.two
              have HOK6 := Lib.hid (HOK2.out rfl)
              have HTK6 := Lib.hid (HTK.out rfl)
              have hGz : G < (w3.alloc (.cells #[.int .i64 Z.id, .bool Z.inv] 41)).heap.size := HB4.out.lt
              clear hX3
              go_wp2_with (at_builtin; go_must (refine wpList_append_stB rfl (.tmp 52) (.tmp 54) rfl v ((t.take j).map sOf) (by first | rfl | simp [Act.eval]) HO4.out Z (by first | rfl | simp [Act.eval]) HLN.out (by omega) ?_); intro v3 w5 ho5 hg5; rw [← HTK6.out] at ho5; obtain ⟨n5, hn5⟩ : ∃ n, ((t.take (j + 1)).map sOf).length = n := ⟨_, rfl⟩; obtain ⟨o5, c5, hv5⟩ := ho5.len; rw [hn5] at hv5; subst hv5; clear hn5; have HO5 := Lib.hid ho5; clear ho5; have hs5 := (hsw4.alloc (.cells #[.int .i64 Z.id, .bool Z.inv] 41)).grown hg5 (fun k hk => by have := (HO4.out.lt k hk).1; have := HGW.out; omega); have hB5 := Lib.hid ((HB4.out.alloc (.cells #[.int .i64 Z.id, .bool Z.inv] 41)).grwQ hg5 (fun e => by have := (HO4.out.lt G e.symm).1; omega)); obtain ⟨z0, z1, z2, z3⟩ := hB5.out.two)
              have HB6 : Hid (Blk (w5.setCell ⟨G, 1, none⟩ (.slice o5 n5 c5)) G 29 #[.int .i64 n0, .slice o5 n5 c5]) := hB5.out.set 1 (.slice o5 n5 c5)
              have HO6 := Lib.hid (HO5.out.far (p := ⟨G, 1, none⟩) (by simp) (.slice o5 n5 c5))
              have hs6 := hs5.setCell (a := ⟨G, 1, none⟩) HGW.out (.slice o5 n5 c5)
              go_roundw
              case rel => exact ⟨j + 1, .slice o5 n5 c5, by omega, by go_num, HO6.out, HB6.out, hs6, HOK6.out⟩
              case measure => simp [intOf]; omega
            · have HBD2 := Lib.hid (HBD.out rfl)
              obtain ⟨a0, a1, a2, a3⟩ := HR4.out.two
              clear hX3
              go_wp2_with fail
              refine bodyPost_ret (v := .tuple #[.agg #[.int .i64 0, .slice none 0 0], .bool false]) (by simp [results, Tryd.results11, go_sem, *]) rfl ?_
              refine wbQ_no HBD2.out ?_
              exact ((hs02.trans hsw4).setCell (by simp) _).setCell (by simp) _
          · obtain rfl : j = T := by omega
            have HOKt : t.all okP = true := by have := HOK.out; rwa [List.take_of_length_le (by have := HT.out; omega)] at this
            have HP := Lib.hid (piB_all HB.out HIN.out (by have := HT.out; omega) HOKt)
            have HEb : Hid (OwnSt (G + 1) wr v (t.map sOf)) := by have := HO.out; rw [List.take_of_length_le (by have := HT.out; omega)] at this; exact this
            obtain ⟨so, sc, hv⟩ := HEb.out.len
            obtain ⟨m, hm⟩ : ∃ m, (t.map sOf).length = m := ⟨_, rfl⟩
            rw [hm] at hv
            subst hv
            clear hm HOKt HO HOK
            obtain ⟨q0, q1, q2, q3⟩ := HBG.out.two
            go_wp2_with fail
            refine bodyPost_ret (v := .tuple #[.agg #[.int .i64 n0, .slice so m sc], .bool true]) (by simp [results, Tryd.results11, go_sem, *]) rfl ?_
            have hwg := hwG.out
            refine wbQ_yes HP.out HN0.out (((HEb.out.far (by simp; omega) _).far (by simp; omega) _).mono (by omega)) ?_
            exact ((hs02.trans hsw).setCell (by simp) _).setCell (by simp) _
    · have hin5 : inB n0 0 (((5 : Nat) : Int) - 1) = false := hin
      have HP := Lib.hid (piB_n (p := p) (t := t) (by rw [← HN0.out]; exact hin))
      rw [hin5]
      go_wp2_with fail
      refine bodyPost_ret (v := .tuple #[.agg #[.int .i64 0, .slice none 0 0], .bool false]) (by simp [results, Tryd.results11, go_sem, *]) rfl ?_
      refine wbQ_no HP.out ?_
      exact (hs02.setCell (by simp) _).setCell (by simp) _
end Go.Proofs.YtilkheclimammaaDoor
