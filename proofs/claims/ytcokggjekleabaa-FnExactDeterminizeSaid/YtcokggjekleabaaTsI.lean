/- l11Subsets, the model's. -/
import Derived.Test.YtcokggjekleabaaTsS
import Derived.Test.YtcokggjekleabaaTsM
import Derived.Test.YtcokggjekleabaaDtZ
namespace Go.Proofs.Ytcokggjekleabaa
set_option maxRecDepth 100000
open Go.ChangeShapes Go.WideShapes Go.ChangeAt Go.RowKit Go.Maps
set_option linter.unusedVariables false
set_option linter.unusedSimpArgs false

set_option maxHeartbeats 16000000 in
set_option maxRecDepth 100000 in
theorem specSub_any (v : Value) (p : Psn) (most : Nat) (w : World) (h : PsAt w v p) (hv : posB p = true) (hm1 : 1 ≤ most) (hm2 : most ≤ 1000) :
    Calls Try.prog 74 #[v, .int .i64 most] w (ABOut w (autR (stepZ p) (accZ p) (numN (stepZ p) most 1)) (numN (stepZ p) most 1).isSome) := by
  have hl := (posB_parts hv).1
  have HAF : Hid (∀ (s k : Nat) W, Since w W → s < 2097152 → Calls Try.prog 113 #[v, .int .i64 (s : Int), .int .i64 (k : Int)] W fun e w' => e = .returned (.int .i64 (aft p s k : Int)) ∧ Since W w') := fun s k W hW hs => specAF_any v p s k W (h.since hW) hv (by omega)
  have HAC : Hid (∀ (s : Nat) W, Since w W → s < 2097152 → Calls Try.prog 115 #[v, .int .i64 (s : Int)] W fun e w' => e = .returned (.bool (accN p s)) ∧ Since W w') := fun s W hW hs => specAC_any v p s W (h.since hW) hv (by omega)
  have HLT : Hid (∀ s k, aft p s k < 2097152) := fun s k => Nat.lt_of_lt_of_le (aft_lt p s k) (Nat.le_trans (Nat.pow_le_pow_right (by decide : 0 < 2) (show p.ls.length + 1 ≤ 21 by omega)) (by decide))
  have HQ : Hid (∀ s k x, k < 9 → InZ s → stepZ p s k = some x → InZ x) := fun s k x _ _ hx => stepZ_in hl hx
  have HST : Hid (∀ s k : Nat, stepZ p (s : Int) k = if aft p s k = 0 then none else some (aft p s k : Int)) := fun s k => by unfold stepZ; rw [Int.toNat_natCast]
  have HIQ : Hid (∀ s : Int, InZ s → ∃ t : Nat, s = t ∧ t < 2097152) := fun s hs => ⟨s.toNat, by unfold InZ at hs; omega, by unfold InZ at hs; omega⟩
  obtain ⟨R, hR⟩ : ∃ R, R = numN (stepZ p) most 1 := ⟨_, rfl⟩
  rw [← hR]
  have HR0 : Hid (runN (stepZ p) most (most + 1 - 0) 0 [1] = R) := by rw [hR]; rfl
  obtain ⟨a, b, rfl, ha, hb, hi1, hi2⟩ := h
  obtain ⟨ao, ac, rfl, _⟩ := ha.row
  obtain ⟨bo, bc, rfl, _⟩ := hb.row
  clear ha hb hv hl hR
  obtain ⟨PC, hPC⟩ : ∃ PC : Array Value, PC = #[.slice ao p.ls.length ac, .int .i64 p.fi, .int .i64 p.la, .slice bo p.fo.length bc, .bool p.nu] := ⟨_, rfl⟩
  obtain ⟨y, hy⟩ : ∃ y, y = (w.alloc (.cells #[.slice ao p.ls.length ac, .int .i64 p.fi, .int .i64 p.la, .slice bo p.fo.length bc, .bool p.nu] 41)).alloc (.cells #[.int .i64 0, .slice none 0 0, .slice none 0 0] 27) := ⟨_, rfl⟩
  have hs0 : Since w y := by rw [hy]; exact ((Since.refl w).alloc _).alloc _
  have hz : y.heap.size = w.heap.size + 2 := by rw [hy]; simp
  have B0 : Hid (Blk y w.heap.size 41 PC) := by rw [hy, hPC]; exact (Blk.new rfl _ _).alloc _
  have B1 : Hid (Blk y (w.heap.size + 1) 27 #[.int .i64 0, .slice none 0 0, .slice none 0 0]) := by rw [hy]; exact Blk.new (by simp) _ _
  obtain ⟨y3, hy3⟩ : ∃ y3, y3 = y.alloc (.cells #[.int .i64 0, .slice none 0 0, .slice none 0 0] 27) := ⟨_, rfl⟩
  have k1 : Since y y3 := by rw [hy3]; exact (Since.refl _).alloc _
  have z1 : y3.heap.size = w.heap.size + 3 := by rw [hy3]; simp [hz]
  obtain ⟨y4, hy4⟩ : ∃ y4, y4 = y3.alloc (.cells #[.int .i64 1] 3) := ⟨_, rfl⟩
  have k2 : Since y3 y4 := by rw [hy4]; exact (Since.refl _).alloc _
  have HNO : Hid (NpO w PC y4 nilS (.slice (some ⟨w.heap.size + 3, 0, none⟩) 1 1) nilS nilS [] [1] (([1] : List Int).take 0 |>.map (accZ p)) ((([1] : List Int).take 0).map (rowOfK (stepZ p) (fun x => x) [1]))) := by
    have o1 := ownT_lit 3 (w.heap.size + 3) y3 (by omega) 1 (by unfold InI; omega)
    rw [z1, ← hy4] at o1
    have hb3 : Blk y3 (w.heap.size + 2) 27 #[.int .i64 0, nilS, nilS] := by rw [hy3]; exact Blk.new hz.symm _ _
    exact ⟨⟨fun x hx => by simp at hx, World.ownsRow_nil _ _ _ _⟩, o1, .inl rfl, OwnBo.nil _ _, RowsO.nil _ _ _, hb3.since k2, (B0.out.since k1).since k2, (B1.out.since k1).since k2, (hs0.trans k1).trans k2⟩
  have HY := Lib.hid hy
  have HY3 := Lib.hid hy3
  have HY4 := Lib.hid hy4
  have HZ := Lib.hid hz
  have HZ1 := Lib.hid z1
  have HPC := Lib.hid hPC
  clear hy hy3 hy4 hz z1 hPC k1 k2 B0 B1
  go_enter Try.func74, Try.ntmps74
  go_upto_region 4 with fail
  rw [← HY.out, ← HY3.out, ← HY4.out]
  try rw [HZ1.out]
  try rw [HZ.out]
  clear HY HY3 HY4
  go_loopw [7, 8] (fun q i wr => ∃ (i0 : Nat) (rs : List Int) (rv bv nv : Value), i = .int .i64 i0 ∧ rv = q ∧ i0 ≤ rs.length ∧ 0 < rs.length ∧ Hid (rs.length ≤ most) ∧ Hid (FsI InZ rs) ∧ Hid (∀ i (h : i < rs.length), i < i0 → ∀ k x, k < 9 → stepZ p rs[i] k = some x → x ∈ rs) ∧ Hid (runN (stepZ p) most (most + 1 - i0) i0 rs = R) ∧ Hid (NpO w PC wr nilS rv bv nv [] rs ((rs.take i0).map (accZ p)) ((rs.take i0).map (rowOfK (stepZ p) (fun x => x) rs)))) (fun _ i _ => most + 1 - (intOf i).toNat)
  case atStart => exact ⟨0, [1], _, _, _, rfl, rfl, by simp, by simp, (by unfold Hid; simpa using hm1), ⟨by simp, fun x hx => by simp at hx; subst hx; unfold InZ; omega⟩, (fun i h hi => by omega), HR0.out, HNO.out⟩
  case round =>
    clear HNO HR0
    obtain ⟨i0, rs, rv, bv, nv, rfl, rfl, hp, hr0, HRL, HFs, HCL, HRp, HO⟩ := hrel
    have hrl := HRL.out
    obtain ⟨g9, rc, rfl, hg9⟩ := own_block HO.out.sr.2 hr0
    by_cases hlt : i0 < rs.length
    · have hpi : (i0 : Int) < (rs.length : Int) := by omega
      have hp0 : (0 : Int) ≤ (i0 : Int) := by omega
      obtain ⟨s, hs0e, hs9⟩ := HIQ.out rs[i0] (HFs.out.2 _ (List.getElem_mem hlt))
      have hsZ : InZ (s : Int) := by unfold InZ; omega
      obtain ⟨GS, hGS⟩ : ∃ GS, GS = rowK (stepZ p) (fun x => x) (s : Int) 9 rs := ⟨_, rfl⟩
      have HRi : Hid ((if GS.length ≤ most then some GS else none).bind (runN (stepZ p) most (most - i0) (i0 + 1)) = R) := by
        have h1 := HRp.out
        rw [show most + 1 - i0 = (most - i0) + 1 from by omega, runN_at _ _ _ i0 rs hlt, hs0e, rowN_K _ _ _ 9 rs hrl, ← hGS] at h1
        exact h1
      have HFG : Hid (FsI InZ GS) := by rw [hGS]; exact rowK_FsI HQ.out hsZ 9 (Nat.le_refl _) rs HFs.out
      have HGL9 : Hid (GS.length ≤ rs.length + 9) := by rw [hGS]; exact rowK_len _ _ _ 9 rs
      have HPRE : Hid (∃ t, GS = rs ++ t) := by rw [hGS]; exact rowK_pre _ _ _ 9 rs
      have HHAS : Hid (∀ k x, k < 9 → stepZ p (s : Int) k = some x → x ∈ GS) := fun k x hk hx => by rw [hGS]; exact rowK_has _ _ 9 (Nat.le_refl _) rs k x (by omega) hk hx
      have HG0 : Hid (rowK (stepZ p) (fun x => x) (s : Int) (9 - 0) rs = GS) := hGS.symm
      have HP0 : Hid (rs[i0]? = some (s : Int)) := by unfold Hid; rw [List.getElem?_eq_getElem hlt, hs0e]
      have HPL0 := hlt
      obtain ⟨bs, hbs⟩ : ∃ bs, bs = (rs.take i0).map (accZ p) := ⟨_, rfl⟩
      obtain ⟨xs, hxs⟩ : ∃ xs, xs = (rs.take i0).map (rowOfK (stepZ p) (fun x => x) rs) := ⟨_, rfl⟩
      rw [← hbs, ← hxs] at HO
      have HB := Lib.hid HO.out.begin
      have HBS2 : Hid ((GS.take (i0 + 1)).map (accZ p) = bs ++ [accN p s]) := by
        obtain ⟨t, ht⟩ := HPRE.out
        have hg : i0 < GS.length := by rw [ht]; simp; omega
        have e1 : GS[i0] = (s : Int) := by
          have : GS[i0]? = some (s : Int) := by rw [ht, List.getElem?_append_left hlt]; exact HP0.out
          rw [List.getElem?_eq_getElem hg] at this
          injection this
        unfold Hid
        rw [take_snocG _ _ hg, List.map_append, e1, hbs, ht, List.take_append_of_le_length hp]
        simp [accZ]
      have HXS2 : Hid ((GS.take (i0 + 1)).map (rowOfK (stepZ p) (fun x => x) GS) = xs ++ [preK (stepZ p) (fun x => x) GS (s : Int) 9]) := by
        obtain ⟨t, ht⟩ := HPRE.out
        have hg : i0 < GS.length := by rw [ht]; simp; omega
        have e1 : GS[i0] = (s : Int) := by
          have : GS[i0]? = some (s : Int) := by rw [ht, List.getElem?_append_left hlt]; exact HP0.out
          rw [List.getElem?_eq_getElem hg] at this
          injection this
        have e2 : xs = (GS.take i0).map (rowOfK (stepZ p) (fun x => x) GS) := by
          rw [hxs, ht]; exact rowsK_keep hp HCL.out
        unfold Hid
        rw [take_snocG _ _ hg, List.map_append, e1, e2]; rfl
      have HCL2 : Hid (∀ i (h : i < GS.length), i < i0 + 1 → ∀ k x, k < 9 → stepZ p GS[i] k = some x → x ∈ GS) := by
        intro i h hi k x hk hx
        obtain ⟨t, ht⟩ := HPRE.out
        have hir : i < rs.length := by omega
        have e0 : GS[i]? = rs[i]? := by rw [ht, List.getElem?_append_left hir]
        rw [List.getElem?_eq_getElem h, List.getElem?_eq_getElem hir] at e0
        injection e0 with e0
        rw [e0] at hx
        by_cases e : i = i0
        · subst e
          rw [hs0e] at hx
          exact HHAS.out k x hk hx
        · rw [ht]; exact List.mem_append_left _ (HCL.out i hir (by omega) k x hk hx)
      have HBL : Hid (bs.length = i0) := by rw [hbs, List.length_map, List.length_take]; unfold Hid; omega
      have HXLn : Hid (xs.length = i0) := by rw [hxs, List.length_map, List.length_take]; unfold Hid; omega
      clear hs0e hGS hbs hxs HRp HCL HPRE HHAS HFs hp
      go_upto_region 8 with fail
      clear hpi hr0
      go_loopw [7, 9, 10] (fun q tr j wz => ∃ (k : Nat) (gs : List Int) (rv tv : Value), k ≤ 9 ∧ j = .int .i64 k ∧ rv = q ∧ tv = tr ∧ i0 < gs.length ∧ Hid (gs[i0]? = some (s : Int)) ∧ Hid (rowK (stepZ p) (fun x => x) (s : Int) (9 - k) gs = GS) ∧ Hid (NpT w PC wz nilS rv bv nv tv [] gs bs xs (preK (stepZ p) (fun x => x) GS (s : Int) k))) (fun _ _ j _ => 9 - (intOf j).toNat)
      case atStart => exact ⟨0, rs, _, _, Nat.zero_le _, rfl, rfl, rfl, HPL0, HP0.out, HG0.out, HB.out⟩
      case round =>
        clear HO HB HG0 HP0 HPL0
        obtain ⟨k, gs, rv, tv, hk, rfl, rfl, rfl, HPL, HP, HRG, HX⟩ := hrel
        obtain ⟨g9, rc, rfl, hg9b⟩ := own_block HX.out.sr.2 (by omega)
        have hgsl : gs.length ≤ GS.length := by
          obtain ⟨t, ht⟩ := rowK_pre (stepZ p) (fun x => x) (s : Int) (9 - k) gs
          rw [HRG.out] at ht
          rw [ht]; simp
        have hGl := HGL9.out
        have HGP : Hid (gs[i0] = (s : Int)) := by
          have h2 := HP.out
          rw [List.getElem?_eq_getElem HPL] at h2
          injection h2
        have hpg : (i0 : Int) < (gs.length : Int) := by omega
        have HKM : Hid (∀ w', Blk w' w.heap.size 41 PC → Own (w.heap.size + 3) w' (.slice (some ⟨g9, 0, none⟩) gs.length rc) gs → w'.cell? ⟨w.heap.size, 0, none⟩ = some (.slice ao p.ls.length ac) ∧ w'.cell? ⟨w.heap.size, 1, none⟩ = some (.int .i64 p.fi) ∧ w'.cell? ⟨w.heap.size, 2, none⟩ = some (.int .i64 p.la) ∧ w'.cell? ⟨w.heap.size, 3, none⟩ = some (.slice bo p.fo.length bc) ∧ w'.cell? ⟨w.heap.size, 4, none⟩ = some (.bool p.nu) ∧ w'.cell? ⟨g9, i0, none⟩ = some (.int .i64 (s : Int))) := by
          intro w' hb ho
          rw [HPC.out] at hb
          have h1 := (ho.cellI rfl i0 HPL).1
          rw [HGP.out] at h1
          obtain ⟨⟨r0, r1, r2, r3, r4⟩, _⟩ := hb.fiveP
          exact ⟨r0, r1, r2, r3, r4, h1⟩
        have HKD : Hid (∀ w', Since wr w' → w'.cell? ⟨w.heap.size, 0, none⟩ = some (.slice ao p.ls.length ac) ∧ w'.cell? ⟨w.heap.size, 1, none⟩ = some (.int .i64 p.fi) ∧ w'.cell? ⟨w.heap.size, 2, none⟩ = some (.int .i64 p.la) ∧ w'.cell? ⟨w.heap.size, 3, none⟩ = some (.slice bo p.fo.length bc) ∧ w'.cell? ⟨w.heap.size, 4, none⟩ = some (.bool p.nu) ∧ w'.cell? ⟨g9, i0, none⟩ = some (.int .i64 (s : Int))) := fun w' hs => HKM.out w' (HX.out.b0.since hs) (HX.out.sr.since hs)
        by_cases hkt : k < 9
        · have hki : (k : Int) < 9 := by omega
          have hk0 : (0 : Int) ≤ (k : Int) := by omega
          have hlen9 : gs.length ≤ 4000000 := by omega
          have hts := (preK_length (stepZ p) (fun x => x) GS (s : Int) k)
          go_upto_region 10 with fail
          go_wp2_with fail
          refine wp_region_held_drew (S := (fun w' => w'.cell? ⟨w.heap.size, 0, none⟩ = some (.slice ao p.ls.length ac) ∧ w'.cell? ⟨w.heap.size, 1, none⟩ = some (.int .i64 p.fi) ∧ w'.cell? ⟨w.heap.size, 2, none⟩ = some (.int .i64 p.la) ∧ w'.cell? ⟨w.heap.size, 3, none⟩ = some (.slice bo p.fo.length bc) ∧ w'.cell? ⟨w.heap.size, 4, none⟩ = some (.bool p.nu) ∧ w'.cell? ⟨g9, i0, none⟩ = some (.int .i64 (s : Int)))) (by kernel_rfl) (HKD.out _ (Since.refl _).drew) (fun hHeld => ?_)
          refine take_yes 0 (some 26) (v := ?_) rfl (by kernel_rfl) (by kernel_rfl) (by kernel_rfl) (by kernel_rfl) (fun _ _ _ h => h) (by rfl) (by assumption) ?_ ?_
          rotate_left
          · (intro w' hSw; (try dsimp only at hSw); go_simp; try with_reducible rfl)
          try simp only [Act.put, List.setIfInBounds_toArray, List.set_cons_zero, List.set_cons_succ]
          refine take_yes 1 (some 27) (v := ?_) rfl (by kernel_rfl) (by kernel_rfl) (by kernel_rfl) (by kernel_rfl) (fun _ _ _ h => h) (by rfl) (by assumption) ?_ ?_
          rotate_left
          · (intro w' hSw; (try dsimp only at hSw); go_simp; try with_reducible rfl)
          try simp only [Act.put, List.setIfInBounds_toArray, List.set_cons_zero, List.set_cons_succ]
          refine take_yes 2 (some 28) (v := ?_) rfl (by kernel_rfl) (by kernel_rfl) (by kernel_rfl) (by kernel_rfl) (fun _ _ _ h => h) (by rfl) (by assumption) ?_ ?_
          rotate_left
          · (intro w' hSw; (try dsimp only at hSw); go_simp; try with_reducible rfl)
          try simp only [Act.put, List.setIfInBounds_toArray, List.set_cons_zero, List.set_cons_succ]
          refine take_yes 3 (some 29) (v := ?_) rfl (by kernel_rfl) (by kernel_rfl) (by kernel_rfl) (by kernel_rfl) (fun _ _ _ h => h) (by rfl) (by assumption) ?_ ?_
          rotate_left
          · (intro w' hSw; (try dsimp only at hSw); go_simp; try with_reducible rfl)
          try simp only [Act.put, List.setIfInBounds_toArray, List.set_cons_zero, List.set_cons_succ]
          refine take_yes 4 (some 30) (v := ?_) rfl (by kernel_rfl) (by kernel_rfl) (by kernel_rfl) (by kernel_rfl) (fun _ _ _ h => h) (by rfl) (by assumption) ?_ ?_
          rotate_left
          · (intro w' hSw; (try dsimp only at hSw); go_simp; try with_reducible rfl)
          try simp only [Act.put, List.setIfInBounds_toArray, List.set_cons_zero, List.set_cons_succ]
          refine take_yes 5 (some 31) (v := ?_) rfl (by kernel_rfl) (by kernel_rfl) (by kernel_rfl) (by kernel_rfl) (fun _ _ _ h => h) (by rfl) (by assumption) ?_ ?_
          rotate_left
          · (intro w' hSw; (try dsimp only at hSw); go_simp; try with_reducible rfl)
          try simp only [Act.put, List.setIfInBounds_toArray, List.set_cons_zero, List.set_cons_succ]
          refine take_run 6 rfl (by kernel_rfl) (by rfl) (fun K hK => ?_)
          go_simp
          refine (HAF.out s k _ (HX.out.sc.trans (Since.refl _).drew) hs9).mono ?_
          rintro en w2 ⟨rfl, hs2⟩
          have hc2 := Since.of_drew hs2
          obtain ⟨x, hx⟩ : ∃ x, x = aft p s k := ⟨_, rfl⟩
          have hx9 : x < 2097152 := by rw [hx]; exact HLT.out s k
          have HS : Hid (stepZ p (s : Int) k = if x = 0 then none else some (x : Int)) := by rw [hx]; exact HST.out s k
          rw [← hx]
          clear hx
          refine hK.out _ _ (HKD.out _ hc2) (fun hHeld2 => ?_)
          clear hK K hHeld
          try simp only [Act.put, List.setIfInBounds_toArray, List.set_cons_zero, List.set_cons_succ]
          refine take_yes 7 (some 11) (v := ?_) rfl (by kernel_rfl) (by kernel_rfl) (by kernel_rfl) (by kernel_rfl) (fun _ _ _ h => h) (by rfl) (by assumption) ?_ ?_
          rotate_left
          · (intro w' hSw; (try dsimp only at hSw); go_simp; try with_reducible rfl)
          try simp only [Act.put, List.setIfInBounds_toArray, List.set_cons_zero, List.set_cons_succ]
          refine wpAnyH_done (by kernel_rfl) ?_ _
          clear hHeld2
          have HX := Lib.hid (HX.out.since hc2)
          clear HKM HKD hc2 hs2
          by_cases h0 : x = 0
          · subst h0
            have hb0 : (((0 : Nat) : Int) != 0) = false := by decide
            have hst : stepZ p (s : Int) k = none := by rw [HS.out]; rfl
            have HRN : Hid (rowK (stepZ p) (fun x => x) (s : Int) (9 - (k + 1)) gs = GS) := by
              have h1 := HRG.out
              rw [rowK_at _ _ _ k hkt, hst] at h1
              exact h1
            have HRA : Hid (rowAtK (stepZ p) (fun x => x) GS (s : Int) k = -1) := rowAtK_none hst
            have hzi : InI (-1) := by unfold InI; omega
            have HTT := Lib.hid HX.out.st
            have hbz := HX.out.lt
            clear hst
            go_wp2_with (at_builtin; go_must (refine wpList_append_at rfl (.tmp 46) (.tmp 48) rfl (w.heap.size + 3) tv _ (by first | rfl | simp [Act.eval]) HTT.out (-1) (by first | rfl | simp [Act.eval]) hzi (by rw [hts]; omega) hbz ?_); intro v9 w9 ho9 hg9 hn9)
            have HX9 : Hid (NpT w PC w9 nilS (.slice (some ⟨g9, 0, none⟩) gs.length rc) bv nv v9 [] gs bs xs (preK (stepZ p) (fun x => x) GS (s : Int) (k + 1))) := by
              unfold Hid
              rw [preK_step, HRA.out]
              exact HX.out.row ho9 hg9 hn9
            clear ho9 hg9 hn9 HTT
            go_roundw
            case rel => exact ⟨k + 1, gs, _, v9, by omega, by go_num, rfl, rfl, HPL, HP.out, HRN.out, HX9.out⟩
            case measure => simp [intOf]; omega
          · have hb0 : ((x : Int) != 0) = true := by simp; omega
            have hst : stepZ p (s : Int) k = some (x : Int) := by rw [HS.out, if_neg h0]
            clear h0
            go_wp2_with fail
            refine (find_any _ gs (x : Int) _ HX.out.sr.at hlen9).mono ?_
            rintro en w6 ⟨rfl, hs6⟩
            have HX := Lib.hid (HX.out.since hs6)
            clear hs6
            by_cases hin : (x : Int) ∈ gs
            · rw [findL_in hin]
              have hpn := posN_lt gs (x : Int) hin
              obtain ⟨z, hz⟩ : ∃ z : Nat, z = posN gs (x : Int) := ⟨_, rfl⟩
              rw [← hz] at hpn ⊢
              have HRN : Hid (rowK (stepZ p) (fun x => x) (s : Int) (9 - (k + 1)) gs = GS) := by
                have h1 := HRG.out
                rw [rowK_at _ _ _ k hkt, hst, addK_id] at h1
                simp only at h1
                rw [if_pos hin] at h1
                exact h1
              have HRA : Hid (rowAtK (stepZ p) (fun x => x) GS (s : Int) k = (z : Int)) := by
                obtain ⟨t, ht⟩ := rowK_pre (stepZ p) (fun x => x) (s : Int) (9 - (k + 1)) gs
                rw [HRN.out] at ht
                have := rowAtK_old (key := fun x => x) ht hst (by rw [map_idK]; exact hin)
                rw [map_idK, ← hz] at this
                exact this
              have hneg : ¬ (z : Int) < 0 := by omega
              have hzi : InI (z : Int) := by unfold InI; omega
              have HTT := Lib.hid HX.out.st
              have hbz := HX.out.lt
              clear hin hst hz
              go_wp2_with (at_builtin; go_must (refine wpList_append_at rfl (.tmp 46) (.tmp 48) rfl (w.heap.size + 3) tv _ (by first | rfl | simp [Act.eval]) HTT.out (z : Int) (by first | rfl | simp [Act.eval]) hzi (by rw [hts]; omega) hbz ?_); intro v9 w9 ho9 hg9 hn9)
              have HX9 : Hid (NpT w PC w9 nilS (.slice (some ⟨g9, 0, none⟩) gs.length rc) bv nv v9 [] gs bs xs (preK (stepZ p) (fun x => x) GS (s : Int) (k + 1))) := by
                unfold Hid
                rw [preK_step, HRA.out]
                exact HX.out.row ho9 hg9 hn9
              clear ho9 hg9 hn9 HTT
              go_roundw
              case rel => exact ⟨k + 1, gs, _, v9, by omega, by go_num, rfl, rfl, HPL, HP.out, HRN.out, HX9.out⟩
              case measure => simp [intOf]; omega
            · rw [findL_out hin]
              have HRN : Hid (rowK (stepZ p) (fun x => x) (s : Int) (9 - (k + 1)) (gs ++ [(x : Int)]) = GS) := by
                have h1 := HRG.out
                rw [rowK_at _ _ _ k hkt, hst, addK_id] at h1
                simp only at h1
                rw [if_neg hin] at h1
                exact h1
              have HRA : Hid (rowAtK (stepZ p) (fun x => x) GS (s : Int) k = (gs.length : Int)) := by
                obtain ⟨t, ht⟩ := rowK_pre (stepZ p) (fun x => x) (s : Int) (9 - (k + 1)) (gs ++ [(x : Int)])
                rw [HRN.out] at ht
                exact rowAtK_new (key := fun x => x) ht hst (by rw [map_idK]; exact hin)
              have HP2 : Hid ((gs ++ [(x : Int)])[i0]? = some (s : Int)) := by unfold Hid; rw [List.getElem?_append_left HPL]; exact HP.out
              have HPL2 : i0 < (gs ++ [(x : Int)]).length := by simp; omega
              have hui2 : InI (x : Int) := by unfold InI; omega
              have hneg : (-1 : Int) < 0 := by decide
              have HSR := Lib.hid HX.out.sr
              have hbz := HX.out.lt
              clear hin hst
              go_upto_region 17 with (at_builtin; go_must (refine wpList_append_at rfl (.tmp 42) (.tmp 44) rfl (w.heap.size + 3) (.slice (some ⟨g9, 0, none⟩) gs.length rc) gs (by first | rfl | simp [Act.eval]) HSR.out (x : Int) (by first | rfl | simp [Act.eval]) hui2 hlen9 hbz ?_); intro v8 w8 ho8 hg8 hn8)
              have HX := Lib.hid (HX.out.rep ho8 hg8 hn8)
              clear ho8 hg8 hn8 HSR hbz
              have hzi : InI (gs.length : Int) := by unfold InI; omega
              have HTT := Lib.hid HX.out.st
              have hbz := HX.out.lt
              go_wp2_with (at_builtin; go_must (refine wpList_append_at rfl (.tmp 46) (.tmp 48) rfl (w.heap.size + 3) tv _ (by first | rfl | simp [Act.eval]) HTT.out (gs.length : Int) (by first | rfl | simp [Act.eval]) hzi (by rw [hts]; omega) hbz ?_); intro v9 w9 ho9 hg9 hn9)
              have HX9 : Hid (NpT w PC w9 nilS v8 bv nv v9 [] (gs ++ [(x : Int)]) bs xs (preK (stepZ p) (fun x => x) GS (s : Int) (k + 1))) := by
                unfold Hid
                rw [preK_step, HRA.out]
                exact HX.out.row ho9 hg9 hn9
              clear ho9 hg9 hn9 HTT
              go_roundw
              case rel => exact ⟨k + 1, (gs ++ [(x : Int)]), _, v9, by omega, by go_num, rfl, rfl, HPL2, HP2.out, HRN.out, HX9.out⟩
              case measure => simp [intOf]; omega
        · obtain rfl : k = 9 := by omega
          have hge : gs = GS := HRG.out
          subst hge
          obtain ⟨tvo, tvc, rfl⟩ := HX.out.st.len
          rw [preK_length] at HX ⊢
          by_cases hbig : most < gs.length
          · have hbi : (most : Int) < (gs.length : Int) := by omega
            have HRn : Hid (R = none) := by
              have h1 := HRi.out
              rw [if_neg (by omega)] at h1
              exact h1.symm
            have HB1 := Lib.hid HX.out.b1
            have HSC := Lib.hid HX.out.sc
            obtain ⟨⟨r0, r1, r2⟩, r3, r4, r5⟩ := HB1.out.threeA
            clear hgsl HKM HKD HGP hpg
            go_wp2
            refine bodyPost_ret (v := .tuple #[.agg #[.int .i64 0, nilS, nilS], .bool false]) (by simp [results, Try.results74, go_sem, *]) rfl ?_
            rw [HRn.out]
            refine ⟨_, rfl, ownA_zero _ _ _, ?_⟩
            iterate 3 (with_reducible refine Since.setCell ?_ (by simp) _)
            exact HSC.out
          · have hbi : ¬ (most : Int) < (gs.length : Int) := by omega
            have HGL : Hid (gs.length ≤ most) := by unfold Hid; omega
            have HRE : Hid (runN (stepZ p) most (most + 1 - (i0 + 1)) (i0 + 1) gs = R) := by
              have h1 := HRi.out
              rw [if_pos HGL.out] at h1
              rw [show most + 1 - (i0 + 1) = most - i0 from by omega]
              exact h1
            obtain ⟨ac0, hac0⟩ : ∃ b, b = accN p s := ⟨_, rfl⟩
            rw [← hac0] at HBS2
            have HAC0 := Lib.hid hac0
            have hblen : bs.length ≤ 4000000 := by rw [HBL.out]; omega
            have HXL : Hid (xs.length ≤ 4000000) := by unfold Hid; rw [HXLn.out]; omega
            obtain ⟨bvo, bvc, rfl⟩ := OwnBo.len HX.out.sb
            obtain ⟨nvo, nvc, rfl⟩ := HX.out.sn.len
            obtain ⟨bln, hbln⟩ : ∃ l, l = bs.length := ⟨_, rfl⟩
            obtain ⟨xln, hxln⟩ : ∃ l, l = xs.length := ⟨_, rfl⟩
            rw [← hbln, ← hxln] at HX ⊢
            have HBLN := Lib.hid hbln
            have HXLN := Lib.hid hxln
            clear hac0 hbln hxln HRG hbig HRi hgsl
            go_upto_region 20 with fail
            clear hbi
            go_wp2_with fail
            refine wp_region_held_drew (S := (fun w' => w'.cell? ⟨w.heap.size, 0, none⟩ = some (.slice ao p.ls.length ac) ∧ w'.cell? ⟨w.heap.size, 1, none⟩ = some (.int .i64 p.fi) ∧ w'.cell? ⟨w.heap.size, 2, none⟩ = some (.int .i64 p.la) ∧ w'.cell? ⟨w.heap.size, 3, none⟩ = some (.slice bo p.fo.length bc) ∧ w'.cell? ⟨w.heap.size, 4, none⟩ = some (.bool p.nu) ∧ w'.cell? ⟨g9, i0, none⟩ = some (.int .i64 (s : Int)))) (by kernel_rfl) (HKD.out _ (Since.refl _).drew) (fun hHeld => ?_)
            refine take_yes 0 (some 55) (v := ?_) rfl (by kernel_rfl) (by kernel_rfl) (by kernel_rfl) (by kernel_rfl) (fun _ _ _ h => h) (by rfl) (by assumption) ?_ ?_
            rotate_left
            · (intro w' hSw; (try dsimp only at hSw); go_simp; try with_reducible rfl)
            try simp only [Act.put, List.setIfInBounds_toArray, List.set_cons_zero, List.set_cons_succ]
            refine take_yes 2 (some 57) (v := ?_) rfl (by kernel_rfl) (by kernel_rfl) (by kernel_rfl) (by kernel_rfl) (fun _ _ _ h => h) (by rfl) (by assumption) ?_ ?_
            rotate_left
            · (intro w' hSw; (try dsimp only at hSw); go_simp; try with_reducible rfl)
            try simp only [Act.put, List.setIfInBounds_toArray, List.set_cons_zero, List.set_cons_succ]
            refine take_yes 3 (some 58) (v := ?_) rfl (by kernel_rfl) (by kernel_rfl) (by kernel_rfl) (by kernel_rfl) (fun _ _ _ h => h) (by rfl) (by assumption) ?_ ?_
            rotate_left
            · (intro w' hSw; (try dsimp only at hSw); go_simp; try with_reducible rfl)
            try simp only [Act.put, List.setIfInBounds_toArray, List.set_cons_zero, List.set_cons_succ]
            refine take_yes 4 (some 59) (v := ?_) rfl (by kernel_rfl) (by kernel_rfl) (by kernel_rfl) (by kernel_rfl) (fun _ _ _ h => h) (by rfl) (by assumption) ?_ ?_
            rotate_left
            · (intro w' hSw; (try dsimp only at hSw); go_simp; try with_reducible rfl)
            try simp only [Act.put, List.setIfInBounds_toArray, List.set_cons_zero, List.set_cons_succ]
            refine take_yes 5 (some 60) (v := ?_) rfl (by kernel_rfl) (by kernel_rfl) (by kernel_rfl) (by kernel_rfl) (fun _ _ _ h => h) (by rfl) (by assumption) ?_ ?_
            rotate_left
            · (intro w' hSw; (try dsimp only at hSw); go_simp; try with_reducible rfl)
            try simp only [Act.put, List.setIfInBounds_toArray, List.set_cons_zero, List.set_cons_succ]
            refine take_yes 6 (some 61) (v := ?_) rfl (by kernel_rfl) (by kernel_rfl) (by kernel_rfl) (by kernel_rfl) (fun _ _ _ h => h) (by rfl) (by assumption) ?_ ?_
            rotate_left
            · (intro w' hSw; (try dsimp only at hSw); go_simp; try with_reducible rfl)
            try simp only [Act.put, List.setIfInBounds_toArray, List.set_cons_zero, List.set_cons_succ]
            refine take_two 1 7 rfl rfl (by kernel_rfl) (by rfl) (by rfl) (fun K hK => ?_) (fun K hK => ?_)
            · skip
              obtain ⟨⟨q0, q1, q2⟩, _⟩ := (HX.out.bx.since (Since.refl wr).drew).threeA
              go_simp
              clear q0 q1 q2
              refine hK.out _ _ (HKD.out _ (Since.refl wr).drew) (fun hHeld1 => ?_)
              clear hK K hHeld
              try simp only [Act.put, List.setIfInBounds_toArray, List.set_cons_zero, List.set_cons_succ]
              refine take_run 7 rfl (by kernel_rfl) (by rfl) (fun K hK => ?_)
              go_simp
              refine (HAC.out s _ (HX.out.sc.trans (Since.refl wr).drew) hs9).mono ?_
              rintro en w2c ⟨rfl, hs2⟩
              have hc2 := Since.trans (Since.refl wr).drew hs2
              rw [← HAC0.out]
              refine hK.out _ _ (HKD.out _ hc2) (fun hHeld2 => ?_)
              clear hK K hHeld1
              try simp only [Act.put, List.setIfInBounds_toArray, List.set_cons_zero, List.set_cons_succ]
              refine take_run 8 rfl (by kernel_rfl) (by rfl) (fun K hK => ?_)
              go_simp
              have hal3 : Since w2c (w2c.alloc (.cells #[.bool ac0] 4)) := (Since.refl _).alloc _
              have hsb3 := Since.trans hc2 hal3
              refine hK.out _ _ (HKD.out _ hsb3) (fun hHeld3 => ?_)
              clear hK K hHeld2
              try simp only [Act.put, List.setIfInBounds_toArray, List.set_cons_zero, List.set_cons_succ]
              refine take_run 9 rfl (by kernel_rfl) (by rfl) (fun K hK => ?_)
              have HX2 := Lib.hid (HX.out.since hsb3)
              refine wp_append_boolv (.tmp 56) (.tmp 63) rfl (w.heap.size + 3) _ _ rfl HX2.out.sb _ ac0 rfl (Blk.new rfl _ _) hblen HX2.out.lt ?_
              intro v4 w4 ho4 hg4
              obtain ⟨b4o, b4c, hb4⟩ := OwnBo.len ho4
              obtain ⟨b4n, hb4n⟩ : ∃ l, l = (bs ++ [ac0]).length := ⟨_, rfl⟩
              rw [← hb4n] at hb4
              subst hb4
              clear hb4n
              have HM4 := Lib.hid (HX2.out.mid hg4)
              have HX4 := Lib.hid (HX2.out.acc ho4 hg4)
              clear ho4 hg4
              refine hK.out _ _ (HKM.out _ HM4.out.1 HM4.out.2.1) (fun hHeld4 => ?_)
              clear hK K hHeld3
              try simp only [Act.put, List.setIfInBounds_toArray, List.set_cons_zero, List.set_cons_succ]
              refine take_yes 10 (some 65) (v := ?_) rfl (by kernel_rfl) (by kernel_rfl) (by kernel_rfl) (by kernel_rfl) (fun _ _ _ h => h) (by rfl) (by assumption) ?_ ?_
              rotate_left
              · (intro w' hSw; (try dsimp only at hSw); go_simp; try with_reducible rfl)
              try simp only [Act.put, List.setIfInBounds_toArray, List.set_cons_zero, List.set_cons_succ]
              refine take_run 11 rfl (by kernel_rfl) (by rfl) (fun K hK => ?_)
              obtain ⟨⟨q0, q1, q2⟩, q3, q4, q5⟩ := HM4.out.2.2.2.threeA
              go_simp
              clear q0 q1 q2 q3 q4 q5
              refine hK.out _ _ (HKM.out _ HX4.out.b0 HX4.out.sr) (fun hHeldz => ?_)
              clear hK K hHeld4
              try simp only [Act.put, List.setIfInBounds_toArray, List.set_cons_zero, List.set_cons_succ]
              refine wpAnyH_done (by kernel_rfl) ?_ _
              clear hHeldz HKD HKM HM4
              obtain ⟨w5, hw5⟩ : ∃ w5, w5 = w4.setCell ⟨w.heap.size + 2, 1, none⟩ (.slice b4o b4n b4c) := ⟨_, rfl⟩
              rw [← hw5] at HX4 ⊢
              clear hw5 HX HX2
              obtain ⟨⟨q0, q1, q2⟩, q3, q4, q5⟩ := HX4.out.bx.threeA
              have hbz5 := HX4.out.lt
              have HSN := Lib.hid HX4.out.sn
              have HB5 := Lib.hid HX4.out.bx
              have hxl9 := HXL.out
              go_wp2_with (at_builtin; go_must (refine wpList_append_rowv rfl (.tmp 67) (.tmp 69) rfl (w.heap.size + 3) (.slice nvo xln nvc) xs _ (by first | rfl | simp [Act.eval]) HSN.out (.slice tvo 9 tvc) (by first | rfl | simp [Act.eval]) rfl hxl9 hbz5 ?_); intro v6 w6 ho6 hg6; obtain ⟨v6o, v6n, v6c, rfl⟩ := rowv_shape HSN.out ho6; obtain ⟨⟨z0, z1, z2⟩, z3, z4, z5⟩ := (blk_keep HB5.out hg6 (fun q e => (HSN.out.lt q e).1) (by omega)).threeA)
              have HO6 := Lib.hid (HX4.out.fin ho6 hg6)
              have HO7 : Hid (NpO w PC (w6.setCell ⟨w.heap.size + 2, 2, none⟩ (.slice v6o v6n v6c)) nilS (.slice (some ⟨g9, 0, none⟩) gs.length rc) (.slice b4o b4n b4c) (.slice v6o v6n v6c) [] gs ((gs.take (i0 + 1)).map (accZ p)) ((gs.take (i0 + 1)).map (rowOfK (stepZ p) (fun x => x) gs))) := by
                unfold Hid
                rw [HBS2.out, HXS2.out]
                exact HO6.out
              clear z0 z1 z2 z3 z4 z5 ho6 hg6
              go_roundw
              case rel => exact ⟨i0 + 1, gs, _, _, _, by go_num, rfl, by omega, by omega, HGL.out, HFG.out, HCL2.out, HRE.out, HO7.out⟩
              case measure => simp [intOf]; omega
            · skip
              go_simp
              refine (HAC.out s _ (HX.out.sc.trans (Since.refl wr).drew) hs9).mono ?_
              rintro en w1c ⟨rfl, hs1⟩
              have hc1 := Since.trans (Since.refl wr).drew hs1
              rw [← HAC0.out]
              refine hK.out _ _ (HKD.out _ hc1) (fun hHeld1 => ?_)
              clear hK K hHeld
              try simp only [Act.put, List.setIfInBounds_toArray, List.set_cons_zero, List.set_cons_succ]
              refine take_two 1 8 rfl rfl (by kernel_rfl) (by rfl) (by rfl) (fun K hK => ?_) (fun K hK => ?_)
              · skip
                obtain ⟨⟨q0, q1, q2⟩, _⟩ := (HX.out.bx.since hc1).threeA
                go_simp
                clear q0 q1 q2
                refine hK.out _ _ (HKD.out _ hc1) (fun hHeld2 => ?_)
                clear hK K hHeld1
                try simp only [Act.put, List.setIfInBounds_toArray, List.set_cons_zero, List.set_cons_succ]
                refine take_run 8 rfl (by kernel_rfl) (by rfl) (fun K hK => ?_)
                go_simp
                have hal3 : Since w1c (w1c.alloc (.cells #[.bool ac0] 4)) := (Since.refl _).alloc _
                have hsb3 := Since.trans hc1 hal3
                refine hK.out _ _ (HKD.out _ hsb3) (fun hHeld3 => ?_)
                clear hK K hHeld2
                try simp only [Act.put, List.setIfInBounds_toArray, List.set_cons_zero, List.set_cons_succ]
                refine take_run 9 rfl (by kernel_rfl) (by rfl) (fun K hK => ?_)
                have HX2 := Lib.hid (HX.out.since hsb3)
                refine wp_append_boolv (.tmp 56) (.tmp 63) rfl (w.heap.size + 3) _ _ rfl HX2.out.sb _ ac0 rfl (Blk.new rfl _ _) hblen HX2.out.lt ?_
                intro v4 w4 ho4 hg4
                obtain ⟨b4o, b4c, hb4⟩ := OwnBo.len ho4
                obtain ⟨b4n, hb4n⟩ : ∃ l, l = (bs ++ [ac0]).length := ⟨_, rfl⟩
                rw [← hb4n] at hb4
                subst hb4
                clear hb4n
                have HM4 := Lib.hid (HX2.out.mid hg4)
                have HX4 := Lib.hid (HX2.out.acc ho4 hg4)
                clear ho4 hg4
                refine hK.out _ _ (HKM.out _ HM4.out.1 HM4.out.2.1) (fun hHeld4 => ?_)
                clear hK K hHeld3
                try simp only [Act.put, List.setIfInBounds_toArray, List.set_cons_zero, List.set_cons_succ]
                refine take_yes 10 (some 65) (v := ?_) rfl (by kernel_rfl) (by kernel_rfl) (by kernel_rfl) (by kernel_rfl) (fun _ _ _ h => h) (by rfl) (by assumption) ?_ ?_
                rotate_left
                · (intro w' hSw; (try dsimp only at hSw); go_simp; try with_reducible rfl)
                try simp only [Act.put, List.setIfInBounds_toArray, List.set_cons_zero, List.set_cons_succ]
                refine take_run 11 rfl (by kernel_rfl) (by rfl) (fun K hK => ?_)
                obtain ⟨⟨q0, q1, q2⟩, q3, q4, q5⟩ := HM4.out.2.2.2.threeA
                go_simp
                clear q0 q1 q2 q3 q4 q5
                refine hK.out _ _ (HKM.out _ HX4.out.b0 HX4.out.sr) (fun hHeldz => ?_)
                clear hK K hHeld4
                try simp only [Act.put, List.setIfInBounds_toArray, List.set_cons_zero, List.set_cons_succ]
                refine wpAnyH_done (by kernel_rfl) ?_ _
                clear hHeldz HKD HKM HM4
                obtain ⟨w5, hw5⟩ : ∃ w5, w5 = w4.setCell ⟨w.heap.size + 2, 1, none⟩ (.slice b4o b4n b4c) := ⟨_, rfl⟩
                rw [← hw5] at HX4 ⊢
                clear hw5 HX HX2
                obtain ⟨⟨q0, q1, q2⟩, q3, q4, q5⟩ := HX4.out.bx.threeA
                have hbz5 := HX4.out.lt
                have HSN := Lib.hid HX4.out.sn
                have HB5 := Lib.hid HX4.out.bx
                have hxl9 := HXL.out
                go_wp2_with (at_builtin; go_must (refine wpList_append_rowv rfl (.tmp 67) (.tmp 69) rfl (w.heap.size + 3) (.slice nvo xln nvc) xs _ (by first | rfl | simp [Act.eval]) HSN.out (.slice tvo 9 tvc) (by first | rfl | simp [Act.eval]) rfl hxl9 hbz5 ?_); intro v6 w6 ho6 hg6; obtain ⟨v6o, v6n, v6c, rfl⟩ := rowv_shape HSN.out ho6; obtain ⟨⟨z0, z1, z2⟩, z3, z4, z5⟩ := (blk_keep HB5.out hg6 (fun q e => (HSN.out.lt q e).1) (by omega)).threeA)
                have HO6 := Lib.hid (HX4.out.fin ho6 hg6)
                have HO7 : Hid (NpO w PC (w6.setCell ⟨w.heap.size + 2, 2, none⟩ (.slice v6o v6n v6c)) nilS (.slice (some ⟨g9, 0, none⟩) gs.length rc) (.slice b4o b4n b4c) (.slice v6o v6n v6c) [] gs ((gs.take (i0 + 1)).map (accZ p)) ((gs.take (i0 + 1)).map (rowOfK (stepZ p) (fun x => x) gs))) := by
                  unfold Hid
                  rw [HBS2.out, HXS2.out]
                  exact HO6.out
                clear z0 z1 z2 z3 z4 z5 ho6 hg6
                go_roundw
                case rel => exact ⟨i0 + 1, gs, _, _, _, by go_num, rfl, by omega, by omega, HGL.out, HFG.out, HCL2.out, HRE.out, HO7.out⟩
                case measure => simp [intOf]; omega
              · skip
                go_simp
                have hal2 : Since w1c (w1c.alloc (.cells #[.bool ac0] 4)) := (Since.refl _).alloc _
                have hsb2 := Since.trans hc1 hal2
                refine hK.out _ _ (HKD.out _ hsb2) (fun hHeld2 => ?_)
                clear hK K hHeld1
                try simp only [Act.put, List.setIfInBounds_toArray, List.set_cons_zero, List.set_cons_succ]
                refine take_run 1 rfl (by kernel_rfl) (by rfl) (fun K hK => ?_)
                obtain ⟨⟨q0, q1, q2⟩, _⟩ := (HX.out.bx.since hsb2).threeA
                go_simp
                clear q0 q1 q2
                refine hK.out _ _ (HKD.out _ hsb2) (fun hHeld3 => ?_)
                clear hK K hHeld2
                try simp only [Act.put, List.setIfInBounds_toArray, List.set_cons_zero, List.set_cons_succ]
                refine take_run 9 rfl (by kernel_rfl) (by rfl) (fun K hK => ?_)
                have HX2 := Lib.hid (HX.out.since hsb2)
                refine wp_append_boolv (.tmp 56) (.tmp 63) rfl (w.heap.size + 3) _ _ rfl HX2.out.sb _ ac0 rfl (Blk.new rfl _ _) hblen HX2.out.lt ?_
                intro v4 w4 ho4 hg4
                obtain ⟨b4o, b4c, hb4⟩ := OwnBo.len ho4
                obtain ⟨b4n, hb4n⟩ : ∃ l, l = (bs ++ [ac0]).length := ⟨_, rfl⟩
                rw [← hb4n] at hb4
                subst hb4
                clear hb4n
                have HM4 := Lib.hid (HX2.out.mid hg4)
                have HX4 := Lib.hid (HX2.out.acc ho4 hg4)
                clear ho4 hg4
                refine hK.out _ _ (HKM.out _ HM4.out.1 HM4.out.2.1) (fun hHeld4 => ?_)
                clear hK K hHeld3
                try simp only [Act.put, List.setIfInBounds_toArray, List.set_cons_zero, List.set_cons_succ]
                refine take_yes 10 (some 65) (v := ?_) rfl (by kernel_rfl) (by kernel_rfl) (by kernel_rfl) (by kernel_rfl) (fun _ _ _ h => h) (by rfl) (by assumption) ?_ ?_
                rotate_left
                · (intro w' hSw; (try dsimp only at hSw); go_simp; try with_reducible rfl)
                try simp only [Act.put, List.setIfInBounds_toArray, List.set_cons_zero, List.set_cons_succ]
                refine take_run 11 rfl (by kernel_rfl) (by rfl) (fun K hK => ?_)
                obtain ⟨⟨q0, q1, q2⟩, q3, q4, q5⟩ := HM4.out.2.2.2.threeA
                go_simp
                clear q0 q1 q2 q3 q4 q5
                refine hK.out _ _ (HKM.out _ HX4.out.b0 HX4.out.sr) (fun hHeldz => ?_)
                clear hK K hHeld4
                try simp only [Act.put, List.setIfInBounds_toArray, List.set_cons_zero, List.set_cons_succ]
                refine wpAnyH_done (by kernel_rfl) ?_ _
                clear hHeldz HKD HKM HM4
                obtain ⟨w5, hw5⟩ : ∃ w5, w5 = w4.setCell ⟨w.heap.size + 2, 1, none⟩ (.slice b4o b4n b4c) := ⟨_, rfl⟩
                rw [← hw5] at HX4 ⊢
                clear hw5 HX HX2
                obtain ⟨⟨q0, q1, q2⟩, q3, q4, q5⟩ := HX4.out.bx.threeA
                have hbz5 := HX4.out.lt
                have HSN := Lib.hid HX4.out.sn
                have HB5 := Lib.hid HX4.out.bx
                have hxl9 := HXL.out
                go_wp2_with (at_builtin; go_must (refine wpList_append_rowv rfl (.tmp 67) (.tmp 69) rfl (w.heap.size + 3) (.slice nvo xln nvc) xs _ (by first | rfl | simp [Act.eval]) HSN.out (.slice tvo 9 tvc) (by first | rfl | simp [Act.eval]) rfl hxl9 hbz5 ?_); intro v6 w6 ho6 hg6; obtain ⟨v6o, v6n, v6c, rfl⟩ := rowv_shape HSN.out ho6; obtain ⟨⟨z0, z1, z2⟩, z3, z4, z5⟩ := (blk_keep HB5.out hg6 (fun q e => (HSN.out.lt q e).1) (by omega)).threeA)
                have HO6 := Lib.hid (HX4.out.fin ho6 hg6)
                have HO7 : Hid (NpO w PC (w6.setCell ⟨w.heap.size + 2, 2, none⟩ (.slice v6o v6n v6c)) nilS (.slice (some ⟨g9, 0, none⟩) gs.length rc) (.slice b4o b4n b4c) (.slice v6o v6n v6c) [] gs ((gs.take (i0 + 1)).map (accZ p)) ((gs.take (i0 + 1)).map (rowOfK (stepZ p) (fun x => x) gs))) := by
                  unfold Hid
                  rw [HBS2.out, HXS2.out]
                  exact HO6.out
                clear z0 z1 z2 z3 z4 z5 ho6 hg6
                go_roundw
                case rel => exact ⟨i0 + 1, gs, _, _, _, by go_num, rfl, by omega, by omega, HGL.out, HFG.out, HCL2.out, HRE.out, HO7.out⟩
                case measure => simp [intOf]; omega
    · have hnl : ¬ ((i0 : Int) < (rs.length : Int)) := by omega
      have HRe : Hid (R = some rs) := by
        have h1 := HRp.out
        rw [runN_end _ _ _ _ _ (by omega)] at h1
        exact h1.symm
      have hi0 : i0 = rs.length := by omega
      have HA : Hid (autR (stepZ p) (accZ p) (some rs) = ⟨0, rs.map (accZ p), rs.map (rowOfK (stepZ p) (fun x => x) rs)⟩) := by
        have := autK_is (key := fun x => x) (Q := InZ) (fun x _ => rfl) HQ.out (accZ p) HFs.out.2
        exact this.symm
      have htk : rs.take i0 = rs := List.take_of_length_le (by omega)
      rw [htk] at HO
      have HTR : Hid ((some rs).isSome = true) := rfl
      obtain ⟨bvo, bvc, rfl⟩ := OwnBo.len HO.out.sb
      obtain ⟨nvo, nvc, rfl⟩ := HO.out.sn.len
      have HDN := Lib.hid HO.out.done
      have hbz := HO.out.lt
      obtain ⟨⟨q0, q1, q2⟩, _⟩ := HO.out.bx.threeA
      obtain ⟨⟨r0, r1, r2⟩, r3, r4, r5⟩ := HO.out.b1.threeA
      have HSC := Lib.hid HO.out.sc
      clear htk hi0
      go_wp2
      refine bodyPost_ret (v := .tuple #[.agg #[.int .i64 0, .slice bvo (rs.map (accZ p)).length bvc, .slice nvo (rs.map (rowOfK (stepZ p) (fun x => x) rs)).length nvc], .bool true]) (by simp [results, Try.results74, go_sem, *]) rfl ?_
      rw [HRe.out, HA.out, HTR.out]
      refine ⟨_, rfl, ?_, ?_⟩
      · refine OwnA.wider (lo := w.heap.size + 3) (hi := wr.heap.size) ?_ (by omega) (by simp)
        iterate 3 (with_reducible refine OwnA.far1 ?_ (.inl (by omega)) _ _)
        exact HDN.out
      · iterate 3 (with_reducible refine Since.setCell ?_ (by simp <;> omega) _)
        exact HSC.out
end Go.Proofs.Ytcokggjekleabaa
