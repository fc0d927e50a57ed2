/- The least word that a machine of states accepts, the program's: the machine of an automaton's useful states. -/
import Derived.Test.YtmaagihfjldgeaaLwQ
import Derived.Test.YtmaagihfjldgeaaTrI
import Derived.Test.YtmaagihfjldgeaaA3
import Derived.Test.YtmaagihfjldgeaaMsM
import Derived.Test.YtmaagihfjldgeaaLwD
import Derived.Test.YtmaagihfjldgeaaLwN
import Derived.Test.YtmaagihfjldgeaaCopyI
import Derived.BigQuiet
import Derived.Deep.QuietTactic
import Derived.StillTailTactics
import Derived.Test.YtmaagihfjldgeaaK1
namespace Go.Proofs.Ytmaagihfjldgeaa
set_option maxRecDepth 100000
open Go.ChangeShapes Go.WideShapes Go.ChangeAt Go.RowKit Go.Maps
set_option linter.unusedVariables false
set_option linter.unusedSimpArgs false

/-- D holds the states of ks, each with its value. -/
structure WdI (D : DV) (ks : List Int) (vs : List Value) : Prop where
  tidy : Maps.Tidy D
  has : ∀ x, Maps.has D (KY x) = decide (x ∈ ks)
  len : vs.length = ks.length
  at' : ∀ i (h : i < ks.length) (h2 : i < vs.length) z, D.atKey (KY ks[i]) z = .held vs[i]
theorem WdI.nil : WdI (.map [] : DV) [] [] := ⟨Maps.tidy_empty, fun x => rfl, rfl, fun i h => by simp at h⟩
theorem WdI.snoc {D : DV} {ks : List Int} {vs : List Value} (h : WdI D ks vs) {x : Int} (hx : x ∉ ks) (v : Value) : WdI (D.put (KY x) (.held v)) (ks ++ [x]) (vs ++ [v]) := by
  have hl := h.len
  refine ⟨h.tidy.put (ky_key x) _, fun y => ?_, by simp [hl], fun i hi h2 z => ?_⟩
  · by_cases e : y = x
    · subst e; rw [Maps.has_put_same h.tidy.isMap (ky_key _)]; simp
    · rw [Maps.has_put_other (KY_ne e), h.has y]; simp [e]
  · by_cases e : i < ks.length
    · rw [List.getElem_append_left e, List.getElem_append_left (by omega)]
      have hne2 : ks[i] ≠ x := fun k => hx (by rw [← k]; exact List.getElem_mem e)
      rw [Maps.atKey_put_other (KY_ne hne2), h.at' i e (by omega) z]
    · have e2 : i = ks.length := by simp at hi; omega
      subst e2
      have h3 : (ks ++ [x])[ks.length] = x := by rw [List.getElem_append_right (Nat.le_refl _)]; simp
      have h4 : (vs ++ [v])[ks.length]'h2 = v := by rw [List.getElem_append_right (by omega)]; simp [hl]
      rw [h3, h4, Maps.atKey_put_same h.tidy.isMap (ky_key _)]
structure WiA (base : Nat) (wr : World) (v : Value) (L : List (Int × List Int)) (D : DV) (vs : List Value) : Prop where
  wd : WdI D (L.map (·.1)) vs
  own : ∀ i (h1 : i < vs.length) (h2 : i < L.length), Own base wr vs[i] L[i].2 ∧ Apart vs[i] v
theorem WiA.since {base : Nat} {wr w2 : World} {v : Value} {L : List (Int × List Int)} {D : DV} {vs : List Value} (h : WiA base wr v L D vs) (k : Since wr w2) : WiA base w2 v L D vs := ⟨h.wd, fun i h1 h2 => ⟨(h.own i h1 h2).1.since k, (h.own i h1 h2).2⟩⟩
/-- Of a search: the row of the states found, the map of their words (which lie in other blocks than the row), the machine's box. -/
structure LiW (w : World) (cs : Array Value) (wr : World) (v : Value) (L : List (Int × List Int)) : Prop where
  own : Own (w.heap.size + 2) wr v (L.map (·.1))
  map : ∃ n D vs, wr.ownsMap Try.prog 3 HV (w.heap.size + 1) n D ∧ WiA (w.heap.size + 2) wr v L D vs ∧ n ≤ L.length
  box : Blk wr w.heap.size 114 cs
  since : Since w wr
theorem LiW.since' {w wr w2 : World} {cs : Array Value} {v : Value} {L : List (Int × List Int)} (h : LiW w cs wr v L) (k : Since wr w2) : LiW w cs w2 v L := by
  obtain ⟨n, D, vs, h1, h2, h3⟩ := h.map
  exact ⟨h.own.since k, ⟨n, D, vs, keptMapV h1 k, h2.since k, h3⟩, h.box.since k, h.since.trans k⟩
theorem keepLi {b : Nat} {w5 w6 w7 : World} {v v7 u : Value} {ys : List Int} (hg6 : w5.grownBy w6 (some (b + 1))) (hg7 : w6.grownBy w7 v.ownBlock) (hn7 : NewB w6 v v7) (hu : Own (b + 2) w5 u ys) (hap : Apart u v) : Own (b + 2) w7 u ys ∧ Apart u v7 := by
  have h6 : Own (b + 2) w6 u ys := ⟨hu.1, hu.2.kept hg6 (.inr (fun e => by have := (hu.2.lt _ e).1; omega))⟩
  exact ⟨⟨h6.1, h6.2.kept hg7 hap⟩, hap.newB hn7 (fun g e => (h6.2.lt g e).2)⟩
theorem LiW.snoc {w wF w5 w6 w7 : World} {cs : Array Value} {v v5 v7 : Value} {L : List (Int × List Int)} {n : Nat} {D : DV} {vs : List Value} {x : Int} {ws : List Int} (h : LiW w cs wF v L)
    (hmF : wF.ownsMap Try.prog 3 HV (w.heap.size + 1) n D) (HD : WiA (w.heap.size + 2) wF v L D vs) (hn : n ≤ L.length) (hx : x ∉ L.map (·.1)) (hc5 : Since wF w5) (ho5 : Own wF.heap.size w5 v5 ws)
    (hm6 : w6.ownsMap Try.prog 3 HV (w.heap.size + 1) (n + 1) (D.put (KY x) (.held v5))) (hg6 : w5.grownBy w6 (some (w.heap.size + 1)))
    (ho7 : Own (w.heap.size + 2) w7 v7 (L.map (·.1) ++ [x])) (hg7 : w6.grownBy w7 v.ownBlock) (hn7 : NewB w6 v v7) : LiW w cs w7 v7 (L ++ [(x, ws)]) := by
  have hlt := hmF.lt
  have hvb : ∀ j, v.ownBlock = some j → w.heap.size + 2 ≤ j := fun j hj => (h.own.2.lt j hj).1
  have hap5 : Apart v5 v := by
    cases h5 : v5.ownBlock with
    | none => exact .inl h5
    | some g => exact .inr (fun e => by
      have h1 := (ho5.2.lt g h5).1
      have h2 := (h.own.2.lt g (by rw [← e, h5])).2
      omega)
  have hl := HD.wd.len
  refine ⟨by rw [List.map_append]; exact ho7, ⟨n + 1, _, vs ++ [v5], hm6.kept hg7 (fun e => by have := hvb _ e.symm; omega), ⟨?_, fun i h1 h2 => ?_⟩, by simp; omega⟩, ?_, ?_⟩
  · rw [List.map_append]; exact HD.wd.snoc hx v5
  · have hl2 : vs.length = L.length := by simpa using hl
    by_cases e : i < L.length
    · rw [List.getElem_append_left (by omega), List.getElem_append_left e]
      exact keepLi hg6 hg7 hn7 ((HD.own i (by omega) e).1.since hc5) (HD.own i (by omega) e).2
    · have e2 : i = L.length := by simp at h2; omega
      subst e2
      have h3 : (vs ++ [v5])[L.length]'h1 = v5 := by rw [List.getElem_append_right (by omega)]; simp [hl2]
      have h4 : (L ++ [(x, ws)])[L.length] = (x, ws) := by rw [List.getElem_append_right (Nat.le_refl _)]; simp
      rw [h3, h4]
      exact keepLi hg6 hg7 hn7 (ho5.mono (by omega)) hap5
  · have b5 := h.box.since hc5
    have b6 : Blk w6 w.heap.size 114 cs := (hg6.block _ b5.lt (by intro e; injection e with e; omega)).trans b5
    exact (hg7.block _ b6.lt (by intro e; have := hvb _ e.symm; omega)).trans b6
  · exact ((h.since.trans hc5).grown hg6 (fun j hj => by injection hj with hj; omega)).grown hg7 (fun j hj => by have := hvb j hj; omega)
set_option maxHeartbeats 8000000 in
set_option maxRecDepth 100000 in
theorem lwordI_any (A : Aut) (f : Nat → Bool) (BA BL : Nat) (R : Option (List Int)) (w : World) (hv : ValidA A) (h12 : A.ac.length ≤ 12) (h : MchA A f BA BL w)
    (hR : lwRun (stepF A f) (accZ1 A) (A.ac.length + 1) 0 [(A.st, [])] = some R) : Calls Try.prog 108 #[mchV A BA BL] w (WdOut w R) := by
  have HAC : Hid (∀ s W, Since w W → InA A s → Calls Try.prog 162 #[.int .i64 s, .pointer (some ⟨BA, 0, none⟩)] W fun e w' => e = .returned (.bool (accZ1 A s)) ∧ Since W w') := fun s W hW hs => accF_any A f BA BL s hs W (h.since hW)
  have HNC : Hid (∀ s (k : Nat) W, Since w W → InA A s → k < 9 → Calls Try.prog 163 #[.int .i64 s, .int .i64 (k : Nat), .pointer (some ⟨BA, 0, none⟩), .pointer (some ⟨BL, 0, none⟩)] W (NxOutI (stepF A f) s k W)) := fun s k W hW hs hk => nextF_any A f BA BL hv s k hs hk W (h.since hW)
  have HLH : Hid (LwH (stepF A f) A.ac.length (InA A)) := ⟨fun s k x hk hs hx => stepF_in hv f s k x hk hs hx, fun l hl hq => pigeon_le hl hq⟩
  have HRa := Lib.hid hR
  have HI0 : Hid (LwI (InA A) [(A.st, ([] : List Int))]) := LwI.start (inA_st hv)
  have HIS : InI A.st := inA_in hv _ (inA_st hv)
  have hk0 := keyOf_int_mk (k := 3) Try.underlying3 (wf_in HIS)
  have HIN : Hid (∀ s, InA A s → InI s) := fun s hs => inA_in hv s hs
  obtain ⟨N, hN⟩ : ∃ N, N = A.ac.length := ⟨_, rfl⟩
  rw [← hN] at HLH HRa h12
  have HPL : Hid (N ≤ 12) := h12
  clear hN hR hv h
  obtain ⟨s0, hs00⟩ : ∃ s, s = A.st := ⟨_, rfl⟩
  unfold mchV
  rw [← hs00] at HI0 HIS hk0 HRa ⊢
  clear hs00
  obtain ⟨F1, hF1⟩ : ∃ F, F = Value.func (.func 162) #[] #[.pointer (some ⟨BA, 0, none⟩)] := ⟨_, rfl⟩
  obtain ⟨F2, hF2⟩ : ∃ F, F = Value.func (.func 163) #[] #[.pointer (some ⟨BA, 0, none⟩), .pointer (some ⟨BL, 0, none⟩)] := ⟨_, rfl⟩
  rw [← hF1, ← hF2]
  have HF1 := Lib.hid hF1
  have HF2 := Lib.hid hF2
  clear hF1 hF2
  obtain ⟨y, hy⟩ : ∃ y, y = w.alloc (.cells #[.int .i64 s0, F1, F2] 114) := ⟨_, rfl⟩
  have hs0 : Since w y := by rw [hy]; exact (Since.refl w).alloc _
  have hz : y.heap.size = w.heap.size + 1 := by rw [hy]; simp
  have B0 : Hid (Blk y w.heap.size 114 #[.int .i64 s0, F1, F2]) := by rw [hy]; exact Blk.new rfl _ _
  have hmm := @run_makeMap Try.prog
  have hal : Since y (y.alloc (.map #[] 0)) := (Since.refl y).alloc _
  have hmap0 : (y.alloc (.map #[] 0)).ownsMap Try.prog 3 HV y.heap.size 0 (.map []) := World.ownsMap_made _ _ _ _
  rw [hz] at hmap0
  have HM0 := Lib.hid hmap0
  have B1 := Lib.hid (B0.out.since hal)
  have HS1 := Lib.hid (hs0.trans hal)
  obtain ⟨⟨p0, p1, p2⟩, _⟩ := B1.out.threeA
  rw [hy] at p0 p1 p2 HM0 B1 HS1
  have e1 : (w.alloc (.cells #[.int .i64 s0, F1, F2] 114)).heap.size = w.heap.size + 1 := by simp
  clear hmap0 hal hy B0
  go_enter Try.func108, Try.ntmps108
  go_upto_region 2 with (refine wpList_insert_own (o := ⟨none, _, _, _, _, _⟩) _ rfl (.tmp 13) (.tmp 15) (.const (.slice none 0 0)) 157 rfl 3 24 lawI Try.underlying157 HV (w.heap.size + 1) 0 (.map []) rfl HM0.out (by unfold maxLen; omega) _ _ (KY s0) rfl rfl hk0 (.held (.slice none 0 0)) [] rfl ?_; intro w1 hm1 hg1)
  have HS2 := Lib.hid (HS1.out.grown hg1 (fun k hk => by injection hk with hk; omega))
  have B2 : Hid (Blk w1 w.heap.size 114 #[.int .i64 s0, F1, F2]) := (hg1.block _ B1.out.lt (by intro e; injection e with e; omega)).trans B1.out
  have HM1 := Lib.hid hm1
  have hz1 : w.heap.size + 2 ≤ w1.heap.size := by have := hm1.lt; omega
  clear p0 p1 p2 hm1 hg1
  obtain ⟨⟨p0, p1, p2⟩, _⟩ := B2.out.threeA
  go_wp2_with fail
  have HW : Hid (LiW w #[.int .i64 s0, F1, F2] (w1.alloc (.cells #[.int .i64 s0] 3)) (.slice (some ⟨w1.heap.size, 0, none⟩) 1 1) [(s0, [])]) := by
    have hal2 : Since w1 (w1.alloc (.cells #[.int .i64 s0] 3)) := (Since.refl w1).alloc _
    refine ⟨ownT_lit 3 _ w1 hz1 s0 HIS, ⟨1, _, [.slice none 0 0], keptMapV HM1.out hal2, ⟨WdI.nil.snoc (by simp) _, fun i h1 h2 => ?_⟩, Nat.le_refl _⟩, B2.out.since hal2, HS2.out.trans hal2⟩
    have hi0 : i = 0 := by simp at h1; omega
    subst hi0
    exact ⟨⟨fun x hx => by simp at hx, World.ownsRow_nil _ _ _ _⟩, .inl rfl⟩
  clear p0 p1 p2 HM0 B1 HS1 B2 HM1 HS2 hk0
  go_loopw [5, 6] (fun v i wr => ∃ (p : Nat) (L : List (Int × List Int)), p ≤ L.length ∧ 0 < L.length ∧ i = .int .i64 p ∧ Hid (LwI (InA A) L) ∧ Hid (lwRun (stepF A f) (accZ1 A) (N + 1 - p) p L = some R) ∧ Hid (LiW w #[.int .i64 s0, F1, F2] wr v L)) (fun _ i _ => N + 1 - (intOf i).toNat)
  case atStart => exact ⟨0, _, Nat.zero_le _, by simp, rfl, HI0.out, HRa.out, HW.out⟩
  case round =>
    obtain ⟨p, L, hp, hL0, rfl, HI, HRp, HWk⟩ := hrel
    have HLn : Hid (L.length ≤ N) := HI.out.room HLH.out
    have hNl := HPL.out
    obtain ⟨g, cap, hv1, hg, hgl⟩ := OwnNt.len (e := 3) HWk.out.own (by simpa using hL0)
    rw [List.length_map] at hv1
    subst hv1
    by_cases hlt : p < L.length
    · have hpi : (p : Int) < (L.length : Int) := by omega
      have hp0 : (0 : Int) ≤ (p : Int) := by omega
      obtain ⟨ws, hws⟩ : ∃ ws, ws = L[p].2 := ⟨_, rfl⟩
      obtain ⟨a0, ha0⟩ : ∃ a, a = L[p].1 := ⟨_, rfl⟩
      have HP : Hid (L[p]? = some (a0, ws)) := by
        unfold Hid
        rw [List.getElem?_eq_getElem hlt, hws, ha0]
      have HQ : Hid (InA A a0) := by
        rw [ha0]
        exact HI.out.all L[p].1 (List.mem_map.2 ⟨L[p], List.getElem_mem hlt, rfl⟩)
      have c0 : wr.cell? ⟨g, p, none⟩ = some (.int .i64 a0) := by
        have h3 := OwnNt.cell (e := 3) HWk.out.own (by simp) p (by simpa using hlt)
        rw [List.getElem_map, ← ha0] at h3
        exact h3
      obtain ⟨n, D, vs, hm, hD, hnl⟩ := HWk.out.map
      have hvl : vs.length = L.length := by simpa using hD.wd.len
      obtain ⟨vp, hvp⟩ : ∃ v, v = vs[p]'(by omega) := ⟨_, rfl⟩
      have HOP : Hid (Own (w.heap.size + 2) wr vp ws ∧ Apart vp (.slice (some ⟨g, 0, none⟩) L.length cap)) := by
        have h1 := hD.own p (by omega) hlt
        rw [← hvp, ← hws] at h1
        exact h1
      have hkp := keyOf_int_mk (k := 3) Try.underlying3 (wf_in (HIN.out _ HQ.out))
      obtain ⟨v', ps, hrun, hv'⟩ := hm.lookup lawI Try.underlying157 (zeroIs wr) (zd := .held (.slice none 0 0)) (zp := []) rfl hkp
      have hat : D.atKey (KY a0) (.held (.slice none 0 0)) = .held vp := by
        have h1 := hD.wd.at' p (by simpa using hlt) (by omega) (.held (.slice none 0 0))
        rw [List.getElem_map, ← ha0, ← hvp] at h1
        exact h1
      have hvv : vp = v' := by
        rw [hat] at hv'
        unfold HV at hv'
        injection hv' with hv'
        have h2 := congrArg Prod.fst hv'
        injection h2 with h2
        exact h2.symm
      subst hvv
      have hwr2 : w.heap.size + 2 ≤ wr.heap.size := by have := hm.lt; omega
      obtain ⟨X, hX⟩ : ∃ X, X = accZ1 A a0 := ⟨_, rfl⟩
      have HXX : Hid (accZ1 A a0 = X) := hX.symm
      have HACp : Hid (∀ W, Since w W → Calls Try.prog 162 #[.int .i64 a0, .pointer (some ⟨BA, 0, none⟩)] W fun e w' => e = .returned (.bool X) ∧ Since W w') := fun W h => by rw [hX]; exact HAC.out a0 W h HQ.out
      have HK6 : Hid (∀ w', Since wr w' → w'.cell? ⟨w.heap.size, 0, none⟩ = some (.int .i64 s0) ∧ w'.cell? ⟨w.heap.size, 1, none⟩ = some (.func (.func 162) #[] #[.pointer (some ⟨BA, 0, none⟩)]) ∧ w'.cell? ⟨w.heap.size, 2, none⟩ = some F2 ∧ w'.cell? ⟨g, p, none⟩ = some (.int .i64 a0)) := by
        intro w' hs
        obtain ⟨⟨r0, r1, r2⟩, _⟩ := (HWk.out.box.since hs).threeA
        exact ⟨r0, by rw [← HF1.out]; exact r1, r2, (Below.cell hs (p := ⟨g, p, none⟩) hgl).trans c0⟩
      clear hX hws ha0 hD hat hv' hvp hm
      go_wp2_with fail
      refine wp_region_held_drew (S := (fun w' => w'.cell? ⟨w.heap.size, 0, none⟩ = some (.int .i64 s0) ∧ w'.cell? ⟨w.heap.size, 1, none⟩ = some (.func (.func 162) #[] #[.pointer (some ⟨BA, 0, none⟩)]) ∧ w'.cell? ⟨w.heap.size, 2, none⟩ = some F2 ∧ w'.cell? ⟨g, p, none⟩ = some (.int .i64 a0))) (by kernel_rfl) (HK6.out _ (Since.refl _).drew) (fun hHeld => ?_)
      refine take_yes 0 (some 32) (v := ?_) rfl (by kernel_rfl) (by kernel_rfl) (by kernel_rfl) (by kernel_rfl) (fun _ _ _ h => h) (by rfl) (by assumption) ?_ ?_
      rotate_left
      · (intro w' hSw; (try dsimp only at hSw); go_simp; try with_reducible rfl)
      try simp only [Act.put, List.setIfInBounds_toArray, List.set_cons_zero, List.set_cons_succ]
      refine take_yes 1 (some 33) (v := ?_) rfl (by kernel_rfl) (by kernel_rfl) (by kernel_rfl) (by kernel_rfl) (fun _ _ _ h => h) (by rfl) (by assumption) ?_ ?_
      rotate_left
      · (intro w' hSw; (try dsimp only at hSw); go_simp; try with_reducible rfl)
      try simp only [Act.put, List.setIfInBounds_toArray, List.set_cons_zero, List.set_cons_succ]
      refine take_yes 2 (some 34) (v := ?_) rfl (by kernel_rfl) (by kernel_rfl) (by kernel_rfl) (by kernel_rfl) (fun _ _ _ h => h) (by rfl) (by assumption) ?_ ?_
      rotate_left
      · (intro w' hSw; (try dsimp only at hSw); go_simp; try with_reducible rfl)
      try simp only [Act.put, List.setIfInBounds_toArray, List.set_cons_zero, List.set_cons_succ]
      refine take_yes 3 (some 35) (v := ?_) rfl (by kernel_rfl) (by kernel_rfl) (by kernel_rfl) (by kernel_rfl) (fun _ _ _ h => h) (by rfl) (by assumption) ?_ ?_
      rotate_left
      · (intro w' hSw; (try dsimp only at hSw); go_simp; try with_reducible rfl)
      try simp only [Act.put, List.setIfInBounds_toArray, List.set_cons_zero, List.set_cons_succ]
      refine take_yes 4 (some 36) (v := ?_) rfl (by kernel_rfl) (by kernel_rfl) (by kernel_rfl) (by kernel_rfl) (fun _ _ _ h => h) (by rfl) (by assumption) ?_ ?_
      rotate_left
      · (intro w' hSw; (try dsimp only at hSw); go_simp; try with_reducible rfl)
      try simp only [Act.put, List.setIfInBounds_toArray, List.set_cons_zero, List.set_cons_succ]
      refine take_yes 5 (some 37) (v := ?_) rfl (by kernel_rfl) (by kernel_rfl) (by kernel_rfl) (by kernel_rfl) (fun _ _ _ h => h) (by rfl) (by assumption) ?_ ?_
      rotate_left
      · (intro w' hSw; (try dsimp only at hSw); go_simp; try with_reducible rfl)
      try simp only [Act.put, List.setIfInBounds_toArray, List.set_cons_zero, List.set_cons_succ]
      refine take_run 6 rfl (by kernel_rfl) (by rfl) (fun K hK => ?_)
      go_simp
      refine (HACp.out _ (HWk.out.since.trans (Since.refl _).drew)).mono ?_
      rintro e w2 ⟨rfl, hq⟩
      have hcA := Since.of_drew hq
      refine hK.out _ _ (HK6.out _ hcA) (fun hHeld2 => ?_)
      clear hK K hHeld hq
      try simp only [Act.put, List.setIfInBounds_toArray, List.set_cons_zero, List.set_cons_succ]
      refine wpAnyH_done (by kernel_rfl) ?_ _
      clear hHeld2
      have HWA := Lib.hid (HWk.out.since' hcA)
      have HOA : Hid (Own (w.heap.size + 2) w2 vp ws ∧ Apart vp (.slice (some ⟨g, 0, none⟩) L.length cap)) := ⟨HOP.out.1.since hcA, HOP.out.2⟩
      clear HK6 hcA c0 hrun hkp HACp
      cases X with
      | true =>
        have HF : Hid (R = some ws) := by
          have h1 := HRp.out
          rw [show N + 1 - p = (N - p) + 1 from by have := HLn.out; omega, lwRun_acc HP.out HXX.out] at h1
          injection h1 with h1; exact h1.symm
        go_wp2_with fail
        go_ret2
        rw [HF.out]
        exact ⟨_, rfl, HOA.out.1.mono (by omega), HWA.out.since⟩
      | false =>
        have HR1 : Hid (lwRun (stepF A f) (accZ1 A) (N - p) (p + 1) (lwRow (stepF A f) a0 ws (9 - 0) L) = some R) := by
          have h1 := HRp.out
          rw [show N + 1 - p = (N - p) + 1 from by have := HLn.out; omega, lwRun_go HP.out HXX.out] at h1
          exact h1
        clear HRp HXX HLn HWk HOP
        go_wp2_with fail
        go_loopw [5, 40] (fun v i wr => ∃ (k : Nat) (L : List (Int × List Int)), k ≤ 9 ∧ p < L.length ∧ i = .int .i64 k ∧ Hid (LwI (InA A) L) ∧ Hid (L[p]? = some (a0, ws)) ∧ Hid (lwRun (stepF A f) (accZ1 A) (N - p) (p + 1) (lwRow (stepF A f) a0 ws (9 - k) L) = some R) ∧ Hid (LiW w #[.int .i64 s0, F1, F2] wr v L) ∧ Hid (Own (w.heap.size + 2) wr vp ws ∧ Apart vp v)) (fun _ i _ => 9 - (intOf i).toNat)
        case atStart => exact ⟨0, L, Nat.zero_le _, hlt, rfl, HI.out, HP.out, HR1.out, HWA.out, HOA.out⟩
        case round =>
          clear HI HP HR1 HWA HOA hg hgl hwr2 hlt hpi hL0 hp hnl hvl
          obtain ⟨k, L, hk, hpL, rfl, HIk, HP, HRk, HWk, HOP⟩ := hrel
          have HLn : Hid (L.length ≤ N) := HIk.out.room HLH.out
          have hLn := HLn.out
          obtain ⟨g, cap, hv1, hg, hgl⟩ := OwnNt.len (e := 3) HWk.out.own (by simp; omega)
          rw [List.length_map] at hv1
          subst hv1
          by_cases hkt : k < 9
          · have hki : (k : Int) < 9 := by omega
            have hk0 : (0 : Int) ≤ (k : Int) := by omega
            have hp0 : (0 : Int) ≤ (p : Int) := by omega
            have hpi2 : (p : Int) < (L.length : Int) := by omega
            have c0 : wr.cell? ⟨g, p, none⟩ = some (.int .i64 a0) := by
              obtain ⟨h1, h2⟩ := List.getElem?_eq_some_iff.1 HP.out
              have h3 := OwnNt.cell (e := 3) HWk.out.own (by simp) p (by simpa using hpL)
              rw [List.getElem_map, h2] at h3
              exact h3
            have HK6 : Hid (∀ w', Since wr w' → w'.cell? ⟨w.heap.size, 0, none⟩ = some (.int .i64 s0) ∧ w'.cell? ⟨w.heap.size, 1, none⟩ = some F1 ∧ w'.cell? ⟨w.heap.size, 2, none⟩ = some (.func (.func 163) #[] #[.pointer (some ⟨BA, 0, none⟩), .pointer (some ⟨BL, 0, none⟩)]) ∧ w'.cell? ⟨g, p, none⟩ = some (.int .i64 a0)) := by
              intro w' hs
              obtain ⟨⟨r0, r1, r2⟩, _⟩ := (HWk.out.box.since hs).threeA
              exact ⟨r0, r1, by rw [← HF2.out]; exact r2, (Below.cell hs (p := ⟨g, p, none⟩) hgl).trans c0⟩
            clear c0
            go_wp2_with fail
            refine wp_region_held_drew (S := (fun w' => w'.cell? ⟨w.heap.size, 0, none⟩ = some (.int .i64 s0) ∧ w'.cell? ⟨w.heap.size, 1, none⟩ = some F1 ∧ w'.cell? ⟨w.heap.size, 2, none⟩ = some (.func (.func 163) #[] #[.pointer (some ⟨BA, 0, none⟩), .pointer (some ⟨BL, 0, none⟩)]) ∧ w'.cell? ⟨g, p, none⟩ = some (.int .i64 a0))) (by kernel_rfl) (HK6.out _ (Since.refl _).drew) (fun hHeld => ?_)
            refine take_yes 0 (some 44) (v := ?_) rfl (by kernel_rfl) (by kernel_rfl) (by kernel_rfl) (by kernel_rfl) (fun _ _ _ h => h) (by rfl) (by assumption) ?_ ?_
            rotate_left
            · (intro w' hSw; (try dsimp only at hSw); go_simp; try with_reducible rfl)
            try simp only [Act.put, List.setIfInBounds_toArray, List.set_cons_zero, List.set_cons_succ]
            refine take_yes 1 (some 45) (v := ?_) rfl (by kernel_rfl) (by kernel_rfl) (by kernel_rfl) (by kernel_rfl) (fun _ _ _ h => h) (by rfl) (by assumption) ?_ ?_
            rotate_left
            · (intro w' hSw; (try dsimp only at hSw); go_simp; try with_reducible rfl)
            try simp only [Act.put, List.setIfInBounds_toArray, List.set_cons_zero, List.set_cons_succ]
            refine take_yes 2 (some 46) (v := ?_) rfl (by kernel_rfl) (by kernel_rfl) (by kernel_rfl) (by kernel_rfl) (fun _ _ _ h => h) (by rfl) (by assumption) ?_ ?_
            rotate_left
            · (intro w' hSw; (try dsimp only at hSw); go_simp; try with_reducible rfl)
            try simp only [Act.put, List.setIfInBounds_toArray, List.set_cons_zero, List.set_cons_succ]
            refine take_yes 3 (some 47) (v := ?_) rfl (by kernel_rfl) (by kernel_rfl) (by kernel_rfl) (by kernel_rfl) (fun _ _ _ h => h) (by rfl) (by assumption) ?_ ?_
            rotate_left
            · (intro w' hSw; (try dsimp only at hSw); go_simp; try with_reducible rfl)
            try simp only [Act.put, List.setIfInBounds_toArray, List.set_cons_zero, List.set_cons_succ]
            refine take_yes 4 (some 48) (v := ?_) rfl (by kernel_rfl) (by kernel_rfl) (by kernel_rfl) (by kernel_rfl) (fun _ _ _ h => h) (by rfl) (by assumption) ?_ ?_
            rotate_left
            · (intro w' hSw; (try dsimp only at hSw); go_simp; try with_reducible rfl)
            try simp only [Act.put, List.setIfInBounds_toArray, List.set_cons_zero, List.set_cons_succ]
            refine take_yes 5 (some 49) (v := ?_) rfl (by kernel_rfl) (by kernel_rfl) (by kernel_rfl) (by kernel_rfl) (fun _ _ _ h => h) (by rfl) (by assumption) ?_ ?_
            rotate_left
            · (intro w' hSw; (try dsimp only at hSw); go_simp; try with_reducible rfl)
            try simp only [Act.put, List.setIfInBounds_toArray, List.set_cons_zero, List.set_cons_succ]
            refine take_yes 6 (some 50) (v := ?_) rfl (by kernel_rfl) (by kernel_rfl) (by kernel_rfl) (by kernel_rfl) (fun _ _ _ h => h) (by rfl) (by assumption) ?_ ?_
            rotate_left
            · (intro w' hSw; (try dsimp only at hSw); go_simp; try with_reducible rfl)
            try simp only [Act.put, List.setIfInBounds_toArray, List.set_cons_zero, List.set_cons_succ]
            refine take_run 7 rfl (by kernel_rfl) (by rfl) (fun K hK => ?_)
            go_simp
            refine (HNC.out a0 k _ (HWk.out.since.trans (Since.refl _).drew) HQ.out hkt).mono ?_
            rintro e w2 ⟨⟨z, ok, rfl, hst, hzi⟩, hq⟩
            have hc8 := Since.of_drew hq
            refine hK.out _ _ (HK6.out _ hc8) (fun hHeld2 => ?_)
            clear hK K hHeld
            try simp only [Act.put, List.setIfInBounds_toArray, List.set_cons_zero, List.set_cons_succ]
            refine take_yes 8 (some 43) (v := ?_) rfl (by kernel_rfl) (by kernel_rfl) (by kernel_rfl) (by kernel_rfl) (fun _ _ _ h => h) (by rfl) (by assumption) ?_ ?_
            rotate_left
            · (intro w' hSw; (try dsimp only at hSw); go_simp; try with_reducible rfl)
            try simp only [Act.put, List.setIfInBounds_toArray, List.set_cons_zero, List.set_cons_succ]
            refine take_yes 9 (some 52) (v := ?_) rfl (by kernel_rfl) (by kernel_rfl) (by kernel_rfl) (by kernel_rfl) (fun _ _ _ h => h) (by rfl) (by assumption) ?_ ?_
            rotate_left
            · (intro w' hSw; (try dsimp only at hSw); go_simp; try with_reducible rfl)
            try simp only [Act.put, List.setIfInBounds_toArray, List.set_cons_zero, List.set_cons_succ]
            refine take_yes 10 (some 53) (v := ?_) rfl (by kernel_rfl) (by kernel_rfl) (by kernel_rfl) (by kernel_rfl) (fun _ _ _ h => h) (by rfl) (by assumption) ?_ ?_
            rotate_left
            · (intro w' hSw; (try dsimp only at hSw); go_simp; try with_reducible rfl)
            try simp only [Act.put, List.setIfInBounds_toArray, List.set_cons_zero, List.set_cons_succ]
            refine take_yes 11 (some 9) (v := ?_) rfl (by kernel_rfl) (by kernel_rfl) (by kernel_rfl) (by kernel_rfl) (fun _ _ _ h => h) (by rfl) (by assumption) ?_ ?_
            rotate_left
            · (intro w' hSw; (try dsimp only at hSw); go_simp; try with_reducible rfl)
            try simp only [Act.put, List.setIfInBounds_toArray, List.set_cons_zero, List.set_cons_succ]
            refine take_yes 12 (some 10) (v := ?_) rfl (by kernel_rfl) (by kernel_rfl) (by kernel_rfl) (by kernel_rfl) (fun _ _ _ h => h) (by rfl) (by assumption) ?_ ?_
            rotate_left
            · (intro w' hSw; (try dsimp only at hSw); go_simp; try with_reducible rfl)
            try simp only [Act.put, List.setIfInBounds_toArray, List.set_cons_zero, List.set_cons_succ]
            refine wpAnyH_done (by kernel_rfl) ?_ _
            clear hHeld2
            have HST := Lib.hid hst
            have HWF := Lib.hid (HWk.out.since' hc8)
            have HOPF : Hid (Own (w.heap.size + 2) w2 vp ws ∧ Apart vp (.slice (some ⟨g, 0, none⟩) L.length cap)) := ⟨HOP.out.1.since hc8, HOP.out.2⟩
            obtain ⟨n, D, vs, hm, hD, hnl⟩ := HWF.out.map
            have hwF2 : w.heap.size + 2 ≤ w2.heap.size := by have := hm.lt; omega
            have HMF := Lib.hid hm
            have HDF := Lib.hid hD
            have hkz := keyOf_int_mk (k := 3) Try.underlying3 (wf_in hzi)
            obtain ⟨zd, HZD⟩ : ∃ d : Bool, Hid (d = decide (z ∈ L.map (·.1))) := ⟨_, rfl⟩
            have HHS : Hid (Maps.has D (KY z) = zd) := by
              unfold Hid
              rw [hD.wd.has z]; exact HZD.out.symm
            clear hm hD hst hq HK6 HWk HOP hc8 hgl
            cases ok with
            | false =>
              have HRn : Hid (lwRun (stepF A f) (accZ1 A) (N - p) (p + 1) (lwRow (stepF A f) a0 ws (9 - (k + 1)) L) = some R) := by
                have h1 := HRk.out
                rw [lwRow_none _ _ _ k hkt L (by rw [HST.out]; rfl)] at h1
                exact h1
              go_wp2_with (at_lookup; refine wpList_lookup_own_ok _ rfl (.tmp 55) (.tmp 56) 157 rfl 3 24 lawI Try.underlying157 HV (zeroIs _) (.held (.slice none 0 0)) [] rfl (w.heap.size + 1) n D rfl HMF.out (.int .i64 z) (KY z) rfl hkz ?_; intro c ps hcv; clear hcv; rw [HHS.out])
              go_roundw
              case rel => exact ⟨k + 1, L, by omega, hpL, by go_num, HIk.out, HP.out, HRn.out, HWF.out, HOPF.out⟩
              case measure => simp [intOf]; omega
            | true =>
              have hsz : stepF A f a0 k = some z := by rw [HST.out]; rfl
              cases zd with
              | true =>
                have HRn : Hid (lwRun (stepF A f) (accZ1 A) (N - p) (p + 1) (lwRow (stepF A f) a0 ws (9 - (k + 1)) L) = some R) := by
                  have h1 := HRk.out
                  rw [lwRow_old _ _ _ k hkt L z hsz (of_decide_eq_true HZD.out.symm)] at h1
                  exact h1
                go_wp2_with (at_lookup; refine wpList_lookup_own_ok _ rfl (.tmp 55) (.tmp 56) 157 rfl 3 24 lawI Try.underlying157 HV (zeroIs _) (.held (.slice none 0 0)) [] rfl (w.heap.size + 1) n D rfl HMF.out (.int .i64 z) (KY z) rfl hkz ?_; intro c ps hcv; clear hcv; rw [HHS.out])
                go_roundw
                case rel => exact ⟨k + 1, L, by omega, hpL, by go_num, HIk.out, HP.out, HRn.out, HWF.out, HOPF.out⟩
                case measure => simp [intOf]; omega
              | false =>
                have hnew : z ∉ L.map (·.1) := of_decide_eq_false HZD.out.symm
                have HR2 : Hid (lwRun (stepF A f) (accZ1 A) (N - p) (p + 1) (lwRow (stepF A f) a0 ws (9 - (k + 1)) (L ++ [(z, ws ++ [(k : Int)])])) = some R) := by
                  have h1 := HRk.out
                  rw [lwRow_new _ _ _ k hkt L z hsz hnew] at h1
                  exact h1
                have HI2 : Hid (LwI (InA A) (L ++ [(z, ws ++ [(k : Int)])])) := HIk.out.snoc HP.out hnew (HLH.out.step a0 k z hkt HQ.out hsz) hkt
                have hnm : n < maxLen := by unfold maxLen; omega
                have hws12 : ws.length ≤ 12 := by have h1 := HIk.out.short p _ HP.out; simp at h1; omega
                have hwl : ws.length ≤ 1048577 := by omega
                have hkin : InI (k : Int) := by unfold InI; omega
                have HG := Lib.hid hg
                clear HZD hsz
                go_upto_region 15 with (at_lookup; refine wpList_lookup_own_ok _ rfl (.tmp 55) (.tmp 56) 157 rfl 3 24 lawI Try.underlying157 HV (zeroIs _) (.held (.slice none 0 0)) [] rfl (w.heap.size + 1) n D rfl HMF.out (.int .i64 z) (KY z) rfl hkz ?_; intro c ps hcv; clear hcv; rw [HHS.out])
                go_wp2_with fail
                refine (copiedI_any vp ws _ HOPF.out.1.at hwl).mono ?_
                rintro e w4 ⟨vc, rfl, hoc, hq4⟩
                have HVC := Lib.hid hoc
                have hz4 : w2.heap.size ≤ w4.heap.size := hq4.size
                clear hoc
                go_upto_region 16 with (first
                  | (at_builtin; go_must (refine wpList_append_at rfl (.tmp 68) (.tmp 70) rfl w2.heap.size vc ws (by first | rfl | simp [Act.eval]) HVC.out (k : Int) (by first | rfl | simp [Act.eval]) hkin (by omega) hz4 ?_); intro v5 w5 ho5 hg5 hn5; have HO5 := Lib.hid ho5; have HC5 : Hid (Since w2 w5) := Since.grown hq4 hg5 (fun j hj => (HVC.out.2.lt j hj).1); clear ho5 hg5 hn5)
                  | (at_mapUpdate; refine wpList_mapUpdate_own _ rfl (.tmp 65) (.tmp 66) (.tmp 71) 157 rfl 3 24 lawI Try.underlying157 HV (w.heap.size + 1) n D rfl (keptMapV HMF.out HC5.out) hnm (.int .i64 z) v5 (KY z) rfl rfl hkz (.held v5) [] rfl ?_; intro w6 hm6 hg6))
                have HM6 := Lib.hid hm6
                have HG6 := Lib.hid hg6
                have HO6 : Hid (Own (w.heap.size + 2) w6 (.slice (some ⟨g, 0, none⟩) L.length cap) (L.map (·.1))) := OwnNt.kept (e := 3) (HWF.out.own.since HC5.out) hg6 (.inr (by intro e; have hj2 : some g = some (w.heap.size + 1) := e; injection hj2 with e; have := HG.out; omega))
                have hz6 : w.heap.size + 2 ≤ w6.heap.size := by have := HM6.out.lt; omega
                have hlen : (L.map (·.1)).length ≤ 4000000 := by rw [List.length_map]; omega
                clear hm6 hg6
                go_wp2_with (at_builtin; go_must (refine wpList_append_at rfl (.tmp 72) (.tmp 74) rfl (w.heap.size + 2) (.slice (some ⟨g, 0, none⟩) L.length cap) (L.map (·.1)) (by first | rfl | simp [Act.eval]) HO6.out z (by first | rfl | simp [Act.eval]) hzi hlen hz6 ?_); intro v7 w7 ho7 hg7 hn7)
                have HW7 : Hid (LiW w #[.int .i64 s0, F1, F2] w7 v7 (L ++ [(z, ws ++ [(k : Int)])])) := HWF.out.snoc HMF.out HDF.out hnl hnew HC5.out HO5.out HM6.out HG6.out ho7 hg7 hn7
                have HOP7 : Hid (Own (w.heap.size + 2) w7 vp ws ∧ Apart vp v7) := keepLi HG6.out hg7 hn7 (HOPF.out.1.since HC5.out) HOPF.out.2
                clear ho7 hg7 hn7
                go_roundw
                case rel => exact ⟨k + 1, L ++ [(z, ws ++ [(k : Int)])], by omega, by simp; omega, by go_num, HI2.out, by (unfold Hid; rw [List.getElem?_append_left hpL]; exact HP.out), HR2.out, HW7.out, HOP7.out⟩
                case measure => simp [intOf]; omega
          · have hk9 : k = 9 := by omega
            have HRn : Hid (lwRun (stepF A f) (accZ1 A) (N + 1 - (p + 1)) (p + 1) L = some R) := by
              have h1 := HRk.out
              rw [hk9] at h1
              rw [show N + 1 - (p + 1) = N - p from by omega]
              exact h1
            have hnk : ¬ ((k : Int) < 9) := by omega
            go_wp2
            go_roundw
            case rel => exact ⟨p + 1, L, by omega, by omega, by go_num, HIk.out, HRn.out, HWk.out⟩
            case measure => simp [intOf]; omega
    · have HF : Hid (R = none) := by
        have h1 := HRp.out
        have h3 := HLn.out
        rw [show N + 1 - p = (N - p) + 1 from by omega, lwRun_end (by omega)] at h1
        injection h1 with h1; exact h1.symm
      have hpn : ¬ ((p : Int) < (L.length : Int)) := by omega
      go_wp2
      go_ret2
      rw [HF.out]
      exact ⟨_, rfl, ⟨fun x hx => by simp at hx, World.ownsRow_nil _ _ _ _⟩, HWk.out.since⟩
end Go.Proofs.Ytmaagihfjldgeaa
