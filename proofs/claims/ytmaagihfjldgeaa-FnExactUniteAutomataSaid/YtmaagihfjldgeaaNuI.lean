/- The numbers of a machine's states, the program's (numbers). -/
import Derived.Test.YtmaagihfjldgeaaA3
import Derived.BigQuiet
import Derived.Deep.QuietTactic
import Derived.StillTailTactics
import Derived.Test.YtmaagihfjldgeaaK1
namespace Go.Proofs.Ytmaagihfjldgeaa
set_option maxRecDepth 100000
open Go.ChangeShapes Go.WideShapes Go.ChangeAt Go.RowKit Go.Maps
set_option linter.unusedVariables false
set_option linter.unusedSimpArgs false

theorem lawI : Keyed Try.prog 3 := int_keyed Try.underlying3
theorem zeroI (w : World) : (zeroValue 3).run Try.prog w = .ok (.int .i64 0) w := by kernel_rfl
theorem infoI : (Try.prog.info? 3).map (fun i => (i.zero, i.size, i.bytes)) = some (some (.int .i64 0), 1, 8) := by kernel_rfl
/-- Of a machine whose states are found: the row of the states, the map of their numbers, the machine's box. -/
structure NWI (w : World) (cs : Array Value) (wr : World) (v : Value) (fs : List Int) : Prop where
  own : OwnNt 3 (w.heap.size + 2) wr v fs
  map : ∃ n D, wr.ownsMap Try.prog 3 (plainElem Try.prog 3) (w.heap.size + 1) n D ∧ NumD fs D ∧ n ≤ fs.length
  box : Blk wr w.heap.size 114 cs
  since : Since w wr
theorem NWI.since' {w wr w2 : World} {cs : Array Value} {v : Value} {fs : List Int} (h : NWI w cs wr v fs) (k : Since wr w2) : NWI w cs w2 v fs := by
  obtain ⟨n, D, h1, h2, h3⟩ := h.map
  exact ⟨h.own.since k, ⟨n, D, Since.keptMap h1 k, h2, h3⟩, h.box.since k, h.since.trans k⟩
def NumOutI (w : World) (lim : Nat) (R : Option (List Int)) (e : Ending) (w' : World) : Prop := Since w w' ∧ (match R with
  | some fs => ∃ b n D, e = .returned (.tuple #[.map (some b), .bool true]) ∧ w.heap.size ≤ b ∧ w'.ownsMap Try.prog 3 (plainElem Try.prog 3) b n D ∧ NumD fs D ∧ n ≤ fs.length
  | none => e = .returned (.tuple #[.map none, .bool false]))
/-- What the machine's next answers. -/
def NxOutI (step : Int → Nat → Option Int) (s : Int) (k : Nat) (W : World) (e : Ending) (w' : World) : Prop := (∃ x ok, e = .returned (.tuple #[.int .i64 x, .bool ok]) ∧ step s k = (if ok = true then some x else none) ∧ InI x) ∧ Since W w'
set_option maxHeartbeats 4000000 in
set_option maxRecDepth 100000 in
theorem numbersI_any (F1 : Value) (BA BL : Nat) (step : Int → Nat → Option Int) (Q : Int → Prop) (hQ : ∀ s x k, k < 9 → Q s → step s k = some x → Q x) (hQi : ∀ s, Q s → InI s) (s0 : Int) (h0 : Q s0) (lim : Nat) (hl : 1 ≤ lim) (hl2 : lim ≤ 1000) (w : World)
    (hN : ∀ s k W, Since w W → Q s → k < 9 → Calls Try.prog 163 #[.int .i64 s, .int .i64 (k : Nat), (.pointer (some ⟨BA, 0, none⟩)), (.pointer (some ⟨BL, 0, none⟩))] W (NxOutI step s k W)) :
    Calls Try.prog 166 #[.agg #[.int .i64 s0, F1, .func (.func 163) #[] #[.pointer (some ⟨BA, 0, none⟩), .pointer (some ⟨BL, 0, none⟩)]], .int .i64 lim] w (NumOutI w lim (numN step lim s0)) := by
  have HQ := Lib.hid hQ
  have HQI := Lib.hid hQi
  have HNX := Lib.hid hN
  clear hQ hQi hN
  obtain ⟨R, hR⟩ : ∃ R, R = numN step lim s0 := ⟨_, rfl⟩
  rw [← hR]
  have HR0 : Hid (runN step lim (lim + 1 - 0) 0 [s0] = R) := by rw [hR]; rfl
  clear hR
  obtain ⟨y, hy⟩ : ∃ y, y = w.alloc (.cells #[.int .i64 s0, F1, .func (.func 163) #[] #[.pointer (some ⟨BA, 0, none⟩), .pointer (some ⟨BL, 0, none⟩)]] 114) := ⟨_, rfl⟩
  have hs0 : Since w y := by rw [hy]; exact (Since.refl w).alloc _
  have hz : y.heap.size = w.heap.size + 1 := by rw [hy]; simp
  have B0 : Hid (Blk y w.heap.size 114 #[.int .i64 s0, F1, .func (.func 163) #[] #[.pointer (some ⟨BA, 0, none⟩), .pointer (some ⟨BL, 0, none⟩)]]) := by rw [hy]; exact Blk.new rfl _ _
  have hmm := @run_makeMap Try.prog
  have hal : Since y (y.alloc (.map #[] 0)) := (Since.refl y).alloc _
  have hmap0 : (y.alloc (.map #[] 0)).ownsMap Try.prog 3 (plainElem (H := Unit) Try.prog 3) y.heap.size 0 (.map []) := World.ownsMap_made _ _ _ _
  rw [hz] at hmap0
  have HM0 := Lib.hid hmap0
  have B1 := Lib.hid (B0.out.since hal)
  have HS1 := Lib.hid (hs0.trans hal)
  obtain ⟨⟨p0, p1, p2⟩, _⟩ := B1.out.threeA
  rw [hy] at p0 p1 p2 HM0 B1 HS1
  have hk0 := keyOf_int_mk (k := 3) Try.underlying3 (wf_in (HQI.out _ h0))
  have e1 : (w.alloc (.cells #[.int .i64 s0, F1, .func (.func 163) #[] #[.pointer (some ⟨BA, 0, none⟩), .pointer (some ⟨BL, 0, none⟩)]] 114)).heap.size = w.heap.size + 1 := by simp
  clear hmap0 hal hy B0
  go_enter Try.func166, Try.ntmps166
  go_upto_region 2 with (refine wpList_insert_own (o := ⟨none, _, _, _, _, _⟩) _ rfl (.tmp 14) (.tmp 16) (.const (.int .i64 0)) 159 rfl 3 3 lawI Try.underlying159 _ (w.heap.size + 1) 0 (.map []) rfl HM0.out (by unfold maxLen; omega) _ _ (KY s0) rfl rfl hk0 _ [] (plainElem_int Try.underlying3 (by decide)) ?_; intro w1 hm1 hg1)
  have HS2 := Lib.hid (HS1.out.grown hg1 (fun k hk => by injection hk with hk; omega))
  have B2 : Hid (Blk w1 w.heap.size 114 #[.int .i64 s0, F1, .func (.func 163) #[] #[.pointer (some ⟨BA, 0, none⟩), .pointer (some ⟨BL, 0, none⟩)]]) := (hg1.block _ B1.out.lt (by intro e; injection e with e; omega)).trans B1.out
  have HM1 := Lib.hid hm1
  have hz1 : w.heap.size + 2 ≤ w1.heap.size := by have := hm1.lt; omega
  clear p0 p1 p2 hm1 hg1
  obtain ⟨⟨p0, p1, p2⟩, _⟩ := B2.out.threeA
  go_wp2_with fail
  have HW : Hid (NWI w #[.int .i64 s0, F1, .func (.func 163) #[] #[.pointer (some ⟨BA, 0, none⟩), .pointer (some ⟨BL, 0, none⟩)]] (w1.alloc (.cells #[.int .i64 s0] 3)) (.slice (some ⟨w1.heap.size, 0, none⟩) 1 1) [s0]) := by
    have hal2 : Since w1 (w1.alloc (.cells #[.int .i64 s0] 3)) := (Since.refl w1).alloc _
    exact ⟨ownT_lit _ _ w1 hz1 s0 (HQI.out _ h0), ⟨1, _, Since.keptMap HM1.out hal2, NumD.nil.snoc (x := s0) (by simp), Nat.le_refl _⟩, B2.out.since hal2, HS2.out.trans hal2⟩
  clear p0 p1 p2 HM0 B1 HS1 B2 HM1 HS2 hk0
  go_loopw [7, 8] (fun v i wr => ∃ (p : Nat) (fs : List Int), p ≤ fs.length ∧ fs.length ≤ lim ∧ 0 < fs.length ∧ i = .int .i64 p ∧ Hid (∀ x ∈ fs, Q x) ∧ Hid (runN step lim (lim + 1 - p) p fs = R) ∧ Hid (NWI w #[.int .i64 s0, F1, .func (.func 163) #[] #[.pointer (some ⟨BA, 0, none⟩), .pointer (some ⟨BL, 0, none⟩)]] wr v fs)) (fun _ i _ => lim + 1 - (intOf i).toNat)
  case atStart => exact ⟨0, [s0], by simp, by simpa using hl, by simp, rfl, fun x hx => by simp at hx; subst hx; exact h0, HR0.out, HW.out⟩
  case round =>
    rename_i v i
    obtain ⟨p, fs, hp, hfl, hf0, rfl, HQf, HRr, HWr⟩ := hrel
    obtain ⟨g, cap, rfl, hg, hgl⟩ := HWr.out.own.len hf0
    by_cases hlt : p < fs.length
    · obtain ⟨n, hn⟩ : ∃ n, n = fs.length := ⟨_, rfl⟩
      have hpi : (p : Int) < (fs.length : Int) := by omega
      obtain ⟨s, hs⟩ : ∃ s, s = fs[p] := ⟨_, rfl⟩
      have HQs : Hid (Q s) := by rw [hs]; exact HQf.out _ (List.getElem_mem hlt)
      have HRi : Hid ((rowN step lim s (9 - 0) fs).bind (runN step lim (lim - p) (p + 1)) = R) := by
        have h1 := HRr.out
        rw [show lim + 1 - p = (lim - p) + 1 from by omega, runN_at step lim (lim - p) p fs hlt] at h1
        rw [hs]; exact h1
      have HPs : Hid (fs[p]? = some s) := by rw [hs]; exact List.getElem?_eq_getElem hlt
      clear hs hn
      go_wp2
      go_loopw [7, 27] (fun v i wz => ∃ (k : Nat) (gs : List Int), k ≤ 9 ∧ gs.length ≤ lim ∧ p < gs.length ∧ i = .int .i64 k ∧ Hid (gs[p]? = some s) ∧ Hid (∀ x ∈ gs, Q x) ∧ Hid ((rowN step lim s (9 - k) gs).bind (runN step lim (lim - p) (p + 1)) = R) ∧ Hid (NWI w #[.int .i64 s0, F1, .func (.func 163) #[] #[.pointer (some ⟨BA, 0, none⟩), .pointer (some ⟨BL, 0, none⟩)]] wz v gs)) (fun _ i _ => 9 - (intOf i).toNat)
      case atStart => exact ⟨0, fs, Nat.zero_le _, hfl, hlt, rfl, HPs.out, HQf.out, HRi.out, HWr.out⟩
      case round =>
        obtain ⟨k, gs, hk, hgl2, hpg, rfl, HP, HQg, HRk, HWk⟩ := hrel
        obtain ⟨g, cap, rfl, hg, hgl⟩ := HWk.out.own.len (by omega)
        by_cases hkt : k < 9
        · have hki : (k : Int) < 9 := by omega
          have hk0i : (0 : Int) ≤ (k : Int) := by omega
          have hp0i : (0 : Int) ≤ (p : Int) := by omega
          have hpi2 : (p : Int) < (gs.length : Int) := by omega
          have hc : wr.cell? ⟨g, p, none⟩ = some (.int .i64 s) := by
            have h1 := HWk.out.own.cell rfl p hpg
            have h2 := HP.out
            rw [List.getElem?_eq_getElem hpg] at h2
            injection h2 with h2
            rw [← h2]; exact h1
          obtain ⟨⟨p0, p1, p2⟩, _⟩ := HWk.out.box.threeA
          obtain ⟨gl, hgle⟩ : ∃ gl, gl = gs.length := ⟨_, rfl⟩
          have HKC : Hid (∀ w', Since wr w' → w'.cell? ⟨w.heap.size, 0, none⟩ = some (.int .i64 s0) ∧ w'.cell? ⟨w.heap.size, 1, none⟩ = some F1 ∧ w'.cell? ⟨w.heap.size, 2, none⟩ = some (.func (.func 163) #[] #[.pointer (some ⟨BA, 0, none⟩), .pointer (some ⟨BL, 0, none⟩)]) ∧ w'.cell? ⟨g, p, none⟩ = some (.int .i64 s)) := by
            intro w' hs
            obtain ⟨⟨r0, r1, r2⟩, _⟩ := (HWk.out.box.since hs).threeA
            exact ⟨r0, r1, r2, (Below.cell hs (p := ⟨g, p, none⟩) hgl).trans hc⟩
          clear hgle p0 p1 p2
          go_wp2
          refine wp_region_held_drew (S := (fun w' => w'.cell? ⟨w.heap.size, 0, none⟩ = some (.int .i64 s0) ∧ w'.cell? ⟨w.heap.size, 1, none⟩ = some F1 ∧ w'.cell? ⟨w.heap.size, 2, none⟩ = some (.func (.func 163) #[] #[.pointer (some ⟨BA, 0, none⟩), .pointer (some ⟨BL, 0, none⟩)]) ∧ w'.cell? ⟨g, p, none⟩ = some (.int .i64 s))) (by kernel_rfl) (HKC.out _ (Since.refl _).drew) (fun hHeld => ?_)
          refine take_yes 0 (some 31) (v := ?_) rfl (by kernel_rfl) (by kernel_rfl) (by kernel_rfl) (by kernel_rfl) (fun _ _ _ h => h) (by rfl) (by assumption) ?_ ?_
          rotate_left
          · (intro w' hSw; (try dsimp only at hSw); go_simp; try with_reducible rfl)
          try simp only [Act.put, List.setIfInBounds_toArray, List.set_cons_zero, List.set_cons_succ]
          refine take_yes 1 (some 32) (v := ?_) rfl (by kernel_rfl) (by kernel_rfl) (by kernel_rfl) (by kernel_rfl) (fun _ _ _ h => h) (by rfl) (by assumption) ?_ ?_
          rotate_left
          · (intro w' hSw; (try dsimp only at hSw); go_simp; try with_reducible rfl)
          try simp only [Act.put, List.setIfInBounds_toArray, List.set_cons_zero, List.set_cons_succ]
          refine take_yes 2 (some 33) (v := ?_) rfl (by kernel_rfl) (by kernel_rfl) (by kernel_rfl) (by kernel_rfl) (fun _ _ _ h => h) (by rfl) (by assumption) ?_ ?_
          rotate_left
          · (intro w' hSw; (try dsimp only at hSw); go_simp; try with_reducible rfl)
          try simp only [Act.put, List.setIfInBounds_toArray, List.set_cons_zero, List.set_cons_succ]
          refine take_yes 3 (some 34) (v := ?_) rfl (by kernel_rfl) (by kernel_rfl) (by kernel_rfl) (by kernel_rfl) (fun _ _ _ h => h) (by rfl) (by assumption) ?_ ?_
          rotate_left
          · (intro w' hSw; (try dsimp only at hSw); go_simp; try with_reducible rfl)
          try simp only [Act.put, List.setIfInBounds_toArray, List.set_cons_zero, List.set_cons_succ]
          refine take_yes 4 (some 35) (v := ?_) rfl (by kernel_rfl) (by kernel_rfl) (by kernel_rfl) (by kernel_rfl) (fun _ _ _ h => h) (by rfl) (by assumption) ?_ ?_
          rotate_left
          · (intro w' hSw; (try dsimp only at hSw); go_simp; try with_reducible rfl)
          try simp only [Act.put, List.setIfInBounds_toArray, List.set_cons_zero, List.set_cons_succ]
          refine take_yes 5 (some 36) (v := ?_) rfl (by kernel_rfl) (by kernel_rfl) (by kernel_rfl) (by kernel_rfl) (fun _ _ _ h => h) (by rfl) (by assumption) ?_ ?_
          rotate_left
          · (intro w' hSw; (try dsimp only at hSw); go_simp; try with_reducible rfl)
          try simp only [Act.put, List.setIfInBounds_toArray, List.set_cons_zero, List.set_cons_succ]
          refine take_yes 6 (some 37) (v := ?_) rfl (by kernel_rfl) (by kernel_rfl) (by kernel_rfl) (by kernel_rfl) (fun _ _ _ h => h) (by rfl) (by assumption) ?_ ?_
          rotate_left
          · (intro w' hSw; (try dsimp only at hSw); go_simp; try with_reducible rfl)
          try simp only [Act.put, List.setIfInBounds_toArray, List.set_cons_zero, List.set_cons_succ]
          refine take_run 7 rfl (by kernel_rfl) (by rfl) (fun K hK => ?_)
          go_simp
          refine (HNX.out s k _ (HWk.out.since.trans (Since.refl _).drew) HQs.out hkt).mono ?_
          rintro e w2 ⟨⟨x, ok, rfl, hst, hxi⟩, hs2⟩
          have hc8 := Since.of_drew hs2
          refine hK.out _ _ (HKC.out _ hc8) (fun hHeld2 => ?_)
          clear hK K hHeld
          try simp only [Act.put, List.setIfInBounds_toArray, List.set_cons_zero, List.set_cons_succ]
          refine take_yes 8 (some 30) (v := ?_) rfl (by kernel_rfl) (by kernel_rfl) (by kernel_rfl) (by kernel_rfl) (fun _ _ _ h => h) (by rfl) (by assumption) ?_ ?_
          rotate_left
          · (intro w' hSw; (try dsimp only at hSw); go_simp; try with_reducible rfl)
          try simp only [Act.put, List.setIfInBounds_toArray, List.set_cons_zero, List.set_cons_succ]
          refine take_yes 9 (some 39) (v := ?_) rfl (by kernel_rfl) (by kernel_rfl) (by kernel_rfl) (by kernel_rfl) (fun _ _ _ h => h) (by rfl) (by assumption) ?_ ?_
          rotate_left
          · (intro w' hSw; (try dsimp only at hSw); go_simp; try with_reducible rfl)
          try simp only [Act.put, List.setIfInBounds_toArray, List.set_cons_zero, List.set_cons_succ]
          refine take_yes 10 (some 40) (v := ?_) rfl (by kernel_rfl) (by kernel_rfl) (by kernel_rfl) (by kernel_rfl) (fun _ _ _ h => h) (by rfl) (by assumption) ?_ ?_
          rotate_left
          · (intro w' hSw; (try dsimp only at hSw); go_simp; try with_reducible rfl)
          try simp only [Act.put, List.setIfInBounds_toArray, List.set_cons_zero, List.set_cons_succ]
          refine take_yes 11 (some 10) (v := ?_) rfl (by kernel_rfl) (by kernel_rfl) (by kernel_rfl) (by kernel_rfl) (fun _ _ _ h => h) (by rfl) (by assumption) ?_ ?_
          rotate_left
          · (intro w' hSw; (try dsimp only at hSw); go_simp; try with_reducible rfl)
          try simp only [Act.put, List.setIfInBounds_toArray, List.set_cons_zero, List.set_cons_succ]
          refine take_yes 12 (some 11) (v := ?_) rfl (by kernel_rfl) (by kernel_rfl) (by kernel_rfl) (by kernel_rfl) (fun _ _ _ h => h) (by rfl) (by assumption) ?_ ?_
          rotate_left
          · (intro w' hSw; (try dsimp only at hSw); go_simp; try with_reducible rfl)
          try simp only [Act.put, List.setIfInBounds_toArray, List.set_cons_zero, List.set_cons_succ]
          refine wpAnyH_done (by kernel_rfl) ?_ _
          clear hHeld2
          have HS := Lib.hid hst
          have HW2 := Lib.hid (HWk.out.since' (Since.of_drew hs2))
          clear hst hc
          obtain ⟨n, D, hm, hD, hnl⟩ := HW2.out.map
          have HD := Lib.hid hD
          have hkx := keyOf_int_mk (k := 3) Try.underlying3 (wf_in hxi)
          cases ok with
          | false =>
            have HRn : Hid ((rowN step lim s (9 - (k + 1)) gs).bind (runN step lim (lim - p) (p + 1)) = R) := by
              have h1 := HRk.out
              rw [rowN_none step lim s k hkt gs (by rw [HS.out]; rfl)] at h1
              exact h1
            clear hD
            go_wp2_with (at_lookup; refine wpList_lookup_own_ok_int _ rfl (.tmp 42) (.tmp 43) 159 rfl 3 3 .i64 lawI Try.underlying159 Try.underlying3 (zeroI _) (w.heap.size + 1) n D rfl hm (.int .i64 x) (KY x) rfl hkx ?_; intro c hat hwc)
            go_roundw
            case rel => exact ⟨k + 1, gs, by omega, hgl2, hpg, by go_num, HP.out, HQg.out, HRn.out, HW2.out⟩
            case measure => simp [intOf]; omega
          | true =>
            have hsx : step s k = some x := by rw [HS.out]; rfl
            by_cases hx : x ∈ gs
            · have hh : Maps.has D (KY x) = true := by rw [hD.has x]; simpa using hx
              have HRn : Hid ((rowN step lim s (9 - (k + 1)) gs).bind (runN step lim (lim - p) (p + 1)) = R) := by
                have h1 := HRk.out
                rw [rowN_old step lim s k hkt gs x hsx hx] at h1
                exact h1
              clear hD hx
              go_wp2_with (at_lookup; refine wpList_lookup_own_ok_int _ rfl (.tmp 42) (.tmp 43) 159 rfl 3 3 .i64 lawI Try.underlying159 Try.underlying3 (zeroI _) (w.heap.size + 1) n D rfl hm (.int .i64 x) (KY x) rfl hkx ?_; intro c hat hwc; rw [hh])
              go_roundw
              case rel => exact ⟨k + 1, gs, by omega, hgl2, hpg, by go_num, HP.out, HQg.out, HRn.out, HW2.out⟩
              case measure => simp [intOf]; omega
            · have hh : Maps.has D (KY x) = false := by rw [hD.has x]; simpa using hx
              by_cases hfull : gs.length = lim
              · have HRn : Hid (R = none) := by
                  have h1 := HRk.out
                  rw [rowN_full step lim s k hkt gs x hsx hx hfull] at h1
                  exact h1.symm
                have hfi : ((gs.length : Int) == (lim : Int)) = true := by simp; omega
                clear hD hx hsx
                go_wp2_with (at_lookup; refine wpList_lookup_own_ok_int _ rfl (.tmp 42) (.tmp 43) 159 rfl 3 3 .i64 lawI Try.underlying159 Try.underlying3 (zeroI _) (w.heap.size + 1) n D rfl hm (.int .i64 x) (KY x) rfl hkx ?_; intro c hat hwc; rw [hh])
                go_ret2
                rw [HRn.out]
                exact ⟨HW2.out.since, rfl⟩
              · have hfi : ((gs.length : Int) == (lim : Int)) = false := by simp; omega
                have HRn : Hid ((rowN step lim s (9 - (k + 1)) (gs ++ [x])).bind (runN step lim (lim - p) (p + 1)) = R) := by
                  have h1 := HRk.out
                  rw [rowN_new step lim s k hkt gs x hsx hx hfull] at h1
                  exact h1
                have HD2 : Hid (NumD (gs ++ [x]) (D.put (KY x) (.lit (.int .i64 (gs.length : Int))))) := hD.snoc hx
                have HQx : Hid (∀ y ∈ gs ++ [x], Q y) := by
                  intro y hy
                  rcases List.mem_append.1 hy with h | h
                  · exact HQg.out y h
                  · simp at h; subst h; exact HQ.out s y k hkt HQs.out hsx
                have HP2 : Hid ((gs ++ [x])[p]? = some s) := by unfold Hid; rw [List.getElem?_append_left hpg]; exact HP.out
                clear hD hx hsx
                go_upto_region 15 with (first
                  | (at_lookup; refine wpList_lookup_own_ok_int _ rfl (.tmp 42) (.tmp 43) 159 rfl 3 3 .i64 lawI Try.underlying159 Try.underlying3 (zeroI _) (w.heap.size + 1) n D rfl hm (.int .i64 x) (KY x) rfl hkx ?_; intro c hat hwc; rw [hh])
                  | (at_mapUpdate; refine wpList_mapUpdate_own _ rfl (.tmp 56) (.tmp 57) (.tmp 59) 159 rfl 3 3 lawI Try.underlying159 _ (w.heap.size + 1) n D rfl hm (by unfold maxLen; omega) _ _ (KY x) rfl rfl hkx _ [] (plainElem_int Try.underlying3 (wf_in (by unfold InI; omega))) ?_; intro w3 hm3 hg3))
                have hne : g ≠ w.heap.size + 1 := by omega
                have HO3 : Hid (OwnNt 3 (w.heap.size + 2) w3 (.slice (some ⟨g, 0, none⟩) gs.length cap) gs) := HW2.out.own.kept hg3 (.inr (by intro e; simp [Value.ownBlock] at e; omega))
                have HB3 : Hid (Blk w3 w.heap.size 114 #[.int .i64 s0, F1, .func (.func 163) #[] #[.pointer (some ⟨BA, 0, none⟩), .pointer (some ⟨BL, 0, none⟩)]]) := (hg3.block _ HW2.out.box.lt (by intro e; injection e with e; omega)).trans HW2.out.box
                have HS3 : Hid (Since w w3) := HW2.out.since.grown hg3 (fun j hj => by injection hj with hj; omega)
                have HM3 := Lib.hid hm3
                have hz3 : w.heap.size + 2 ≤ w3.heap.size := by have := (HO3.out.2.lt g rfl).2; omega
                clear hm3 hg3 hm HW2
                go_wp2_with (at_builtin; go_must (refine wpList_append_T rfl (.tmp 60) (.tmp 62) 24 3 rfl Try.underlying24 infoI (w.heap.size + 2) (.slice (some ⟨g, 0, none⟩) gs.length cap) gs (by first | rfl | simp [Act.eval]) HO3.out x (by first | rfl | simp [Act.eval]) hxi (by omega) hz3 ?_); intro v4 w4 ho4 hg4)
                have HW4 : Hid (NWI w #[.int .i64 s0, F1, .func (.func 163) #[] #[.pointer (some ⟨BA, 0, none⟩), .pointer (some ⟨BL, 0, none⟩)]] w4 v4 (gs ++ [x])) := by
                  have h5 : w.heap.size + 2 ≤ g := hg
                  refine ⟨ho4, ⟨n + 1, _, HM3.out.kept hg4 (by simp [Value.ownBlock]; omega), HD2.out, by rw [List.length_append]; simp; omega⟩, (hg4.block _ HB3.out.lt (by simp [Value.ownBlock]; omega)).trans HB3.out, HS3.out.grown hg4 (fun j hj => by simp [Value.ownBlock] at hj; omega)⟩
                go_roundw
                case rel => exact ⟨k + 1, gs ++ [x], by omega, by rw [List.length_append]; simp; omega, by rw [List.length_append]; omega, by go_num, HP2.out, HQx.out, HRn.out, HW4.out⟩
                case measure => simp [intOf]; omega
        · have hk9 : k = 9 := by omega
          subst hk9
          have HRn : Hid (runN step lim (lim + 1 - (p + 1)) (p + 1) gs = R) := by
            have h1 := HRk.out
            rw [show lim + 1 - (p + 1) = lim - p from by omega]
            exact h1
          go_wp2
          go_roundw
          case rel => exact ⟨p + 1, gs, by omega, hgl2, by omega, by go_num, HQg.out, HRn.out, HWk.out⟩
          case measure => simp [intOf]; omega
    · have HRn : Hid (R = some fs) := by
        have h1 := HRr.out
        rw [runN_end step lim _ p fs (by omega)] at h1
        exact h1.symm
      obtain ⟨n, D, hm, hD, hnl⟩ := HWr.out.map
      have HMM := Lib.hid hm
      have HDD := Lib.hid hD
      clear hm hD
      go_wp2
      go_ret2
      rw [HRn.out]
      exact ⟨HWr.out.since, w.heap.size + 1, n, D, rfl, by omega, HMM.out, HDD.out, hnl⟩
end Go.Proofs.Ytmaagihfjldgeaa
