/- The numbers of the pairs of states that are found, the program's. -/
import Derived.Test.YtmaagihfjldgeaaLwQ
import Derived.Test.YtmaagihfjldgeaaPmP
import Derived.Test.YtmaagihfjldgeaaMdG
import Derived.Test.YtmaagihfjldgeaaNgM
import Derived.BigQuiet
import Derived.Deep.QuietTactic
import Derived.StillTailTactics
import Derived.Test.YtmaagihfjldgeaaK1
namespace Go.Proofs.Ytmaagihfjldgeaa
set_option maxRecDepth 100000
open Go.ChangeShapes Go.WideShapes Go.ChangeAt Go.RowKit Go.Maps
set_option linter.unusedVariables false
set_option linter.unusedSimpArgs false

theorem zeroNP (w : World) : (zeroValue 3).run Try.prog w = .ok (.int .i64 0) w := by kernel_rfl
/-- Of the machine whose pairs are found: the row of the pairs, the map of their numbers, the machine's box. -/
structure NWP (w : World) (cs : Array Value) (wr : World) (v : Value) (fs : List (List Int)) : Prop where
  own : OwnFp (w.heap.size + 2) wr v fs
  map : ∃ n D, wr.ownsMap Try.prog 100 (plainElem Try.prog 3) (w.heap.size + 1) n D ∧ NumO 100 2 fs D ∧ n ≤ fs.length
  box : Blk wr w.heap.size 104 cs
  since : Since w wr
theorem NWP.since' {w wr w2 : World} {cs : Array Value} {v : Value} {fs : List (List Int)} (h : NWP w cs wr v fs) (k : Since wr w2) : NWP w cs w2 v fs := by
  obtain ⟨n, D, h1, h2, h3⟩ := h.map
  exact ⟨h.own.since k, ⟨n, D, Since.keptMap h1 k, h2, h3⟩, h.box.since k, h.since.trans k⟩
def NumPOut (w : World) (F : List (List Int)) (e : Ending) (w' : World) : Prop := Since w w' ∧ ∃ b n D, e = .returned (.tuple #[.map (some b), .bool true]) ∧ w.heap.size ≤ b ∧ w'.ownsMap Try.prog 100 (plainElem Try.prog 3) b n D ∧ NumO 100 2 F D ∧ n ≤ F.length
/-- The pairs that are found from one. -/
def pairG (A B : Aut) (s t : Int) : List (List Int) := runG (prS A B) (pairN A B + 1) 0 [[s, t]]
theorem inQ_inI {A : Aut} (hv : ValidA A) {s : Int} (h : InQ A s) : InI s := by
  have := hv.1
  unfold InQ at h
  unfold InI; omega
/-- What the machine's next answers. -/
def NxP (A B : Aut) (BA BB : Nat) (w : World) : Prop := ∀ (a b : Int) (k : Nat) W, k < 9 → InQ A a → InQ B b → Since w W → Calls Try.prog 149 #[.agg #[.int .i64 a, .int .i64 b], .int .i64 (k : Nat), .pointer (some ⟨BA, 0, none⟩), .pointer (some ⟨BB, 0, none⟩)] W fun e w' => e = .returned (.tuple #[.agg #[.int .i64 (stpQ A a k), .int .i64 (stpQ B b k)], .bool true]) ∧ Since W w'
set_option maxHeartbeats 8000000 in
set_option maxRecDepth 100000 in
theorem numbersP_any (A B : Aut) (BQ BA BB : Nat) (s t : Int) (lim : Nat) (hva : ValidA A) (hvb : ValidA B) (hs : InQ A s) (ht : InQ B t) (hl : pairN A B ≤ lim) (hl2 : lim ≤ 1000) (w : World) (hN : NxP A B BA BB w) :
    Calls Try.prog 196 #[mchP s t BQ BA BB, .int .i64 lim] w (NumPOut w (pairG A B s t)) := by
  have HNC := Lib.hid hN
  have HLH := Lib.hid (prS_H hva hvb)
  have HIN : Hid (∀ a, InQ A a → InI a) := fun a h => inQ_inI hva h
  have HINB : Hid (∀ a, InQ B a → InI a) := fun a h => inQ_inI hvb h
  have HST : Hid (∀ a (k : Nat), k < 9 → InQ A a → InQ A (stpQ A a k)) := fun a k hk h => stpQ_in hva h hk
  have HSTB : Hid (∀ a (k : Nat), k < 9 → InQ B a → InQ B (stpQ B a k)) := fun a k hk h => stpQ_in hvb h hk
  obtain ⟨F, hF⟩ : ∃ F, F = pairG A B s t := ⟨_, rfl⟩
  rw [← hF]
  obtain ⟨N, hNe⟩ : ∃ N, N = pairN A B := ⟨_, rfl⟩
  have HR0 : Hid (runG (prS A B) (N + 1 - 0) 0 [[s, t]] = F) := by rw [hF, hNe]; rfl
  rw [← hNe] at hl HLH
  have HNL : Hid (N ≤ lim) := hl
  have hokS : Hid (∀ a b, InQ A a → InQ B b → OkS 2 [a, b]) := fun a b h1 h2 => ⟨rfl, fun x hx => by
    simp at hx
    rcases hx with hx | hx <;> subst hx
    · exact HIN.out _ h1
    · exact HINB.out _ h2⟩
  have HKEY : Hid (∀ a b, InQ A a → InQ B b → keyOf Try.prog 100 (.agg #[.int .i64 a, .int .i64 b]) = some (kyG 100 [a, b])) := fun a b h1 h2 => arrP.keyOf (hokS.out a b h1 h2)
  have HI0 : Hid (FsQ (InP A B) [[s, t]]) := ⟨by simp, fun x hx => by simp at hx; subst hx; exact ⟨s, t, rfl, hs, ht⟩⟩
  have HOK0 := Lib.hid (hokS.out s t hs ht)
  have hk0 := HKEY.out s t hs ht
  clear hNe hF hN hva hvb hs ht hl
  obtain ⟨y, hy⟩ : ∃ y, y = w.alloc (.cells #[.int .i64 s, .int .i64 t, .func (.func 148) #[] #[.pointer (some ⟨BQ, 0, none⟩), .pointer (some ⟨BA, 0, none⟩), .pointer (some ⟨BB, 0, none⟩)], .func (.func 149) #[] #[.pointer (some ⟨BA, 0, none⟩), .pointer (some ⟨BB, 0, none⟩)]] 104) := ⟨_, rfl⟩
  have hs0 : Since w y := by rw [hy]; exact (Since.refl w).alloc _
  have hz : y.heap.size = w.heap.size + 1 := by rw [hy]; simp
  have B0 : Hid (Blk y w.heap.size 104 #[.int .i64 s, .int .i64 t, .func (.func 148) #[] #[.pointer (some ⟨BQ, 0, none⟩), .pointer (some ⟨BA, 0, none⟩), .pointer (some ⟨BB, 0, none⟩)], .func (.func 149) #[] #[.pointer (some ⟨BA, 0, none⟩), .pointer (some ⟨BB, 0, none⟩)]]) := by rw [hy]; exact Blk.new rfl _ _
  have hmm := @run_makeMap Try.prog
  have hal : Since y (y.alloc (.map #[] 0)) := (Since.refl y).alloc _
  have hmap0 : (y.alloc (.map #[] 0)).ownsMap Try.prog 100 (plainElem (H := Unit) Try.prog 3) y.heap.size 0 (.map []) := World.ownsMap_made _ _ _ _
  rw [hz] at hmap0
  have HM0 := Lib.hid hmap0
  have B1 := Lib.hid (B0.out.since hal)
  have HS1 := Lib.hid (hs0.trans hal)
  obtain ⟨p0, p1, p2, p3, _⟩ := B1.out.four
  rw [hy] at p0 p1 p2 p3 HM0 B1 HS1
  have e1 : (w.alloc (.cells #[.int .i64 s, .int .i64 t, .func (.func 148) #[] #[.pointer (some ⟨BQ, 0, none⟩), .pointer (some ⟨BA, 0, none⟩), .pointer (some ⟨BB, 0, none⟩)], .func (.func 149) #[] #[.pointer (some ⟨BA, 0, none⟩), .pointer (some ⟨BB, 0, none⟩)]] 104)).heap.size = w.heap.size + 1 := by simp
  clear hmap0 hal hy B0
  go_enter Try.func196, Try.ntmps196
  go_upto_region 2 with (refine wpList_insert_own (o := ⟨none, _, _, _, _, _⟩) _ rfl (.tmp 14) (.tmp 16) (.const (.int .i64 0)) 192 rfl 100 3 arrP.law Try.underlying192 _ (w.heap.size + 1) 0 (.map []) rfl HM0.out (by unfold maxLen; omega) _ _ (kyG 100 [s, t]) rfl rfl hk0 _ [] (plainElem_int Try.underlying3 (by decide)) ?_; intro w1 hm1 hg1)
  have HS2 := Lib.hid (HS1.out.grown hg1 (fun k hk => by injection hk with hk; omega))
  have B2 : Hid (Blk w1 w.heap.size 104 #[.int .i64 s, .int .i64 t, .func (.func 148) #[] #[.pointer (some ⟨BQ, 0, none⟩), .pointer (some ⟨BA, 0, none⟩), .pointer (some ⟨BB, 0, none⟩)], .func (.func 149) #[] #[.pointer (some ⟨BA, 0, none⟩), .pointer (some ⟨BB, 0, none⟩)]]) := (hg1.block _ B1.out.lt (by intro e; injection e with e; omega)).trans B1.out
  have HM1 := Lib.hid hm1
  have hz1 : w.heap.size + 2 ≤ w1.heap.size := by have := hm1.lt; omega
  clear p0 p1 p2 p3 hm1 hg1
  obtain ⟨p0, p1, p2, p3, _⟩ := B2.out.four
  go_wp2_with fail
  have HW : Hid (NWP w #[.int .i64 s, .int .i64 t, .func (.func 148) #[] #[.pointer (some ⟨BQ, 0, none⟩), .pointer (some ⟨BA, 0, none⟩), .pointer (some ⟨BB, 0, none⟩)], .func (.func 149) #[] #[.pointer (some ⟨BA, 0, none⟩), .pointer (some ⟨BB, 0, none⟩)]] (w1.alloc (.cells #[.int .i64 s, .int .i64 t] 100)) (.slice (some ⟨w1.heap.size, 0, none⟩) 1 1) [[s, t]]) := by
    have hal2 : Since w1 (w1.alloc (.cells #[.int .i64 s, .int .i64 t] 100)) := (Since.refl w1).alloc _
    exact ⟨World.ownsRow_lit w1 #[.int .i64 s, .int .i64 t] 1 hz1 (by unfold maxLen; omega) rfl, ⟨1, _, Since.keptMap HM1.out hal2, (NumO.nil 100 2).snoc arrP HOK0.out (by simp), Nat.le_refl _⟩, B2.out.since hal2, HS2.out.trans hal2⟩
  clear p0 p1 p2 p3 HM0 B1 HS1 B2 HM1 HS2 hk0
  go_loopw [7, 8] (fun v i wr => ∃ (p : Nat) (fs : List (List Int)), p ≤ fs.length ∧ 0 < fs.length ∧ i = .int .i64 p ∧ Hid (FsQ (InP A B) fs) ∧ Hid (runG (prS A B) (N + 1 - p) p fs = F) ∧ Hid (NWP w #[.int .i64 s, .int .i64 t, .func (.func 148) #[] #[.pointer (some ⟨BQ, 0, none⟩), .pointer (some ⟨BA, 0, none⟩), .pointer (some ⟨BB, 0, none⟩)], .func (.func 149) #[] #[.pointer (some ⟨BA, 0, none⟩), .pointer (some ⟨BB, 0, none⟩)]] wr v fs)) (fun _ i _ => N + 1 - (intOf i).toNat)
  case atStart => exact ⟨0, [[s, t]], by simp, by simp, rfl, HI0.out, HR0.out, HW.out⟩
  case round =>
    rename_i v i
    obtain ⟨p, fs, hp, hf0, rfl, HI, HRr, HWr⟩ := hrel
    have hfl : fs.length ≤ N := HLH.out.room _ HI.out.1 HI.out.2
    obtain ⟨g, cap, rfl, hg, hgl⟩ := HWr.out.own.len hf0
    by_cases hlt : p < fs.length
    · have hpi : (p : Int) < (fs.length : Int) := by omega
      obtain ⟨a0, b0, hab, hqa, hqb⟩ := HI.out.2 fs[p] (List.getElem_mem hlt)
      have HQ : Hid (InQ A a0 ∧ InQ B b0) := ⟨hqa, hqb⟩
      have HP0 : Hid (fs[p]? = some [a0, b0]) := by unfold Hid; rw [List.getElem?_eq_getElem hlt, hab]
      have HRi : Hid (runG (prS A B) (N - p) (p + 1) (rowG (prS A B) [a0, b0] (9 - 0) fs) = F) := by
        have h1 := HRr.out
        rw [show N + 1 - p = (N - p) + 1 from by omega, runG_at _ _ p fs [a0, b0] HP0.out] at h1
        exact h1
      clear hab hqa hqb HRr
      go_wp2
      go_loopw [7, 27] (fun v i wz => ∃ (k : Nat) (gs : List (List Int)), k ≤ 9 ∧ p < gs.length ∧ i = .int .i64 k ∧ Hid (FsQ (InP A B) gs) ∧ Hid (gs[p]? = some [a0, b0]) ∧ Hid (runG (prS A B) (N - p) (p + 1) (rowG (prS A B) [a0, b0] (9 - k) gs) = F) ∧ Hid (NWP w #[.int .i64 s, .int .i64 t, .func (.func 148) #[] #[.pointer (some ⟨BQ, 0, none⟩), .pointer (some ⟨BA, 0, none⟩), .pointer (some ⟨BB, 0, none⟩)], .func (.func 149) #[] #[.pointer (some ⟨BA, 0, none⟩), .pointer (some ⟨BB, 0, none⟩)]] wz v gs)) (fun _ i _ => 9 - (intOf i).toNat)
      case atStart => exact ⟨0, fs, Nat.zero_le _, hlt, rfl, HI.out, HP0.out, HRi.out, HWr.out⟩
      case round =>
        clear HI HP0 HRi HWr hg hgl hlt hpi hf0 hp hfl
        obtain ⟨k, gs, hk, hpg, rfl, HIk, HP, HRk, HWk⟩ := hrel
        have HGL : Hid (gs.length ≤ N) := HLH.out.room _ HIk.out.1 HIk.out.2
        have HL10 : Hid (gs.length ≤ 1000) := by
          have h1 := HGL.out
          have h2 := HNL.out
          unfold Hid; omega
        obtain ⟨g, cap, rfl, hg, hgl⟩ := HWk.out.own.len (by omega)
        by_cases hkt : k < 9
        · have hki : (k : Int) < 9 := by omega
          have hk0i : (0 : Int) ≤ (k : Int) := by omega
          have hp0i : (0 : Int) ≤ (p : Int) := by omega
          have hpi2 : (p : Int) < (gs.length : Int) := by omega
          obtain ⟨c0, c1⟩ := ownFp_cells HWk.out.own rfl p a0 b0 HP.out
          obtain ⟨za, hza⟩ : ∃ z, z = stpQ A a0 k := ⟨_, rfl⟩
          obtain ⟨zb, hzb⟩ : ∃ z, z = stpQ B b0 k := ⟨_, rfl⟩
          have HNXp : Hid (∀ W, Since w W → Calls Try.prog 149 #[.agg #[.int .i64 a0, .int .i64 b0], .int .i64 (k : Nat), .pointer (some ⟨BA, 0, none⟩), .pointer (some ⟨BB, 0, none⟩)] W fun e w' => e = .returned (.tuple #[.agg #[.int .i64 za, .int .i64 zb], .bool true]) ∧ Since W w') := fun W h => by rw [hza, hzb]; exact HNC.out a0 b0 k W hkt HQ.out.1 HQ.out.2 h
          have HST2 : Hid (prS A B [a0, b0] k = some [za, zb]) := by unfold Hid prS; rw [hza, hzb]; rfl
          have hqa : InQ A za := by rw [hza]; exact HST.out a0 k hkt HQ.out.1
          have hqb : InQ B zb := by rw [hzb]; exact HSTB.out b0 k hkt HQ.out.2
          have HQZ : Hid (InQ A za ∧ InQ B zb) := ⟨hqa, hqb⟩
          have hokz : OkS 2 [za, zb] := hokS.out za zb hqa hqb
          have hkz := HKEY.out za zb hqa hqb
          obtain ⟨zd, HZD⟩ : ∃ d : Bool, Hid (d = decide ([za, zb] ∈ gs)) := ⟨_, rfl⟩
          clear hza hzb hqa hqb
          have HK6 : Hid (∀ w', Since wr w' → w'.cell? ⟨w.heap.size, 0, none⟩ = some (.int .i64 s) ∧ w'.cell? ⟨w.heap.size, 1, none⟩ = some (.int .i64 t) ∧ w'.cell? ⟨w.heap.size, 2, none⟩ = some (.func (.func 148) #[] #[.pointer (some ⟨BQ, 0, none⟩), .pointer (some ⟨BA, 0, none⟩), .pointer (some ⟨BB, 0, none⟩)]) ∧ w'.cell? ⟨w.heap.size, 3, none⟩ = some (.func (.func 149) #[] #[.pointer (some ⟨BA, 0, none⟩), .pointer (some ⟨BB, 0, none⟩)]) ∧ w'.cell? ⟨g, p * 2, none⟩ = some (.int .i64 a0) ∧ w'.cell? ⟨g, p * 2 + 1, none⟩ = some (.int .i64 b0)) := by
            intro w' hs
            obtain ⟨r0, r1, r2, r3, _⟩ := (HWk.out.box.since hs).four
            exact ⟨r0, r1, r2, r3, (Below.cell hs (p := ⟨g, p * 2, none⟩) hgl).trans c0, (Below.cell hs (p := ⟨g, p * 2 + 1, none⟩) hgl).trans c1⟩
          clear c0 c1
          go_wp2_with fail
          refine wp_region_held_drew (S := (fun w' => w'.cell? ⟨w.heap.size, 0, none⟩ = some (.int .i64 s) ∧ w'.cell? ⟨w.heap.size, 1, none⟩ = some (.int .i64 t) ∧ w'.cell? ⟨w.heap.size, 2, none⟩ = some (.func (.func 148) #[] #[.pointer (some ⟨BQ, 0, none⟩), .pointer (some ⟨BA, 0, none⟩), .pointer (some ⟨BB, 0, none⟩)]) ∧ w'.cell? ⟨w.heap.size, 3, none⟩ = some (.func (.func 149) #[] #[.pointer (some ⟨BA, 0, none⟩), .pointer (some ⟨BB, 0, none⟩)]) ∧ w'.cell? ⟨g, p * 2, none⟩ = some (.int .i64 a0) ∧ w'.cell? ⟨g, p * 2 + 1, none⟩ = some (.int .i64 b0))) (by kernel_rfl) (HK6.out _ (Since.refl _).drew) (fun hHeld => ?_)
          refine take_yes 0 (some 31) (v := ?_) rfl (by kernel_rfl) (by kernel_rfl) (by kernel_rfl) (by kernel_rfl) (fun _ _ _ h => h) (by rfl) (by assumption) ?_ ?_
          rotate_left
          · (intro w' hSw; (try dsimp only at hSw); go_simp; try with_reducible rfl)
          try simp only [Act.put, List.setIfInBounds_toArray, List.set_cons_zero, List.set_cons_succ]
          refine take_yes 1 (some 32) (v := ?_) rfl (by kernel_rfl) (by kernel_rfl) (by kernel_rfl) (by kernel_rfl) (fun _ _ _ h => h) (by rfl) (by assumption) ?_ ?_
          rotate_left
          · (intro w' hSw; (try dsimp only at hSw); go_simp; try with_reducible rfl)
          try simp only [Act.put, List.setIfInBounds_toArray, List.set_cons_zero, List.set_cons_succ]
          refine take_yes 2 (some 33) (v := ?_) rfl (by kernel_rfl) (by kernel_rfl) (by kernel_rfl) (by kernel_rfl) (fun _ _ _ h => h) (by rfl) (by assumption) ?_ ?_
          rotate_left
          · (intro w' hSw; (try dsimp only at hSw); go_simp; try with_reducible rfl)
          try simp only [Act.put, List.setIfInBounds_toArray, List.set_cons_zero, List.set_cons_succ]
          refine take_yes 3 (some 34) (v := ?_) rfl (by kernel_rfl) (by kernel_rfl) (by kernel_rfl) (by kernel_rfl) (fun _ _ _ h => h) (by rfl) (by assumption) ?_ ?_
          rotate_left
          · (intro w' hSw; (try dsimp only at hSw); go_simp; try with_reducible rfl)
          try simp only [Act.put, List.setIfInBounds_toArray, List.set_cons_zero, List.set_cons_succ]
          refine take_yes 4 (some 35) (v := ?_) rfl (by kernel_rfl) (by kernel_rfl) (by kernel_rfl) (by kernel_rfl) (fun _ _ _ h => h) (by rfl) (by assumption) ?_ ?_
          rotate_left
          · (intro w' hSw; (try dsimp only at hSw); go_simp; try with_reducible rfl)
          try simp only [Act.put, List.setIfInBounds_toArray, List.set_cons_zero, List.set_cons_succ]
          refine take_yes 5 (some 36) (v := ?_) rfl (by kernel_rfl) (by kernel_rfl) (by kernel_rfl) (by kernel_rfl) (fun _ _ _ h => h) (by rfl) (by assumption) ?_ ?_
          rotate_left
          · (intro w' hSw; (try dsimp only at hSw); go_simp; try with_reducible rfl)
          try simp only [Act.put, List.setIfInBounds_toArray, List.set_cons_zero, List.set_cons_succ]
          refine take_yes 6 (some 37) (v := ?_) rfl (by kernel_rfl) (by kernel_rfl) (by kernel_rfl) (by kernel_rfl) (fun _ _ _ h => h) (by rfl) (by assumption) ?_ ?_
          rotate_left
          · (intro w' hSw; (try dsimp only at hSw); go_simp; try with_reducible rfl)
          try simp only [Act.put, List.setIfInBounds_toArray, List.set_cons_zero, List.set_cons_succ]
          refine take_two 7 11 rfl rfl (by kernel_rfl) (by rfl) (by rfl) (fun K hK => ?_) (fun K hK => ?_)
          · skip
            go_simp
            refine (HNXp.out _ (HWk.out.since.trans ((Since.refl wr).drew))).mono ?_
            rintro en wq2 ⟨rfl, hq⟩
            have hc3 := ((Since.refl wr).drew).trans hq
            refine hK.out _ _ (HK6.out _ hc3) (fun hHeld1 => ?_)
            clear hK K hHeld hq
            try simp only [Act.put, List.setIfInBounds_toArray, List.set_cons_zero, List.set_cons_succ]
            refine take_yes 8 (some 30) (v := ?_) rfl (by kernel_rfl) (by kernel_rfl) (by kernel_rfl) (by kernel_rfl) (fun _ _ _ h => h) (by rfl) (by assumption) ?_ ?_
            rotate_left
            · (intro w' hSw; (try dsimp only at hSw); go_simp; try with_reducible rfl)
            try simp only [Act.put, List.setIfInBounds_toArray, List.set_cons_zero, List.set_cons_succ]
            refine take_yes 9 (some 39) (v := ?_) rfl (by kernel_rfl) (by kernel_rfl) (by kernel_rfl) (by kernel_rfl) (fun _ _ _ h => h) (by rfl) (by assumption) ?_ ?_
            rotate_left
            · (intro w' hSw; (try dsimp only at hSw); go_simp; try with_reducible rfl)
            try simp only [Act.put, List.setIfInBounds_toArray, List.set_cons_zero, List.set_cons_succ]
            refine take_yes 10 (some 40) (v := ?_) rfl (by kernel_rfl) (by kernel_rfl) (by kernel_rfl) (by kernel_rfl) (fun _ _ _ h => h) (by rfl) (by assumption) ?_ ?_
            rotate_left
            · (intro w' hSw; (try dsimp only at hSw); go_simp; try with_reducible rfl)
            try simp only [Act.put, List.setIfInBounds_toArray, List.set_cons_zero, List.set_cons_succ]
            refine take_run 11 rfl (by kernel_rfl) (by rfl) (fun K hK => ?_)
            go_simp
            have hc5 := Since.alloc (hc3) (.cells #[.int .i64 0, .int .i64 0] 100)
            have BA6 : Hid (Blk (wq2.alloc (.cells #[.int .i64 0, .int .i64 0] 100)) (wq2.heap.size) 100 #[.int .i64 0, .int .i64 0]) := Blk.new (by first | rfl | simp) _ _
            have hA7 : wr.heap.size ≤ wq2.heap.size := by have := Since.lt (hc3); first | exact this | (simp at this; exact this)
            refine hK.out _ _ (HK6.out _ hc5) (fun hHeld4 => ?_)
            clear hK K hHeld1
            try simp only [Act.put, List.setIfInBounds_toArray, List.set_cons_zero, List.set_cons_succ]
            refine take_run 12 rfl (by kernel_rfl) (by rfl) (fun K hK => ?_)
            obtain ⟨s0, s1, s2, s3⟩ := (BA6.out).two
            go_simp
            clear s0 s1 s2 s3
            have hcF := Since.alloc (hc3) (.cells #[.int .i64 za, .int .i64 zb] 100)
            have BF : Hid (Blk (wq2.alloc (.cells #[.int .i64 za, .int .i64 zb] 100)) (wq2.heap.size) 100 #[.int .i64 za, .int .i64 zb]) := Blk.new (by first | rfl | simp) _ _
            have hGF : wr.heap.size ≤ wq2.heap.size := by have := Since.lt (hc3); first | exact this | (simp at this; exact this)
            refine hK.out _ _ (HK6.out _ hcF) (fun hHeld8 => ?_)
            clear hK K hHeld4
            try simp only [Act.put, List.setIfInBounds_toArray, List.set_cons_zero, List.set_cons_succ]
            refine take_yes 13 (some 11) (v := ?_) rfl (by kernel_rfl) (by kernel_rfl) (by kernel_rfl) (by kernel_rfl) (fun _ _ _ h => h) (by rfl) (by assumption) ?_ ?_
            rotate_left
            · (intro w' hSw; (try dsimp only at hSw); go_simp; try with_reducible rfl)
            try simp only [Act.put, List.setIfInBounds_toArray, List.set_cons_zero, List.set_cons_succ]
            refine wpAnyH_done (by kernel_rfl) ?_ _
            clear hHeld8
            have HWF := Lib.hid (HWk.out.since' hcF)
            obtain ⟨wF, hwF⟩ : ∃ wF, wF = (wq2.alloc (.cells #[.int .i64 za, .int .i64 zb] 100)) := ⟨_, rfl⟩
            obtain ⟨G, hG⟩ : ∃ G, G = wq2.heap.size := ⟨_, rfl⟩
            have hGm : w.heap.size + 1 ≠ wq2.heap.size := by have := hGF; omega
            have hGg : g ≠ wq2.heap.size := by have := hGF; omega
            rw [← hG] at hGm hGg
            rw [← hwF] at hcF BF HWF
            rw [← hG] at BF
            try rw [← hwF]
            try rw [← hG]
            clear hwF hG hGF
            obtain ⟨n, D, hm, hD, hnl⟩ := HWF.out.map
            have HMF := Lib.hid hm
            have HDF := Lib.hid hD
            have HHS : Hid (Maps.has D (kyG 100 [za, zb]) = zd) := by
              unfold Hid
              rw [hD.num.has _ hokz]; exact HZD.out.symm
            clear hm hD
            obtain ⟨s0, s1, _, _⟩ := BF.out.two
            cases zd with
            | true =>
              have HRn : Hid (runG (prS A B) (N - p) (p + 1) (rowG (prS A B) [a0, b0] (9 - (k + 1)) gs) = F) := by
                have h1 := HRk.out
                rw [rowG_old _ _ k hkt gs [za, zb] HST2.out (of_decide_eq_true HZD.out.symm)] at h1
                exact h1
              go_wp2_with (at_lookup; refine wpList_lookup_own_ok_int _ rfl (.tmp 42) (.tmp 43) 192 rfl 100 3 .i64 arrP.law Try.underlying192 Try.underlying3 (zeroNP _) (w.heap.size + 1) n D rfl HMF.out (.agg #[.int .i64 za, .int .i64 zb]) (kyG 100 [za, zb]) rfl hkz ?_; intro c hat hwc; clear hat hwc; rw [HHS.out])
              go_roundw
              case rel => exact ⟨k + 1, gs, by omega, hpg, by go_num, HIk.out, HP.out, HRn.out, HWF.out⟩
              case measure => simp [intOf]; omega
            | false =>
              have hnew : [za, zb] ∉ gs := of_decide_eq_false HZD.out.symm
              have HRn : Hid (runG (prS A B) (N - p) (p + 1) (rowG (prS A B) [a0, b0] (9 - (k + 1)) (gs ++ [[za, zb]])) = F) := by
                have h1 := HRk.out
                rw [rowG_new _ _ k hkt gs [za, zb] HST2.out hnew] at h1
                exact h1
              have HI2 : Hid (FsQ (InP A B) (gs ++ [[za, zb]])) := ⟨nodup_snocG HIk.out.1 hnew, fun y hy => by
                rcases List.mem_append.1 hy with h | h
                · exact HIk.out.2 y h
                · simp at h; subst h; exact ⟨za, zb, rfl, HQZ.out.1, HQZ.out.2⟩⟩
              have hroom : (gs ++ [[za, zb]]).length ≤ N := HLH.out.room _ HI2.out.1 HI2.out.2
              have hroom2 : gs.length + 1 ≤ N := by simpa using hroom
              have hNl := HNL.out
              have hfi : ((gs.length : Int) == (lim : Int)) = false := by simp; omega
              have HD2 : Hid (NumO 100 2 (gs ++ [[za, zb]]) (D.put (kyG 100 [za, zb]) (.lit (.int .i64 (gs.length : Int))))) := HDF.out.snoc arrP hokz hnew
              have HP2 : Hid ((gs ++ [[za, zb]])[p]? = some [a0, b0]) := by unfold Hid; rw [List.getElem?_append_left hpg]; exact HP.out
              clear HZD hroom
              go_upto_region 15 with (first
                | (at_lookup; refine wpList_lookup_own_ok_int _ rfl (.tmp 42) (.tmp 43) 192 rfl 100 3 .i64 arrP.law Try.underlying192 Try.underlying3 (zeroNP _) (w.heap.size + 1) n D rfl HMF.out (.agg #[.int .i64 za, .int .i64 zb]) (kyG 100 [za, zb]) rfl hkz ?_; intro c hat hwc; clear hat hwc; rw [HHS.out])
                | (at_mapUpdate; refine wpList_mapUpdate_own _ rfl (.tmp 56) (.tmp 57) (.tmp 59) 192 rfl 100 3 arrP.law Try.underlying192 _ (w.heap.size + 1) n D rfl HMF.out (by unfold maxLen; omega) _ _ (kyG 100 [za, zb]) rfl rfl hkz _ [] (plainElem_int Try.underlying3 (wf_in (by unfold InI; omega))) ?_; intro w3 hm3 hg3))
              have hne : g ≠ w.heap.size + 1 := by omega
              have HO3 : Hid (OwnFp (w.heap.size + 2) w3 (.slice (some ⟨g, 0, none⟩) gs.length cap) gs) := HWF.out.own.kept hg3 (.inr (by intro e; simp [Value.ownBlock] at e; omega))
              have HB3 : Hid (Blk w3 w.heap.size 104 #[.int .i64 s, .int .i64 t, .func (.func 148) #[] #[.pointer (some ⟨BQ, 0, none⟩), .pointer (some ⟨BA, 0, none⟩), .pointer (some ⟨BB, 0, none⟩)], .func (.func 149) #[] #[.pointer (some ⟨BA, 0, none⟩), .pointer (some ⟨BB, 0, none⟩)]]) := (hg3.block _ HWF.out.box.lt (by intro e; injection e with e; omega)).trans HWF.out.box
              have HS3 : Hid (Since w w3) := HWF.out.since.grown hg3 (fun j hj => by injection hj with hj; omega)
              have HM3 := Lib.hid hm3
              have BF3 : Hid (Blk w3 G 100 #[.int .i64 za, .int .i64 zb]) := (hg3.block _ BF.out.lt (by intro e; injection e with e; omega)).trans BF.out
              have hz3 : w.heap.size + 2 ≤ w3.heap.size := by have := (HO3.out.lt g rfl).2; omega
              clear hm3 hg3 s0 s1
              obtain ⟨s0, s1, _, _⟩ := BF3.out.two
              have hlen : gs.length ≤ 2000000 := by have := HL10.out; omega
              go_wp2_with (at_builtin; go_must (refine wpList_append_fp rfl (.tmp 60) (.tmp 62) rfl (.slice (some ⟨g, 0, none⟩) gs.length cap) gs (by first | rfl | simp [Act.eval]) HO3.out za zb (by first | rfl | simp [Act.eval]) hlen hz3 ?_); intro v4 w4 ho4 hg4)
              have HW4 : Hid (NWP w #[.int .i64 s, .int .i64 t, .func (.func 148) #[] #[.pointer (some ⟨BQ, 0, none⟩), .pointer (some ⟨BA, 0, none⟩), .pointer (some ⟨BB, 0, none⟩)], .func (.func 149) #[] #[.pointer (some ⟨BA, 0, none⟩), .pointer (some ⟨BB, 0, none⟩)]] w4 v4 (gs ++ [[za, zb]])) := by
                have h5 : w.heap.size + 2 ≤ g := hg
                refine ⟨ho4, ⟨n + 1, _, HM3.out.kept hg4 (by simp [Value.ownBlock]; omega), HD2.out, by rw [List.length_append]; simp; omega⟩, (hg4.block _ HB3.out.lt (by simp [Value.ownBlock]; omega)).trans HB3.out, HS3.out.grown hg4 (fun j hj => by simp [Value.ownBlock] at hj; omega)⟩
              clear ho4 hg4
              go_roundw
              case rel => exact ⟨k + 1, gs ++ [[za, zb]], by omega, by rw [List.length_append]; omega, by go_num, HI2.out, HP2.out, HRn.out, HW4.out⟩
              case measure => simp [intOf]; omega
          · skip
            go_simp
            have hc10 := Since.alloc ((Since.refl wr).drew) (.cells #[.int .i64 0, .int .i64 0] 100)
            have BA11 : Hid (Blk (wr.drew.alloc (.cells #[.int .i64 0, .int .i64 0] 100)) (wr.heap.size) 100 #[.int .i64 0, .int .i64 0]) := Blk.new (by first | rfl | simp) _ _
            have hA12 : wr.heap.size ≤ wr.heap.size := by have := Since.lt ((Since.refl wr).drew); first | exact this | (simp at this; exact this)
            refine hK.out _ _ (HK6.out _ hc10) (fun hHeld9 => ?_)
            clear hK K hHeld
            try simp only [Act.put, List.setIfInBounds_toArray, List.set_cons_zero, List.set_cons_succ]
            refine take_run 7 rfl (by kernel_rfl) (by rfl) (fun K hK => ?_)
            go_simp
            refine (HNXp.out _ (HWk.out.since.trans (hc10))).mono ?_
            rintro en wq14 ⟨rfl, hq⟩
            have hc15 := (hc10).trans hq
            have BA16 := Lib.hid ((BA11.out).since hq)
            refine hK.out _ _ (HK6.out _ hc15) (fun hHeld13 => ?_)
            clear hK K hHeld9 hq
            try simp only [Act.put, List.setIfInBounds_toArray, List.set_cons_zero, List.set_cons_succ]
            refine take_yes 8 (some 30) (v := ?_) rfl (by kernel_rfl) (by kernel_rfl) (by kernel_rfl) (by kernel_rfl) (fun _ _ _ h => h) (by rfl) (by assumption) ?_ ?_
            rotate_left
            · (intro w' hSw; (try dsimp only at hSw); go_simp; try with_reducible rfl)
            try simp only [Act.put, List.setIfInBounds_toArray, List.set_cons_zero, List.set_cons_succ]
            refine take_yes 9 (some 39) (v := ?_) rfl (by kernel_rfl) (by kernel_rfl) (by kernel_rfl) (by kernel_rfl) (fun _ _ _ h => h) (by rfl) (by assumption) ?_ ?_
            rotate_left
            · (intro w' hSw; (try dsimp only at hSw); go_simp; try with_reducible rfl)
            try simp only [Act.put, List.setIfInBounds_toArray, List.set_cons_zero, List.set_cons_succ]
            refine take_yes 10 (some 40) (v := ?_) rfl (by kernel_rfl) (by kernel_rfl) (by kernel_rfl) (by kernel_rfl) (fun _ _ _ h => h) (by rfl) (by assumption) ?_ ?_
            rotate_left
            · (intro w' hSw; (try dsimp only at hSw); go_simp; try with_reducible rfl)
            try simp only [Act.put, List.setIfInBounds_toArray, List.set_cons_zero, List.set_cons_succ]
            refine take_run 12 rfl (by kernel_rfl) (by rfl) (fun K hK => ?_)
            obtain ⟨s0, s1, s2, s3⟩ := (BA16.out).two
            go_simp
            clear s0 s1 s2 s3
            have hcF := (Since.setCell (Since.setCell hc15 (a := ⟨wr.heap.size, 0, none⟩) hA12 (.int .i64 za)) (a := ⟨wr.heap.size, 1, none⟩) hA12 (.int .i64 zb))
            have BF := Lib.hid (((BA16.out).set 0 (.int .i64 za)).set 1 (.int .i64 zb))
            have hGF := hA12
            refine hK.out _ _ (HK6.out _ hcF) (fun hHeld17 => ?_)
            clear hK K hHeld13
            try simp only [Act.put, List.setIfInBounds_toArray, List.set_cons_zero, List.set_cons_succ]
            refine take_yes 13 (some 11) (v := ?_) rfl (by kernel_rfl) (by kernel_rfl) (by kernel_rfl) (by kernel_rfl) (fun _ _ _ h => h) (by rfl) (by assumption) ?_ ?_
            rotate_left
            · (intro w' hSw; (try dsimp only at hSw); go_simp; try with_reducible rfl)
            try simp only [Act.put, List.setIfInBounds_toArray, List.set_cons_zero, List.set_cons_succ]
            refine wpAnyH_done (by kernel_rfl) ?_ _
            clear hHeld17
            have HWF := Lib.hid (HWk.out.since' hcF)
            obtain ⟨wF, hwF⟩ : ∃ wF, wF = ((wq14.setCell ⟨wr.heap.size, 0, none⟩ (.int .i64 za)).setCell ⟨wr.heap.size, 1, none⟩ (.int .i64 zb)) := ⟨_, rfl⟩
            obtain ⟨G, hG⟩ : ∃ G, G = wr.heap.size := ⟨_, rfl⟩
            have hGm : w.heap.size + 1 ≠ wr.heap.size := by have := hGF; omega
            have hGg : g ≠ wr.heap.size := by have := hGF; omega
            rw [← hG] at hGm hGg
            rw [← hwF] at hcF BF HWF
            rw [← hG] at BF
            try rw [← hwF]
            try rw [← hG]
            clear hwF hG hGF
            obtain ⟨n, D, hm, hD, hnl⟩ := HWF.out.map
            have HMF := Lib.hid hm
            have HDF := Lib.hid hD
            have HHS : Hid (Maps.has D (kyG 100 [za, zb]) = zd) := by
              unfold Hid
              rw [hD.num.has _ hokz]; exact HZD.out.symm
            clear hm hD
            obtain ⟨s0, s1, _, _⟩ := BF.out.two
            cases zd with
            | true =>
              have HRn : Hid (runG (prS A B) (N - p) (p + 1) (rowG (prS A B) [a0, b0] (9 - (k + 1)) gs) = F) := by
                have h1 := HRk.out
                rw [rowG_old _ _ k hkt gs [za, zb] HST2.out (of_decide_eq_true HZD.out.symm)] at h1
                exact h1
              go_wp2_with (at_lookup; refine wpList_lookup_own_ok_int _ rfl (.tmp 42) (.tmp 43) 192 rfl 100 3 .i64 arrP.law Try.underlying192 Try.underlying3 (zeroNP _) (w.heap.size + 1) n D rfl HMF.out (.agg #[.int .i64 za, .int .i64 zb]) (kyG 100 [za, zb]) rfl hkz ?_; intro c hat hwc; clear hat hwc; rw [HHS.out])
              go_roundw
              case rel => exact ⟨k + 1, gs, by omega, hpg, by go_num, HIk.out, HP.out, HRn.out, HWF.out⟩
              case measure => simp [intOf]; omega
            | false =>
              have hnew : [za, zb] ∉ gs := of_decide_eq_false HZD.out.symm
              have HRn : Hid (runG (prS A B) (N - p) (p + 1) (rowG (prS A B) [a0, b0] (9 - (k + 1)) (gs ++ [[za, zb]])) = F) := by
                have h1 := HRk.out
                rw [rowG_new _ _ k hkt gs [za, zb] HST2.out hnew] at h1
                exact h1
              have HI2 : Hid (FsQ (InP A B) (gs ++ [[za, zb]])) := ⟨nodup_snocG HIk.out.1 hnew, fun y hy => by
                rcases List.mem_append.1 hy with h | h
                · exact HIk.out.2 y h
                · simp at h; subst h; exact ⟨za, zb, rfl, HQZ.out.1, HQZ.out.2⟩⟩
              have hroom : (gs ++ [[za, zb]]).length ≤ N := HLH.out.room _ HI2.out.1 HI2.out.2
              have hroom2 : gs.length + 1 ≤ N := by simpa using hroom
              have hNl := HNL.out
              have hfi : ((gs.length : Int) == (lim : Int)) = false := by simp; omega
              have HD2 : Hid (NumO 100 2 (gs ++ [[za, zb]]) (D.put (kyG 100 [za, zb]) (.lit (.int .i64 (gs.length : Int))))) := HDF.out.snoc arrP hokz hnew
              have HP2 : Hid ((gs ++ [[za, zb]])[p]? = some [a0, b0]) := by unfold Hid; rw [List.getElem?_append_left hpg]; exact HP.out
              clear HZD hroom
              go_upto_region 15 with (first
                | (at_lookup; refine wpList_lookup_own_ok_int _ rfl (.tmp 42) (.tmp 43) 192 rfl 100 3 .i64 arrP.law Try.underlying192 Try.underlying3 (zeroNP _) (w.heap.size + 1) n D rfl HMF.out (.agg #[.int .i64 za, .int .i64 zb]) (kyG 100 [za, zb]) rfl hkz ?_; intro c hat hwc; clear hat hwc; rw [HHS.out])
                | (at_mapUpdate; refine wpList_mapUpdate_own _ rfl (.tmp 56) (.tmp 57) (.tmp 59) 192 rfl 100 3 arrP.law Try.underlying192 _ (w.heap.size + 1) n D rfl HMF.out (by unfold maxLen; omega) _ _ (kyG 100 [za, zb]) rfl rfl hkz _ [] (plainElem_int Try.underlying3 (wf_in (by unfold InI; omega))) ?_; intro w3 hm3 hg3))
              have hne : g ≠ w.heap.size + 1 := by omega
              have HO3 : Hid (OwnFp (w.heap.size + 2) w3 (.slice (some ⟨g, 0, none⟩) gs.length cap) gs) := HWF.out.own.kept hg3 (.inr (by intro e; simp [Value.ownBlock] at e; omega))
              have HB3 : Hid (Blk w3 w.heap.size 104 #[.int .i64 s, .int .i64 t, .func (.func 148) #[] #[.pointer (some ⟨BQ, 0, none⟩), .pointer (some ⟨BA, 0, none⟩), .pointer (some ⟨BB, 0, none⟩)], .func (.func 149) #[] #[.pointer (some ⟨BA, 0, none⟩), .pointer (some ⟨BB, 0, none⟩)]]) := (hg3.block _ HWF.out.box.lt (by intro e; injection e with e; omega)).trans HWF.out.box
              have HS3 : Hid (Since w w3) := HWF.out.since.grown hg3 (fun j hj => by injection hj with hj; omega)
              have HM3 := Lib.hid hm3
              have BF3 : Hid (Blk w3 G 100 #[.int .i64 za, .int .i64 zb]) := (hg3.block _ BF.out.lt (by intro e; injection e with e; omega)).trans BF.out
              have hz3 : w.heap.size + 2 ≤ w3.heap.size := by have := (HO3.out.lt g rfl).2; omega
              clear hm3 hg3 s0 s1
              obtain ⟨s0, s1, _, _⟩ := BF3.out.two
              have hlen : gs.length ≤ 2000000 := by have := HL10.out; omega
              go_wp2_with (at_builtin; go_must (refine wpList_append_fp rfl (.tmp 60) (.tmp 62) rfl (.slice (some ⟨g, 0, none⟩) gs.length cap) gs (by first | rfl | simp [Act.eval]) HO3.out za zb (by first | rfl | simp [Act.eval]) hlen hz3 ?_); intro v4 w4 ho4 hg4)
              have HW4 : Hid (NWP w #[.int .i64 s, .int .i64 t, .func (.func 148) #[] #[.pointer (some ⟨BQ, 0, none⟩), .pointer (some ⟨BA, 0, none⟩), .pointer (some ⟨BB, 0, none⟩)], .func (.func 149) #[] #[.pointer (some ⟨BA, 0, none⟩), .pointer (some ⟨BB, 0, none⟩)]] w4 v4 (gs ++ [[za, zb]])) := by
                have h5 : w.heap.size + 2 ≤ g := hg
                refine ⟨ho4, ⟨n + 1, _, HM3.out.kept hg4 (by simp [Value.ownBlock]; omega), HD2.out, by rw [List.length_append]; simp; omega⟩, (hg4.block _ HB3.out.lt (by simp [Value.ownBlock]; omega)).trans HB3.out, HS3.out.grown hg4 (fun j hj => by simp [Value.ownBlock] at hj; omega)⟩
              clear ho4 hg4
              go_roundw
              case rel => exact ⟨k + 1, gs ++ [[za, zb]], by omega, by rw [List.length_append]; omega, by go_num, HI2.out, HP2.out, HRn.out, HW4.out⟩
              case measure => simp [intOf]; omega
        · have hk9 : k = 9 := by omega
          subst hk9
          have hNp : gs.length ≤ N := HGL.out
          have hNq : gs.length ≤ 1000 := HL10.out
          have HRn : Hid (runG (prS A B) (N + 1 - (p + 1)) (p + 1) gs = F) := by
            have h1 := HRk.out
            rw [show N + 1 - (p + 1) = N - p from by omega]
            exact h1
          go_wp2
          go_roundw
          case rel => exact ⟨p + 1, gs, by omega, by omega, by go_num, HIk.out, HRn.out, HWk.out⟩
          case measure => simp [intOf]; omega
    · have HRn : Hid (F = fs) := by
        have h1 := HRr.out
        rw [runG_end _ _ p fs (by omega)] at h1
        exact h1.symm
      have hpn : ¬ ((p : Int) < (fs.length : Int)) := by omega
      obtain ⟨n, D, hm, hD, hnl⟩ := HWr.out.map
      have HMM := Lib.hid hm
      have HDD := Lib.hid hD
      clear hm hD
      go_wp2
      go_ret2
      rw [HRn.out]
      exact ⟨HWr.out.since, w.heap.size + 1, n, D, rfl, by omega, HMM.out, HDD.out, hnl⟩
end Go.Proofs.Ytmaagihfjldgeaa
