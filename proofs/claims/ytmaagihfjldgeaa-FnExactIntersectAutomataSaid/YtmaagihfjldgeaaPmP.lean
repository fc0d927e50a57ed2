/- The machine of two automata side by side: what it accepts, where its letters lead, and the machine itself. -/
import Derived.Test.YtmaagihfjldgeaaLwN
import Derived.Test.YtmaagihfjldgeaaMsM
import Derived.Test.YtmaagihfjldgeaaK1
import Derived.Test.YtmaagihfjldgeaaAuZ
import Derived.Laws.EntriesVeiled
namespace Go.Proofs.Ytmaagihfjldgeaa
set_option maxRecDepth 100000
open Go.ChangeShapes Go.WideShapes Go.ChangeAt Go.RowKit Go.Maps
set_option linter.unusedVariables false
set_option linter.unusedSimpArgs false

/-- The box of an automaton that a machine's functions read. -/
def DmB (A : Aut) (BX : Nat) (W : World) : Prop := ∃ ao ac bo bc, Blk W BX 39 #[.int .i64 A.st, .slice ao A.ac.length ac, .slice bo A.nx.length bc] ∧ AutAt W (.agg #[.int .i64 A.st, .slice ao A.ac.length ac, .slice bo A.nx.length bc]) A
theorem DmB.since {A : Aut} {BX : Nat} {W W' : World} (h : DmB A BX W) (k : Since W W') : DmB A BX W' := by
  obtain ⟨ao, ac, bo, bc, h1, h2⟩ := h
  exact ⟨ao, ac, bo, bc, h1.since k, h2.since k⟩
theorem Blk.oneF {w : World} {g : Nat} {t : TypeId} {a : Value} (h : Blk w g t #[a]) : w.cell? ⟨g, 0, none⟩ = some a := h.cell 0
/-- The boxes of the machine of two automata. -/
structure PmB (A B : Aut) (FV : Value) (BF BA BB : Nat) (W : World) : Prop where
  fn : Blk W BF 107 #[FV]
  a : DmB A BA W
  b : DmB B BB W
theorem PmB.since {A B : Aut} {FV : Value} {BF BA BB : Nat} {W W' : World} (h : PmB A B FV BF BA BB W) (k : Since W W') : PmB A B FV BF BA BB W' := ⟨h.fn.since k, h.a.since k, h.b.since k⟩
abbrev mchP (s t : Int) (BF BA BB : Nat) : Value := .agg #[.int .i64 s, .int .i64 t, .func (.func 148) #[] #[.pointer (some ⟨BF, 0, none⟩), .pointer (some ⟨BA, 0, none⟩), .pointer (some ⟨BB, 0, none⟩)], .func (.func 149) #[] #[.pointer (some ⟨BA, 0, none⟩), .pointer (some ⟨BB, 0, none⟩)]]
set_option maxHeartbeats 2000000 in
set_option maxRecDepth 100000 in
theorem nextP_any (A B : Aut) (FV : Value) (BF BA BB : Nat) (a b : Int) (k : Nat) (hk : k < 9) (hva : ValidA A) (hvb : ValidA B) (hqa : InQ A a) (hqb : InQ B b) (w : World) (h : PmB A B FV BF BA BB w) :
    Calls Try.prog 149 #[.agg #[.int .i64 a, .int .i64 b], .int .i64 (k : Nat), .pointer (some ⟨BA, 0, none⟩), .pointer (some ⟨BB, 0, none⟩)] w fun e w' => e = .returned (.tuple #[.agg #[.int .i64 (stpQ A a k), .int .i64 (stpQ B b k)], .bool true]) ∧ Since w w' := by
  obtain ⟨ao, ac, bo, bc, hbx, haut⟩ := h.a
  obtain ⟨co, cc1, dO, dc, hbx2, haut2⟩ := h.b
  have HBX := Lib.hid hbx
  have HAUT := Lib.hid haut
  have HBX2 := Lib.hid hbx2
  have HAUT2 := Lib.hid haut2
  have HFN := Lib.hid h.fn
  have HQa := Lib.hid hqa
  have HQb := Lib.hid hqb
  obtain ⟨n, hn⟩ : ∃ n, n = A.ac.length := ⟨_, rfl⟩
  obtain ⟨nn, hnn⟩ : ∃ n, n = A.nx.length := ⟨_, rfl⟩
  obtain ⟨m, hm⟩ : ∃ n, n = B.ac.length := ⟨_, rfl⟩
  obtain ⟨mm, hmm⟩ : ∃ n, n = B.nx.length := ⟨_, rfl⟩
  rw [← hn, ← hnn] at HBX HAUT
  rw [← hm, ← hmm] at HBX2 HAUT2
  clear hn hnn hm hmm hbx haut hbx2 haut2 h
  have HV := Lib.hid hva
  have HV2 := Lib.hid hvb
  obtain ⟨za, hza⟩ : ∃ z, z = stpQ A a k := ⟨_, rfl⟩
  obtain ⟨zb, hzb⟩ : ∃ z, z = stpQ B b k := ⟨_, rfl⟩
  rw [← hza, ← hzb]
  have HNA : Hid (∀ W, Since w W → Calls Try.prog 150 #[.agg #[.int .i64 A.st, .slice ao n ac, .slice bo nn bc], .int .i64 a, .int .i64 (k : Nat)] W fun e w' => e = .returned (.int .i64 za) ∧ Since W w') := fun W h2 => by rw [hza]; exact implNxt_any _ A a k W (HAUT.out.since h2) HV.out HQa.out hk
  have HNB : Hid (∀ W, Since w W → Calls Try.prog 150 #[.agg #[.int .i64 B.st, .slice co m cc1, .slice dO mm dc], .int .i64 b, .int .i64 (k : Nat)] W fun e w' => e = .returned (.int .i64 zb) ∧ Since W w') := fun W h2 => by rw [hzb]; exact implNxt_any _ B b k W (HAUT2.out.since h2) HV2.out HQb.out hk
  clear hza hzb hqa hqb hva hvb
  obtain ⟨y, hy⟩ : ∃ y, y = (w.alloc (.cells #[.int .i64 a, .int .i64 b] 100)).alloc (.cells #[.int .i64 0, .int .i64 0] 100) := ⟨_, rfl⟩
  have hs0 : Since w y := by rw [hy]; exact ((Since.refl w).alloc _).alloc _
  have B0 : Hid (Blk y w.heap.size 100 #[.int .i64 a, .int .i64 b]) := by rw [hy]; exact (Blk.new rfl _ _).alloc _
  have HR : Hid (Blk y (w.heap.size + 1) 100 #[.int .i64 0, .int .i64 0]) := by rw [hy]; exact Blk.new (by simp) _ _
  have HKC : Hid (∀ w', Since y w' → w'.cell? ⟨w.heap.size, 0, none⟩ = some (.int .i64 a) ∧ w'.cell? ⟨w.heap.size, 1, none⟩ = some (.int .i64 b) ∧ w'.cell? ⟨BA, 0, none⟩ = some (.int .i64 A.st) ∧ w'.cell? ⟨BA, 1, none⟩ = some (.slice ao n ac) ∧ w'.cell? ⟨BA, 2, none⟩ = some (.slice bo nn bc) ∧ w'.cell? ⟨BB, 0, none⟩ = some (.int .i64 B.st) ∧ w'.cell? ⟨BB, 1, none⟩ = some (.slice co m cc1) ∧ w'.cell? ⟨BB, 2, none⟩ = some (.slice dO mm dc)) := by
    intro w' hs
    obtain ⟨r0, r1, _, _⟩ := (B0.out.since hs).two
    obtain ⟨⟨r2, r3, r4⟩, _⟩ := (HBX.out.since (hs0.trans hs)).threeA
    obtain ⟨⟨r5, r6, r7⟩, _⟩ := (HBX2.out.since (hs0.trans hs)).threeA
    exact ⟨r0, r1, r2, r3, r4, r5, r6, r7⟩
  have HKF : Hid (∀ w', Since y w' → (fun w' => w'.cell? ⟨w.heap.size, 0, none⟩ = some (.int .i64 a) ∧ w'.cell? ⟨w.heap.size, 1, none⟩ = some (.int .i64 b) ∧ w'.cell? ⟨BA, 0, none⟩ = some (.int .i64 A.st) ∧ w'.cell? ⟨BA, 1, none⟩ = some (.slice ao n ac) ∧ w'.cell? ⟨BA, 2, none⟩ = some (.slice bo nn bc) ∧ w'.cell? ⟨BB, 0, none⟩ = some (.int .i64 B.st) ∧ w'.cell? ⟨BB, 1, none⟩ = some (.slice co m cc1) ∧ w'.cell? ⟨BB, 2, none⟩ = some (.slice dO mm dc)) ((w'.setCell ⟨w.heap.size + 1, 0, none⟩ (.int .i64 za)).setCell ⟨w.heap.size + 1, 1, none⟩ (.int .i64 zb))) := by
    intro w' hs
    have hb1 := HBX.out.lt
    have hb2 := HBX2.out.lt
    obtain ⟨r0, r1, _, _⟩ := (((B0.out.since hs).far (p := ⟨w.heap.size + 1, 0, none⟩) (by simp) (.int .i64 za)).far (p := ⟨w.heap.size + 1, 1, none⟩) (by simp) (.int .i64 zb)).two
    obtain ⟨⟨r2, r3, r4⟩, _⟩ := (((HBX.out.since (hs0.trans hs)).far (p := ⟨w.heap.size + 1, 0, none⟩) (by simp; omega) (.int .i64 za)).far (p := ⟨w.heap.size + 1, 1, none⟩) (by simp; omega) (.int .i64 zb)).threeA
    obtain ⟨⟨r5, r6, r7⟩, _⟩ := (((HBX2.out.since (hs0.trans hs)).far (p := ⟨w.heap.size + 1, 0, none⟩) (by simp; omega) (.int .i64 za)).far (p := ⟨w.heap.size + 1, 1, none⟩) (by simp; omega) (.int .i64 zb)).threeA
    exact ⟨r0, r1, r2, r3, r4, r5, r6, r7⟩
  have HY := Lib.hid hy
  clear hy
  go_enter Try.func149, Try.ntmps149
  go_wp2_with fail
  rw [← HY.out]
  refine wp_region_held_drew (S := (fun w' => w'.cell? ⟨w.heap.size, 0, none⟩ = some (.int .i64 a) ∧ w'.cell? ⟨w.heap.size, 1, none⟩ = some (.int .i64 b) ∧ w'.cell? ⟨BA, 0, none⟩ = some (.int .i64 A.st) ∧ w'.cell? ⟨BA, 1, none⟩ = some (.slice ao n ac) ∧ w'.cell? ⟨BA, 2, none⟩ = some (.slice bo nn bc) ∧ w'.cell? ⟨BB, 0, none⟩ = some (.int .i64 B.st) ∧ w'.cell? ⟨BB, 1, none⟩ = some (.slice co m cc1) ∧ w'.cell? ⟨BB, 2, none⟩ = some (.slice dO mm dc))) (by kernel_rfl) (HKC.out _ (Since.refl _).drew) (fun hHeld => ?_)
  refine take_yes 0 (some 8) (v := ?_) rfl (by kernel_rfl) (by kernel_rfl) (by kernel_rfl) (by kernel_rfl) (fun _ _ _ h => h) (by rfl) (by assumption) ?_ ?_
  rotate_left
  · (intro w' hSw; (try dsimp only at hSw); go_simp; try with_reducible rfl)
  try simp only [Act.put, List.setIfInBounds_toArray, List.set_cons_zero, List.set_cons_succ]
  refine take_yes 1 (some 9) (v := ?_) rfl (by kernel_rfl) (by kernel_rfl) (by kernel_rfl) (by kernel_rfl) (fun _ _ _ h => h) (by rfl) (by assumption) ?_ ?_
  rotate_left
  · (intro w' hSw; (try dsimp only at hSw); go_simp; try with_reducible rfl)
  try simp only [Act.put, List.setIfInBounds_toArray, List.set_cons_zero, List.set_cons_succ]
  refine take_yes 2 (some 10) (v := ?_) rfl (by kernel_rfl) (by kernel_rfl) (by kernel_rfl) (by kernel_rfl) (fun _ _ _ h => h) (by rfl) (by assumption) ?_ ?_
  rotate_left
  · (intro w' hSw; (try dsimp only at hSw); go_simp; try with_reducible rfl)
  try simp only [Act.put, List.setIfInBounds_toArray, List.set_cons_zero, List.set_cons_succ]
  refine take_yes 3 (some 11) (v := ?_) rfl (by kernel_rfl) (by kernel_rfl) (by kernel_rfl) (by kernel_rfl) (fun _ _ _ h => h) (by rfl) (by assumption) ?_ ?_
  rotate_left
  · (intro w' hSw; (try dsimp only at hSw); go_simp; try with_reducible rfl)
  try simp only [Act.put, List.setIfInBounds_toArray, List.set_cons_zero, List.set_cons_succ]
  refine take_yes 5 (some 13) (v := ?_) rfl (by kernel_rfl) (by kernel_rfl) (by kernel_rfl) (by kernel_rfl) (fun _ _ _ h => h) (by rfl) (by assumption) ?_ ?_
  rotate_left
  · (intro w' hSw; (try dsimp only at hSw); go_simp; try with_reducible rfl)
  try simp only [Act.put, List.setIfInBounds_toArray, List.set_cons_zero, List.set_cons_succ]
  refine take_yes 6 (some 14) (v := ?_) rfl (by kernel_rfl) (by kernel_rfl) (by kernel_rfl) (by kernel_rfl) (fun _ _ _ h => h) (by rfl) (by assumption) ?_ ?_
  rotate_left
  · (intro w' hSw; (try dsimp only at hSw); go_simp; try with_reducible rfl)
  try simp only [Act.put, List.setIfInBounds_toArray, List.set_cons_zero, List.set_cons_succ]
  refine take_yes 7 (some 15) (v := ?_) rfl (by kernel_rfl) (by kernel_rfl) (by kernel_rfl) (by kernel_rfl) (fun _ _ _ h => h) (by rfl) (by assumption) ?_ ?_
  rotate_left
  · (intro w' hSw; (try dsimp only at hSw); go_simp; try with_reducible rfl)
  try simp only [Act.put, List.setIfInBounds_toArray, List.set_cons_zero, List.set_cons_succ]
  refine take_yes 8 (some 16) (v := ?_) rfl (by kernel_rfl) (by kernel_rfl) (by kernel_rfl) (by kernel_rfl) (fun _ _ _ h => h) (by rfl) (by assumption) ?_ ?_
  rotate_left
  · (intro w' hSw; (try dsimp only at hSw); go_simp; try with_reducible rfl)
  try simp only [Act.put, List.setIfInBounds_toArray, List.set_cons_zero, List.set_cons_succ]
  refine take_run 4 rfl (by kernel_rfl) (by rfl) (fun K hK => ?_)
  go_simp
  refine (HNA.out _ (hs0.trans ((Since.refl y).drew))).mono ?_
  rintro en wq11 ⟨rfl, hq⟩
  have hc12 := ((Since.refl y).drew).trans hq
  refine hK.out _ _ (HKC.out _ hc12) (fun hHeld10 => ?_)
  clear hK K hHeld hq
  try simp only [Act.put, List.setIfInBounds_toArray, List.set_cons_zero, List.set_cons_succ]
  refine take_run 9 rfl (by kernel_rfl) (by rfl) (fun K hK => ?_)
  go_simp
  refine (HNB.out _ (hs0.trans (hc12))).mono ?_
  rintro en wq14 ⟨rfl, hq⟩
  have hc15 := (hc12).trans hq
  refine hK.out _ _ (HKC.out _ hc15) (fun hHeld13 => ?_)
  clear hK K hHeld10 hq
  try simp only [Act.put, List.setIfInBounds_toArray, List.set_cons_zero, List.set_cons_succ]
  refine take_yes 10 (some 18) (v := ?_) rfl (by kernel_rfl) (by kernel_rfl) (by kernel_rfl) (by kernel_rfl) (fun _ _ _ h => h) (by rfl) (by assumption) ?_ ?_
  rotate_left
  · (intro w' hSw; (try dsimp only at hSw); go_simp; try with_reducible rfl)
  try simp only [Act.put, List.setIfInBounds_toArray, List.set_cons_zero, List.set_cons_succ]
  refine take_run 11 rfl (by kernel_rfl) (by rfl) (fun K hK => ?_)
  obtain ⟨s0, s1, s2, s3⟩ := (HR.out.since (hc15)).two
  go_simp
  clear s0 s1 s2 s3
  have hcF := ((Since.setCell (hs0.trans (hc15)) (a := ⟨w.heap.size + 1, 0, none⟩) (by simp) (.int .i64 za)).setCell (a := ⟨w.heap.size + 1, 1, none⟩) (by simp) (.int .i64 zb))
  refine hK.out _ _ (HKF.out _ (hc15)) (fun hHeld16 => ?_)
  clear hK K hHeld13
  try simp only [Act.put, List.setIfInBounds_toArray, List.set_cons_zero, List.set_cons_succ]
  refine take_yes 12 (some 7) (v := ?_) rfl (by kernel_rfl) (by kernel_rfl) (by kernel_rfl) (by kernel_rfl) (fun _ _ _ h => h) (by rfl) (by assumption) ?_ ?_
  rotate_left
  · (intro w' hSw; (try dsimp only at hSw); go_simp; try with_reducible rfl)
  try simp only [Act.put, List.setIfInBounds_toArray, List.set_cons_zero, List.set_cons_succ]
  refine wpAnyH_done (by kernel_rfl) ?_ _
  clear hHeld16 HKF HKC
  have HSF := Lib.hid hcF
  clear hcF
  have HRC := Lib.hid (((HR.out.since (hc15)).set 0 (.int .i64 za)).set 1 (.int .i64 zb))
  obtain ⟨r0, r1, r2, r3⟩ := HRC.out.two
  go_wp2_with fail
  refine bodyPost_ret (v := .tuple #[.agg #[.int .i64 za, .int .i64 zb], .bool true]) (by simp [results, Try.results149, go_sem, *]) rfl ?_
  exact ⟨rfl, by first | exact HSF.out | exact HSF.out.drewN _ | exact HSF.out.drew⟩
set_option maxHeartbeats 2000000 in
set_option maxRecDepth 100000 in
theorem pairM_any (v u : Value) (fn : Fn) (A B : Aut) (w : World) (h : AutAt w v A) (h2 : AutAt w u B) : Calls Try.prog 94 #[v, u, .func fn #[] #[]] w fun e w' => ∃ BF BA BB, e = .returned (mchP A.st B.st BF BA BB) ∧ PmB A B (.func fn #[] #[]) BF BA BB w' ∧ Since w w' := by
  have HA := Lib.hid h
  have HB := Lib.hid h2
  obtain ⟨a, b, rfl, _, ha, hb⟩ := h
  obtain ⟨ao, ac, rfl⟩ := ha.len
  obtain ⟨bo, bc, rfl⟩ := hb.len
  obtain ⟨a2, b2, rfl, _, ha2, hb2⟩ := h2
  obtain ⟨co, cc1, rfl⟩ := ha2.len
  obtain ⟨dO, dc, rfl⟩ := hb2.len
  clear ha hb ha2 hb2
  obtain ⟨OB, hOB⟩ : ∃ q, q = w.alloc (.cells #[.int .i64 A.st, .slice ao A.ac.length ac, .slice bo A.nx.length bc] 39) := ⟨_, rfl⟩
  obtain ⟨OC, hOC⟩ : ∃ q, q = OB.alloc (.cells #[.int .i64 B.st, .slice co B.ac.length cc1, .slice dO B.nx.length dc] 39) := ⟨_, rfl⟩
  obtain ⟨OD, hOD⟩ : ∃ q, q = OC.alloc (.cells #[.func fn #[] #[]] 107) := ⟨_, rfl⟩
  obtain ⟨y, hy⟩ : ∃ y, y = OD.alloc (.cells #[.int .i64 0, .int .i64 0, .nilFunc, .nilFunc] 104) := ⟨_, rfl⟩
  have z1 : OB.heap.size = w.heap.size + 1 := by rw [hOB]; simp
  have z2 : OC.heap.size = w.heap.size + 2 := by rw [hOC]; simp; omega
  have z3 : OD.heap.size = w.heap.size + 3 := by rw [hOD]; simp; omega
  have k1 : Since w OB := by rw [hOB]; exact (Since.refl _).alloc _
  have k2 : Since OB OC := by rw [hOC]; exact (Since.refl _).alloc _
  have k3 : Since OC OD := by rw [hOD]; exact (Since.refl _).alloc _
  have k4 : Since OD y := by rw [hy]; exact (Since.refl _).alloc _
  have hs0 : Since w y := ((k1.trans k2).trans k3).trans k4
  have BA0 : Hid (Blk y w.heap.size 39 #[.int .i64 A.st, .slice ao A.ac.length ac, .slice bo A.nx.length bc]) := by
    have h : Blk OB w.heap.size 39 #[.int .i64 A.st, .slice ao A.ac.length ac, .slice bo A.nx.length bc] := by rw [hOB]; exact Blk.new rfl _ _
    exact h.since ((k2.trans k3).trans k4)
  have BB0 : Hid (Blk y (w.heap.size + 1) 39 #[.int .i64 B.st, .slice co B.ac.length cc1, .slice dO B.nx.length dc]) := by
    have h : Blk OC (w.heap.size + 1) 39 #[.int .i64 B.st, .slice co B.ac.length cc1, .slice dO B.nx.length dc] := by rw [hOC]; exact Blk.new z1.symm _ _
    exact h.since (k3.trans k4)
  have BF0 : Hid (Blk y (w.heap.size + 2) 107 #[.func fn #[] #[]]) := by
    have h : Blk OD (w.heap.size + 2) 107 #[.func fn #[] #[]] := by rw [hOD]; exact Blk.new z2.symm _ _
    exact h.since k4
  have B1 : Hid (Blk y (w.heap.size + 3) 104 #[.int .i64 0, .int .i64 0, .nilFunc, .nilFunc]) := by rw [hy]; exact Blk.new z3.symm _ _
  have HY : Hid (y = (((w.alloc (.cells #[.int .i64 A.st, .slice ao A.ac.length ac, .slice bo A.nx.length bc] 39)).alloc (.cells #[.int .i64 B.st, .slice co B.ac.length cc1, .slice dO B.nx.length dc] 39)).alloc (.cells #[.func fn #[] #[]] 107)).alloc (.cells #[.int .i64 0, .int .i64 0, .nilFunc, .nilFunc] 104)) := by rw [hy, hOD, hOC, hOB]; exact rfl
  clear hy hOB hOC hOD z1 z2 z3 k1 k2 k3 k4
  go_enter Try.func94, Try.ntmps94
  go_upto_region 1 with fail
  rw [← HY.out]
  obtain ⟨⟨p0, p1, p2⟩, _⟩ := BA0.out.threeA
  obtain ⟨⟨q0, q1, q2⟩, _⟩ := BB0.out.threeA
  obtain ⟨r0, r1, r2, r3, r4, r5, r6, r7⟩ := B1.out.four
  go_wp2
  refine bodyPost_ret (v := mchP A.st B.st (w.heap.size + 2) w.heap.size (w.heap.size + 1)) (by simp [results, Try.results94, go_sem, *]) rfl ?_
  have hS : ∀ (W W' : World) (i : Nat) (u : Value), Since w W → Since w (W.setCell ⟨w.heap.size + 3, i, none⟩ u) := fun W W' i u k => k.setCell (by show w.heap.size ≤ w.heap.size + 3; omega) _
  have hP : ∀ (W : World) (g i : Nat) (u : Value) (t : TypeId) (cs : Array Value), g < w.heap.size + 3 → Blk W g t cs → Blk (W.setCell ⟨w.heap.size + 3, i, none⟩ u) g t cs := fun W g i u t cs hg k => k.far (by simp; omega) _
  refine ⟨_, _, _, rfl, ⟨?_, ⟨ao, ac, bo, bc, ?_, HA.out.since ?_⟩, ⟨co, cc1, dO, dc, ?_, HB.out.since ?_⟩⟩, ?_⟩
  · iterate 4 (refine hP _ _ _ _ _ _ (by omega) ?_)
    exact BF0.out
  · iterate 4 (refine hP _ _ _ _ _ _ (by omega) ?_)
    exact BA0.out
  · iterate 4 (refine hS _ w _ _ ?_)
    exact hs0
  · iterate 4 (refine hP _ _ _ _ _ _ (by omega) ?_)
    exact BB0.out
  · iterate 4 (refine hS _ w _ _ ?_)
    exact hs0
  · iterate 4 (refine hS _ w _ _ ?_)
    exact hs0
set_option maxRecDepth 100000 in
theorem inOne_any (x y : Bool) (w : World) : Calls Try.prog 96 #[.bool x, .bool y] w fun e w' => e = .returned (.bool (opOne x y)) ∧ Since w w' := by
  cases x <;> cases y
  all_goals
    go_enter Try.func96, Try.ntmps96
    go_wp2
    go_ret
    exact ⟨rfl, Since.refl _⟩
set_option maxHeartbeats 2000000 in
set_option maxRecDepth 100000 in
theorem accOne_any (A B : Aut) (BF BA BB : Nat) (a b : Int) (hqa : InQ A a) (hqb : InQ B b) (w : World) (h : PmB A B (.func (.func 96) #[] #[]) BF BA BB w) :
    Calls Try.prog 148 #[.agg #[.int .i64 a, .int .i64 b], .pointer (some ⟨BF, 0, none⟩), .pointer (some ⟨BA, 0, none⟩), .pointer (some ⟨BB, 0, none⟩)] w fun e w' => e = .returned (.bool (accT opOne A B [a, b])) ∧ Since w w' := by
  show Calls Try.prog 148 #[.agg #[.int .i64 a, .int .i64 b], .pointer (some ⟨BF, 0, none⟩), .pointer (some ⟨BA, 0, none⟩), .pointer (some ⟨BB, 0, none⟩)] w fun e w' => e = .returned (.bool (opOne (accI A a) (accI B b))) ∧ Since w w'
  obtain ⟨ao, ac, bo, bc, hbx, haut⟩ := h.a
  obtain ⟨co, cc1, dO, dc, hbx2, haut2⟩ := h.b
  have HBX := Lib.hid hbx
  have HAUT := Lib.hid haut
  have HBX2 := Lib.hid hbx2
  have HAUT2 := Lib.hid haut2
  have HFN := Lib.hid h.fn
  have HQa := Lib.hid hqa
  have HQb := Lib.hid hqb
  obtain ⟨n, hn⟩ : ∃ n, n = A.ac.length := ⟨_, rfl⟩
  obtain ⟨nn, hnn⟩ : ∃ n, n = A.nx.length := ⟨_, rfl⟩
  obtain ⟨m, hm⟩ : ∃ n, n = B.ac.length := ⟨_, rfl⟩
  obtain ⟨mm, hmm⟩ : ∃ n, n = B.nx.length := ⟨_, rfl⟩
  rw [← hn, ← hnn] at HBX HAUT
  rw [← hm, ← hmm] at HBX2 HAUT2
  clear hn hnn hm hmm hbx haut hbx2 haut2 h
  obtain ⟨X, hX⟩ : ∃ X, X = accI A a := ⟨_, rfl⟩
  obtain ⟨Y, hY⟩ : ∃ X, X = accI B b := ⟨_, rfl⟩
  obtain ⟨Z, hZ⟩ : ∃ q, q = opOne X Y := ⟨_, rfl⟩
  rw [← hX, ← hY, ← hZ]
  have HAI : Hid (∀ W, Since w W → Calls Try.prog 102 #[.agg #[.int .i64 A.st, .slice ao n ac, .slice bo nn bc], .int .i64 a] W fun e w' => e = .returned (.bool X) ∧ Since W w') := fun W h2 => by rw [hX]; exact accIn_any _ A a W (HAUT.out.since h2) HQa.out
  have HBI : Hid (∀ W, Since w W → Calls Try.prog 102 #[.agg #[.int .i64 B.st, .slice co m cc1, .slice dO mm dc], .int .i64 b] W fun e w' => e = .returned (.bool Y) ∧ Since W w') := fun W h2 => by rw [hY]; exact accIn_any _ B b W (HAUT2.out.since h2) HQb.out
  have HOP : Hid (∀ W, Calls Try.prog 96 #[.bool X, .bool Y] W fun e w' => e = .returned (.bool Z) ∧ Since W w') := fun W => by rw [hZ]; exact inOne_any X Y W
  clear hqa hqb hX hY hZ
  obtain ⟨y, hy⟩ : ∃ y, y = w.alloc (.cells #[.int .i64 a, .int .i64 b] 100) := ⟨_, rfl⟩
  have hs0 : Since w y := by rw [hy]; exact (Since.refl w).alloc _
  have B0 : Hid (Blk y w.heap.size 100 #[.int .i64 a, .int .i64 b]) := by rw [hy]; exact Blk.new rfl _ _
  have HKC : Hid (∀ w', Since y w' → w'.cell? ⟨w.heap.size, 0, none⟩ = some (.int .i64 a) ∧ w'.cell? ⟨w.heap.size, 1, none⟩ = some (.int .i64 b) ∧ w'.cell? ⟨BA, 0, none⟩ = some (.int .i64 A.st) ∧ w'.cell? ⟨BA, 1, none⟩ = some (.slice ao n ac) ∧ w'.cell? ⟨BA, 2, none⟩ = some (.slice bo nn bc) ∧ w'.cell? ⟨BB, 0, none⟩ = some (.int .i64 B.st) ∧ w'.cell? ⟨BB, 1, none⟩ = some (.slice co m cc1) ∧ w'.cell? ⟨BB, 2, none⟩ = some (.slice dO mm dc) ∧ w'.cell? ⟨BF, 0, none⟩ = some (.func (.func 96) #[] #[])) := by
    intro w' hs
    obtain ⟨r0, r1, _, _⟩ := (B0.out.since hs).two
    obtain ⟨⟨r2, r3, r4⟩, _⟩ := (HBX.out.since (hs0.trans hs)).threeA
    obtain ⟨⟨r5, r6, r7⟩, _⟩ := (HBX2.out.since (hs0.trans hs)).threeA
    exact ⟨r0, r1, r2, r3, r4, r5, r6, r7, (HFN.out.since (hs0.trans hs)).oneF⟩
  have HY := Lib.hid hy
  clear hy
  go_enter Try.func148, Try.ntmps148
  go_wp2_with fail
  rw [← HY.out]
  refine wp_region_held_drew (S := (fun w' => w'.cell? ⟨w.heap.size, 0, none⟩ = some (.int .i64 a) ∧ w'.cell? ⟨w.heap.size, 1, none⟩ = some (.int .i64 b) ∧ w'.cell? ⟨BA, 0, none⟩ = some (.int .i64 A.st) ∧ w'.cell? ⟨BA, 1, none⟩ = some (.slice ao n ac) ∧ w'.cell? ⟨BA, 2, none⟩ = some (.slice bo nn bc) ∧ w'.cell? ⟨BB, 0, none⟩ = some (.int .i64 B.st) ∧ w'.cell? ⟨BB, 1, none⟩ = some (.slice co m cc1) ∧ w'.cell? ⟨BB, 2, none⟩ = some (.slice dO mm dc) ∧ w'.cell? ⟨BF, 0, none⟩ = some (.func (.func 96) #[] #[]))) (by kernel_rfl) (HKC.out _ (Since.refl _).drew) (fun hHeld => ?_)
  refine take_yes 0 (some 6) (v := ?_) rfl (by kernel_rfl) (by kernel_rfl) (by kernel_rfl) (by kernel_rfl) (fun _ _ _ h => h) (by rfl) (by assumption) ?_ ?_
  rotate_left
  · (intro w' hSw; (try dsimp only at hSw); go_simp; try with_reducible rfl)
  try simp only [Act.put, List.setIfInBounds_toArray, List.set_cons_zero, List.set_cons_succ]
  refine take_yes 1 (some 7) (v := ?_) rfl (by kernel_rfl) (by kernel_rfl) (by kernel_rfl) (by kernel_rfl) (fun _ _ _ h => h) (by rfl) (by assumption) ?_ ?_
  rotate_left
  · (intro w' hSw; (try dsimp only at hSw); go_simp; try with_reducible rfl)
  try simp only [Act.put, List.setIfInBounds_toArray, List.set_cons_zero, List.set_cons_succ]
  refine take_yes 2 (some 8) (v := ?_) rfl (by kernel_rfl) (by kernel_rfl) (by kernel_rfl) (by kernel_rfl) (fun _ _ _ h => h) (by rfl) (by assumption) ?_ ?_
  rotate_left
  · (intro w' hSw; (try dsimp only at hSw); go_simp; try with_reducible rfl)
  try simp only [Act.put, List.setIfInBounds_toArray, List.set_cons_zero, List.set_cons_succ]
  refine take_yes 3 (some 9) (v := ?_) rfl (by kernel_rfl) (by kernel_rfl) (by kernel_rfl) (by kernel_rfl) (fun _ _ _ h => h) (by rfl) (by assumption) ?_ ?_
  rotate_left
  · (intro w' hSw; (try dsimp only at hSw); go_simp; try with_reducible rfl)
  try simp only [Act.put, List.setIfInBounds_toArray, List.set_cons_zero, List.set_cons_succ]
  refine take_yes 5 (some 11) (v := ?_) rfl (by kernel_rfl) (by kernel_rfl) (by kernel_rfl) (by kernel_rfl) (fun _ _ _ h => h) (by rfl) (by assumption) ?_ ?_
  rotate_left
  · (intro w' hSw; (try dsimp only at hSw); go_simp; try with_reducible rfl)
  try simp only [Act.put, List.setIfInBounds_toArray, List.set_cons_zero, List.set_cons_succ]
  refine take_yes 6 (some 12) (v := ?_) rfl (by kernel_rfl) (by kernel_rfl) (by kernel_rfl) (by kernel_rfl) (fun _ _ _ h => h) (by rfl) (by assumption) ?_ ?_
  rotate_left
  · (intro w' hSw; (try dsimp only at hSw); go_simp; try with_reducible rfl)
  try simp only [Act.put, List.setIfInBounds_toArray, List.set_cons_zero, List.set_cons_succ]
  refine take_yes 7 (some 13) (v := ?_) rfl (by kernel_rfl) (by kernel_rfl) (by kernel_rfl) (by kernel_rfl) (fun _ _ _ h => h) (by rfl) (by assumption) ?_ ?_
  rotate_left
  · (intro w' hSw; (try dsimp only at hSw); go_simp; try with_reducible rfl)
  try simp only [Act.put, List.setIfInBounds_toArray, List.set_cons_zero, List.set_cons_succ]
  refine take_run 4 rfl (by kernel_rfl) (by rfl) (fun K hK => ?_)
  go_simp
  refine (HAI.out _ (hs0.trans ((Since.refl y).drew))).mono ?_
  rintro en wq2 ⟨rfl, hq⟩
  have hc3 := ((Since.refl y).drew).trans hq
  refine hK.out _ _ (HKC.out _ hc3) (fun hHeld1 => ?_)
  clear hK K hHeld hq
  try simp only [Act.put, List.setIfInBounds_toArray, List.set_cons_zero, List.set_cons_succ]
  refine take_run 8 rfl (by kernel_rfl) (by rfl) (fun K hK => ?_)
  go_simp
  refine (HBI.out _ (hs0.trans (hc3))).mono ?_
  rintro en wq5 ⟨rfl, hq⟩
  have hc6 := (hc3).trans hq
  refine hK.out _ _ (HKC.out _ hc6) (fun hHeld4 => ?_)
  clear hK K hHeld1 hq
  try simp only [Act.put, List.setIfInBounds_toArray, List.set_cons_zero, List.set_cons_succ]
  refine take_run 9 rfl (by kernel_rfl) (by rfl) (fun K hK => ?_)
  go_simp
  refine (HOP.out _).mono ?_
  rintro en wq8 ⟨rfl, hq⟩
  have hc9 := (hc6).trans hq
  refine hK.out _ _ (HKC.out _ hc9) (fun hHeld7 => ?_)
  clear hK K hHeld4 hq
  try simp only [Act.put, List.setIfInBounds_toArray, List.set_cons_zero, List.set_cons_succ]
  refine take_yes 10 (some 5) (v := ?_) rfl (by kernel_rfl) (by kernel_rfl) (by kernel_rfl) (by kernel_rfl) (fun _ _ _ h => h) (by rfl) (by assumption) ?_ ?_
  rotate_left
  · (intro w' hSw; (try dsimp only at hSw); go_simp; try with_reducible rfl)
  try simp only [Act.put, List.setIfInBounds_toArray, List.set_cons_zero, List.set_cons_succ]
  refine wpAnyH_done (by kernel_rfl) ?_ _
  clear hHeld7
  have hcA := hc9
  go_wp2_with fail
  go_ret
  exact ⟨rfl, hs0.trans hcA⟩
set_option maxRecDepth 100000 in
theorem inMinus_any (x y : Bool) (w : World) : Calls Try.prog 105 #[.bool x, .bool y] w fun e w' => e = .returned (.bool (opMinus x y)) ∧ Since w w' := by
  cases x <;> cases y
  all_goals
    go_enter Try.func105, Try.ntmps105
    go_wp2
    go_ret
    exact ⟨rfl, Since.refl _⟩
set_option maxHeartbeats 2000000 in
set_option maxRecDepth 100000 in
theorem accMinus_any (A B : Aut) (BF BA BB : Nat) (a b : Int) (hqa : InQ A a) (hqb : InQ B b) (w : World) (h : PmB A B (.func (.func 105) #[] #[]) BF BA BB w) :
    Calls Try.prog 148 #[.agg #[.int .i64 a, .int .i64 b], .pointer (some ⟨BF, 0, none⟩), .pointer (some ⟨BA, 0, none⟩), .pointer (some ⟨BB, 0, none⟩)] w fun e w' => e = .returned (.bool (accT opMinus A B [a, b])) ∧ Since w w' := by
  show Calls Try.prog 148 #[.agg #[.int .i64 a, .int .i64 b], .pointer (some ⟨BF, 0, none⟩), .pointer (some ⟨BA, 0, none⟩), .pointer (some ⟨BB, 0, none⟩)] w fun e w' => e = .returned (.bool (opMinus (accI A a) (accI B b))) ∧ Since w w'
  obtain ⟨ao, ac, bo, bc, hbx, haut⟩ := h.a
  obtain ⟨co, cc1, dO, dc, hbx2, haut2⟩ := h.b
  have HBX := Lib.hid hbx
  have HAUT := Lib.hid haut
  have HBX2 := Lib.hid hbx2
  have HAUT2 := Lib.hid haut2
  have HFN := Lib.hid h.fn
  have HQa := Lib.hid hqa
  have HQb := Lib.hid hqb
  obtain ⟨n, hn⟩ : ∃ n, n = A.ac.length := ⟨_, rfl⟩
  obtain ⟨nn, hnn⟩ : ∃ n, n = A.nx.length := ⟨_, rfl⟩
  obtain ⟨m, hm⟩ : ∃ n, n = B.ac.length := ⟨_, rfl⟩
  obtain ⟨mm, hmm⟩ : ∃ n, n = B.nx.length := ⟨_, rfl⟩
  rw [← hn, ← hnn] at HBX HAUT
  rw [← hm, ← hmm] at HBX2 HAUT2
  clear hn hnn hm hmm hbx haut hbx2 haut2 h
  obtain ⟨X, hX⟩ : ∃ X, X = accI A a := ⟨_, rfl⟩
  obtain ⟨Y, hY⟩ : ∃ X, X = accI B b := ⟨_, rfl⟩
  obtain ⟨Z, hZ⟩ : ∃ q, q = opMinus X Y := ⟨_, rfl⟩
  rw [← hX, ← hY, ← hZ]
  have HAI : Hid (∀ W, Since w W → Calls Try.prog 102 #[.agg #[.int .i64 A.st, .slice ao n ac, .slice bo nn bc], .int .i64 a] W fun e w' => e = .returned (.bool X) ∧ Since W w') := fun W h2 => by rw [hX]; exact accIn_any _ A a W (HAUT.out.since h2) HQa.out
  have HBI : Hid (∀ W, Since w W → Calls Try.prog 102 #[.agg #[.int .i64 B.st, .slice co m cc1, .slice dO mm dc], .int .i64 b] W fun e w' => e = .returned (.bool Y) ∧ Since W w') := fun W h2 => by rw [hY]; exact accIn_any _ B b W (HAUT2.out.since h2) HQb.out
  have HOP : Hid (∀ W, Calls Try.prog 105 #[.bool X, .bool Y] W fun e w' => e = .returned (.bool Z) ∧ Since W w') := fun W => by rw [hZ]; exact inMinus_any X Y W
  clear hqa hqb hX hY hZ
  obtain ⟨y, hy⟩ : ∃ y, y = w.alloc (.cells #[.int .i64 a, .int .i64 b] 100) := ⟨_, rfl⟩
  have hs0 : Since w y := by rw [hy]; exact (Since.refl w).alloc _
  have B0 : Hid (Blk y w.heap.size 100 #[.int .i64 a, .int .i64 b]) := by rw [hy]; exact Blk.new rfl _ _
  have HKC : Hid (∀ w', Since y w' → w'.cell? ⟨w.heap.size, 0, none⟩ = some (.int .i64 a) ∧ w'.cell? ⟨w.heap.size, 1, none⟩ = some (.int .i64 b) ∧ w'.cell? ⟨BA, 0, none⟩ = some (.int .i64 A.st) ∧ w'.cell? ⟨BA, 1, none⟩ = some (.slice ao n ac) ∧ w'.cell? ⟨BA, 2, none⟩ = some (.slice bo nn bc) ∧ w'.cell? ⟨BB, 0, none⟩ = some (.int .i64 B.st) ∧ w'.cell? ⟨BB, 1, none⟩ = some (.slice co m cc1) ∧ w'.cell? ⟨BB, 2, none⟩ = some (.slice dO mm dc) ∧ w'.cell? ⟨BF, 0, none⟩ = some (.func (.func 105) #[] #[])) := by
    intro w' hs
    obtain ⟨r0, r1, _, _⟩ := (B0.out.since hs).two
    obtain ⟨⟨r2, r3, r4⟩, _⟩ := (HBX.out.since (hs0.trans hs)).threeA
    obtain ⟨⟨r5, r6, r7⟩, _⟩ := (HBX2.out.since (hs0.trans hs)).threeA
    exact ⟨r0, r1, r2, r3, r4, r5, r6, r7, (HFN.out.since (hs0.trans hs)).oneF⟩
  have HY := Lib.hid hy
  clear hy
  go_enter Try.func148, Try.ntmps148
  go_wp2_with fail
  rw [← HY.out]
  refine wp_region_held_drew (S := (fun w' => w'.cell? ⟨w.heap.size, 0, none⟩ = some (.int .i64 a) ∧ w'.cell? ⟨w.heap.size, 1, none⟩ = some (.int .i64 b) ∧ w'.cell? ⟨BA, 0, none⟩ = some (.int .i64 A.st) ∧ w'.cell? ⟨BA, 1, none⟩ = some (.slice ao n ac) ∧ w'.cell? ⟨BA, 2, none⟩ = some (.slice bo nn bc) ∧ w'.cell? ⟨BB, 0, none⟩ = some (.int .i64 B.st) ∧ w'.cell? ⟨BB, 1, none⟩ = some (.slice co m cc1) ∧ w'.cell? ⟨BB, 2, none⟩ = some (.slice dO mm dc) ∧ w'.cell? ⟨BF, 0, none⟩ = some (.func (.func 105) #[] #[]))) (by kernel_rfl) (HKC.out _ (Since.refl _).drew) (fun hHeld => ?_)
  refine take_yes 0 (some 6) (v := ?_) rfl (by kernel_rfl) (by kernel_rfl) (by kernel_rfl) (by kernel_rfl) (fun _ _ _ h => h) (by rfl) (by assumption) ?_ ?_
  rotate_left
  · (intro w' hSw; (try dsimp only at hSw); go_simp; try with_reducible rfl)
  try simp only [Act.put, List.setIfInBounds_toArray, List.set_cons_zero, List.set_cons_succ]
  refine take_yes 1 (some 7) (v := ?_) rfl (by kernel_rfl) (by kernel_rfl) (by kernel_rfl) (by kernel_rfl) (fun _ _ _ h => h) (by rfl) (by assumption) ?_ ?_
  rotate_left
  · (intro w' hSw; (try dsimp only at hSw); go_simp; try with_reducible rfl)
  try simp only [Act.put, List.setIfInBounds_toArray, List.set_cons_zero, List.set_cons_succ]
  refine take_yes 2 (some 8) (v := ?_) rfl (by kernel_rfl) (by kernel_rfl) (by kernel_rfl) (by kernel_rfl) (fun _ _ _ h => h) (by rfl) (by assumption) ?_ ?_
  rotate_left
  · (intro w' hSw; (try dsimp only at hSw); go_simp; try with_reducible rfl)
  try simp only [Act.put, List.setIfInBounds_toArray, List.set_cons_zero, List.set_cons_succ]
  refine take_yes 3 (some 9) (v := ?_) rfl (by kernel_rfl) (by kernel_rfl) (by kernel_rfl) (by kernel_rfl) (fun _ _ _ h => h) (by rfl) (by assumption) ?_ ?_
  rotate_left
  · (intro w' hSw; (try dsimp only at hSw); go_simp; try with_reducible rfl)
  try simp only [Act.put, List.setIfInBounds_toArray, List.set_cons_zero, List.set_cons_succ]
  refine take_yes 5 (some 11) (v := ?_) rfl (by kernel_rfl) (by kernel_rfl) (by kernel_rfl) (by kernel_rfl) (fun _ _ _ h => h) (by rfl) (by assumption) ?_ ?_
  rotate_left
  · (intro w' hSw; (try dsimp only at hSw); go_simp; try with_reducible rfl)
  try simp only [Act.put, List.setIfInBounds_toArray, List.set_cons_zero, List.set_cons_succ]
  refine take_yes 6 (some 12) (v := ?_) rfl (by kernel_rfl) (by kernel_rfl) (by kernel_rfl) (by kernel_rfl) (fun _ _ _ h => h) (by rfl) (by assumption) ?_ ?_
  rotate_left
  · (intro w' hSw; (try dsimp only at hSw); go_simp; try with_reducible rfl)
  try simp only [Act.put, List.setIfInBounds_toArray, List.set_cons_zero, List.set_cons_succ]
  refine take_yes 7 (some 13) (v := ?_) rfl (by kernel_rfl) (by kernel_rfl) (by kernel_rfl) (by kernel_rfl) (fun _ _ _ h => h) (by rfl) (by assumption) ?_ ?_
  rotate_left
  · (intro w' hSw; (try dsimp only at hSw); go_simp; try with_reducible rfl)
  try simp only [Act.put, List.setIfInBounds_toArray, List.set_cons_zero, List.set_cons_succ]
  refine take_run 4 rfl (by kernel_rfl) (by rfl) (fun K hK => ?_)
  go_simp
  refine (HAI.out _ (hs0.trans ((Since.refl y).drew))).mono ?_
  rintro en wq2 ⟨rfl, hq⟩
  have hc3 := ((Since.refl y).drew).trans hq
  refine hK.out _ _ (HKC.out _ hc3) (fun hHeld1 => ?_)
  clear hK K hHeld hq
  try simp only [Act.put, List.setIfInBounds_toArray, List.set_cons_zero, List.set_cons_succ]
  refine take_run 8 rfl (by kernel_rfl) (by rfl) (fun K hK => ?_)
  go_simp
  refine (HBI.out _ (hs0.trans (hc3))).mono ?_
  rintro en wq5 ⟨rfl, hq⟩
  have hc6 := (hc3).trans hq
  refine hK.out _ _ (HKC.out _ hc6) (fun hHeld4 => ?_)
  clear hK K hHeld1 hq
  try simp only [Act.put, List.setIfInBounds_toArray, List.set_cons_zero, List.set_cons_succ]
  refine take_run 9 rfl (by kernel_rfl) (by rfl) (fun K hK => ?_)
  go_simp
  refine (HOP.out _).mono ?_
  rintro en wq8 ⟨rfl, hq⟩
  have hc9 := (hc6).trans hq
  refine hK.out _ _ (HKC.out _ hc9) (fun hHeld7 => ?_)
  clear hK K hHeld4 hq
  try simp only [Act.put, List.setIfInBounds_toArray, List.set_cons_zero, List.set_cons_succ]
  refine take_yes 10 (some 5) (v := ?_) rfl (by kernel_rfl) (by kernel_rfl) (by kernel_rfl) (by kernel_rfl) (fun _ _ _ h => h) (by rfl) (by assumption) ?_ ?_
  rotate_left
  · (intro w' hSw; (try dsimp only at hSw); go_simp; try with_reducible rfl)
  try simp only [Act.put, List.setIfInBounds_toArray, List.set_cons_zero, List.set_cons_succ]
  refine wpAnyH_done (by kernel_rfl) ?_ _
  clear hHeld7
  have hcA := hc9
  go_wp2_with fail
  go_ret
  exact ⟨rfl, hs0.trans hcA⟩
set_option maxRecDepth 100000 in
theorem inAnd_any (x y : Bool) (w : World) : Calls Try.prog 128 #[.bool x, .bool y] w fun e w' => e = .returned (.bool (opAnd x y)) ∧ Since w w' := by
  cases x <;> cases y
  all_goals
    go_enter Try.func128, Try.ntmps128
    go_wp2
    go_ret
    exact ⟨rfl, Since.refl _⟩
set_option maxHeartbeats 2000000 in
set_option maxRecDepth 100000 in
theorem accAnd_any (A B : Aut) (BF BA BB : Nat) (a b : Int) (hqa : InQ A a) (hqb : InQ B b) (w : World) (h : PmB A B (.func (.func 128) #[] #[]) BF BA BB w) :
    Calls Try.prog 148 #[.agg #[.int .i64 a, .int .i64 b], .pointer (some ⟨BF, 0, none⟩), .pointer (some ⟨BA, 0, none⟩), .pointer (some ⟨BB, 0, none⟩)] w fun e w' => e = .returned (.bool (accT opAnd A B [a, b])) ∧ Since w w' := by
  show Calls Try.prog 148 #[.agg #[.int .i64 a, .int .i64 b], .pointer (some ⟨BF, 0, none⟩), .pointer (some ⟨BA, 0, none⟩), .pointer (some ⟨BB, 0, none⟩)] w fun e w' => e = .returned (.bool (opAnd (accI A a) (accI B b))) ∧ Since w w'
  obtain ⟨ao, ac, bo, bc, hbx, haut⟩ := h.a
  obtain ⟨co, cc1, dO, dc, hbx2, haut2⟩ := h.b
  have HBX := Lib.hid hbx
  have HAUT := Lib.hid haut
  have HBX2 := Lib.hid hbx2
  have HAUT2 := Lib.hid haut2
  have HFN := Lib.hid h.fn
  have HQa := Lib.hid hqa
  have HQb := Lib.hid hqb
  obtain ⟨n, hn⟩ : ∃ n, n = A.ac.length := ⟨_, rfl⟩
  obtain ⟨nn, hnn⟩ : ∃ n, n = A.nx.length := ⟨_, rfl⟩
  obtain ⟨m, hm⟩ : ∃ n, n = B.ac.length := ⟨_, rfl⟩
  obtain ⟨mm, hmm⟩ : ∃ n, n = B.nx.length := ⟨_, rfl⟩
  rw [← hn, ← hnn] at HBX HAUT
  rw [← hm, ← hmm] at HBX2 HAUT2
  clear hn hnn hm hmm hbx haut hbx2 haut2 h
  obtain ⟨X, hX⟩ : ∃ X, X = accI A a := ⟨_, rfl⟩
  obtain ⟨Y, hY⟩ : ∃ X, X = accI B b := ⟨_, rfl⟩
  obtain ⟨Z, hZ⟩ : ∃ q, q = opAnd X Y := ⟨_, rfl⟩
  rw [← hX, ← hY, ← hZ]
  have HAI : Hid (∀ W, Since w W → Calls Try.prog 102 #[.agg #[.int .i64 A.st, .slice ao n ac, .slice bo nn bc], .int .i64 a] W fun e w' => e = .returned (.bool X) ∧ Since W w') := fun W h2 => by rw [hX]; exact accIn_any _ A a W (HAUT.out.since h2) HQa.out
  have HBI : Hid (∀ W, Since w W → Calls Try.prog 102 #[.agg #[.int .i64 B.st, .slice co m cc1, .slice dO mm dc], .int .i64 b] W fun e w' => e = .returned (.bool Y) ∧ Since W w') := fun W h2 => by rw [hY]; exact accIn_any _ B b W (HAUT2.out.since h2) HQb.out
  have HOP : Hid (∀ W, Calls Try.prog 128 #[.bool X, .bool Y] W fun e w' => e = .returned (.bool Z) ∧ Since W w') := fun W => by rw [hZ]; exact inAnd_any X Y W
  clear hqa hqb hX hY hZ
  obtain ⟨y, hy⟩ : ∃ y, y = w.alloc (.cells #[.int .i64 a, .int .i64 b] 100) := ⟨_, rfl⟩
  have hs0 : Since w y := by rw [hy]; exact (Since.refl w).alloc _
  have B0 : Hid (Blk y w.heap.size 100 #[.int .i64 a, .int .i64 b]) := by rw [hy]; exact Blk.new rfl _ _
  have HKC : Hid (∀ w', Since y w' → w'.cell? ⟨w.heap.size, 0, none⟩ = some (.int .i64 a) ∧ w'.cell? ⟨w.heap.size, 1, none⟩ = some (.int .i64 b) ∧ w'.cell? ⟨BA, 0, none⟩ = some (.int .i64 A.st) ∧ w'.cell? ⟨BA, 1, none⟩ = some (.slice ao n ac) ∧ w'.cell? ⟨BA, 2, none⟩ = some (.slice bo nn bc) ∧ w'.cell? ⟨BB, 0, none⟩ = some (.int .i64 B.st) ∧ w'.cell? ⟨BB, 1, none⟩ = some (.slice co m cc1) ∧ w'.cell? ⟨BB, 2, none⟩ = some (.slice dO mm dc) ∧ w'.cell? ⟨BF, 0, none⟩ = some (.func (.func 128) #[] #[])) := by
    intro w' hs
    obtain ⟨r0, r1, _, _⟩ := (B0.out.since hs).two
    obtain ⟨⟨r2, r3, r4⟩, _⟩ := (HBX.out.since (hs0.trans hs)).threeA
    obtain ⟨⟨r5, r6, r7⟩, _⟩ := (HBX2.out.since (hs0.trans hs)).threeA
    exact ⟨r0, r1, r2, r3, r4, r5, r6, r7, (HFN.out.since (hs0.trans hs)).oneF⟩
  have HY := Lib.hid hy
  clear hy
  go_enter Try.func148, Try.ntmps148
  go_wp2_with fail
  rw [← HY.out]
  refine wp_region_held_drew (S := (fun w' => w'.cell? ⟨w.heap.size, 0, none⟩ = some (.int .i64 a) ∧ w'.cell? ⟨w.heap.size, 1, none⟩ = some (.int .i64 b) ∧ w'.cell? ⟨BA, 0, none⟩ = some (.int .i64 A.st) ∧ w'.cell? ⟨BA, 1, none⟩ = some (.slice ao n ac) ∧ w'.cell? ⟨BA, 2, none⟩ = some (.slice bo nn bc) ∧ w'.cell? ⟨BB, 0, none⟩ = some (.int .i64 B.st) ∧ w'.cell? ⟨BB, 1, none⟩ = some (.slice co m cc1) ∧ w'.cell? ⟨BB, 2, none⟩ = some (.slice dO mm dc) ∧ w'.cell? ⟨BF, 0, none⟩ = some (.func (.func 128) #[] #[]))) (by kernel_rfl) (HKC.out _ (Since.refl _).drew) (fun hHeld => ?_)
  refine take_yes 0 (some 6) (v := ?_) rfl (by kernel_rfl) (by kernel_rfl) (by kernel_rfl) (by kernel_rfl) (fun _ _ _ h => h) (by rfl) (by assumption) ?_ ?_
  rotate_left
  · (intro w' hSw; (try dsimp only at hSw); go_simp; try with_reducible rfl)
  try simp only [Act.put, List.setIfInBounds_toArray, List.set_cons_zero, List.set_cons_succ]
  refine take_yes 1 (some 7) (v := ?_) rfl (by kernel_rfl) (by kernel_rfl) (by kernel_rfl) (by kernel_rfl) (fun _ _ _ h => h) (by rfl) (by assumption) ?_ ?_
  rotate_left
  · (intro w' hSw; (try dsimp only at hSw); go_simp; try with_reducible rfl)
  try simp only [Act.put, List.setIfInBounds_toArray, List.set_cons_zero, List.set_cons_succ]
  refine take_yes 2 (some 8) (v := ?_) rfl (by kernel_rfl) (by kernel_rfl) (by kernel_rfl) (by kernel_rfl) (fun _ _ _ h => h) (by rfl) (by assumption) ?_ ?_
  rotate_left
  · (intro w' hSw; (try dsimp only at hSw); go_simp; try with_reducible rfl)
  try simp only [Act.put, List.setIfInBounds_toArray, List.set_cons_zero, List.set_cons_succ]
  refine take_yes 3 (some 9) (v := ?_) rfl (by kernel_rfl) (by kernel_rfl) (by kernel_rfl) (by kernel_rfl) (fun _ _ _ h => h) (by rfl) (by assumption) ?_ ?_
  rotate_left
  · (intro w' hSw; (try dsimp only at hSw); go_simp; try with_reducible rfl)
  try simp only [Act.put, List.setIfInBounds_toArray, List.set_cons_zero, List.set_cons_succ]
  refine take_yes 5 (some 11) (v := ?_) rfl (by kernel_rfl) (by kernel_rfl) (by kernel_rfl) (by kernel_rfl) (fun _ _ _ h => h) (by rfl) (by assumption) ?_ ?_
  rotate_left
  · (intro w' hSw; (try dsimp only at hSw); go_simp; try with_reducible rfl)
  try simp only [Act.put, List.setIfInBounds_toArray, List.set_cons_zero, List.set_cons_succ]
  refine take_yes 6 (some 12) (v := ?_) rfl (by kernel_rfl) (by kernel_rfl) (by kernel_rfl) (by kernel_rfl) (fun _ _ _ h => h) (by rfl) (by assumption) ?_ ?_
  rotate_left
  · (intro w' hSw; (try dsimp only at hSw); go_simp; try with_reducible rfl)
  try simp only [Act.put, List.setIfInBounds_toArray, List.set_cons_zero, List.set_cons_succ]
  refine take_yes 7 (some 13) (v := ?_) rfl (by kernel_rfl) (by kernel_rfl) (by kernel_rfl) (by kernel_rfl) (fun _ _ _ h => h) (by rfl) (by assumption) ?_ ?_
  rotate_left
  · (intro w' hSw; (try dsimp only at hSw); go_simp; try with_reducible rfl)
  try simp only [Act.put, List.setIfInBounds_toArray, List.set_cons_zero, List.set_cons_succ]
  refine take_run 4 rfl (by kernel_rfl) (by rfl) (fun K hK => ?_)
  go_simp
  refine (HAI.out _ (hs0.trans ((Since.refl y).drew))).mono ?_
  rintro en wq2 ⟨rfl, hq⟩
  have hc3 := ((Since.refl y).drew).trans hq
  refine hK.out _ _ (HKC.out _ hc3) (fun hHeld1 => ?_)
  clear hK K hHeld hq
  try simp only [Act.put, List.setIfInBounds_toArray, List.set_cons_zero, List.set_cons_succ]
  refine take_run 8 rfl (by kernel_rfl) (by rfl) (fun K hK => ?_)
  go_simp
  refine (HBI.out _ (hs0.trans (hc3))).mono ?_
  rintro en wq5 ⟨rfl, hq⟩
  have hc6 := (hc3).trans hq
  refine hK.out _ _ (HKC.out _ hc6) (fun hHeld4 => ?_)
  clear hK K hHeld1 hq
  try simp only [Act.put, List.setIfInBounds_toArray, List.set_cons_zero, List.set_cons_succ]
  refine take_run 9 rfl (by kernel_rfl) (by rfl) (fun K hK => ?_)
  go_simp
  refine (HOP.out _).mono ?_
  rintro en wq8 ⟨rfl, hq⟩
  have hc9 := (hc6).trans hq
  refine hK.out _ _ (HKC.out _ hc9) (fun hHeld7 => ?_)
  clear hK K hHeld4 hq
  try simp only [Act.put, List.setIfInBounds_toArray, List.set_cons_zero, List.set_cons_succ]
  refine take_yes 10 (some 5) (v := ?_) rfl (by kernel_rfl) (by kernel_rfl) (by kernel_rfl) (by kernel_rfl) (fun _ _ _ h => h) (by rfl) (by assumption) ?_ ?_
  rotate_left
  · (intro w' hSw; (try dsimp only at hSw); go_simp; try with_reducible rfl)
  try simp only [Act.put, List.setIfInBounds_toArray, List.set_cons_zero, List.set_cons_succ]
  refine wpAnyH_done (by kernel_rfl) ?_ _
  clear hHeld7
  have hcA := hc9
  go_wp2_with fail
  go_ret
  exact ⟨rfl, hs0.trans hcA⟩
set_option maxRecDepth 100000 in
theorem inOr_any (x y : Bool) (w : World) : Calls Try.prog 129 #[.bool x, .bool y] w fun e w' => e = .returned (.bool (opOr x y)) ∧ Since w w' := by
  cases x <;> cases y
  all_goals
    go_enter Try.func129, Try.ntmps129
    go_wp2
    go_ret
    exact ⟨rfl, Since.refl _⟩
set_option maxHeartbeats 2000000 in
set_option maxRecDepth 100000 in
theorem accOr_any (A B : Aut) (BF BA BB : Nat) (a b : Int) (hqa : InQ A a) (hqb : InQ B b) (w : World) (h : PmB A B (.func (.func 129) #[] #[]) BF BA BB w) :
    Calls Try.prog 148 #[.agg #[.int .i64 a, .int .i64 b], .pointer (some ⟨BF, 0, none⟩), .pointer (some ⟨BA, 0, none⟩), .pointer (some ⟨BB, 0, none⟩)] w fun e w' => e = .returned (.bool (accT opOr A B [a, b])) ∧ Since w w' := by
  show Calls Try.prog 148 #[.agg #[.int .i64 a, .int .i64 b], .pointer (some ⟨BF, 0, none⟩), .pointer (some ⟨BA, 0, none⟩), .pointer (some ⟨BB, 0, none⟩)] w fun e w' => e = .returned (.bool (opOr (accI A a) (accI B b))) ∧ Since w w'
  obtain ⟨ao, ac, bo, bc, hbx, haut⟩ := h.a
  obtain ⟨co, cc1, dO, dc, hbx2, haut2⟩ := h.b
  have HBX := Lib.hid hbx
  have HAUT := Lib.hid haut
  have HBX2 := Lib.hid hbx2
  have HAUT2 := Lib.hid haut2
  have HFN := Lib.hid h.fn
  have HQa := Lib.hid hqa
  have HQb := Lib.hid hqb
  obtain ⟨n, hn⟩ : ∃ n, n = A.ac.length := ⟨_, rfl⟩
  obtain ⟨nn, hnn⟩ : ∃ n, n = A.nx.length := ⟨_, rfl⟩
  obtain ⟨m, hm⟩ : ∃ n, n = B.ac.length := ⟨_, rfl⟩
  obtain ⟨mm, hmm⟩ : ∃ n, n = B.nx.length := ⟨_, rfl⟩
  rw [← hn, ← hnn] at HBX HAUT
  rw [← hm, ← hmm] at HBX2 HAUT2
  clear hn hnn hm hmm hbx haut hbx2 haut2 h
  obtain ⟨X, hX⟩ : ∃ X, X = accI A a := ⟨_, rfl⟩
  obtain ⟨Y, hY⟩ : ∃ X, X = accI B b := ⟨_, rfl⟩
  obtain ⟨Z, hZ⟩ : ∃ q, q = opOr X Y := ⟨_, rfl⟩
  rw [← hX, ← hY, ← hZ]
  have HAI : Hid (∀ W, Since w W → Calls Try.prog 102 #[.agg #[.int .i64 A.st, .slice ao n ac, .slice bo nn bc], .int .i64 a] W fun e w' => e = .returned (.bool X) ∧ Since W w') := fun W h2 => by rw [hX]; exact accIn_any _ A a W (HAUT.out.since h2) HQa.out
  have HBI : Hid (∀ W, Since w W → Calls Try.prog 102 #[.agg #[.int .i64 B.st, .slice co m cc1, .slice dO mm dc], .int .i64 b] W fun e w' => e = .returned (.bool Y) ∧ Since W w') := fun W h2 => by rw [hY]; exact accIn_any _ B b W (HAUT2.out.since h2) HQb.out
  have HOP : Hid (∀ W, Calls Try.prog 129 #[.bool X, .bool Y] W fun e w' => e = .returned (.bool Z) ∧ Since W w') := fun W => by rw [hZ]; exact inOr_any X Y W
  clear hqa hqb hX hY hZ
  obtain ⟨y, hy⟩ : ∃ y, y = w.alloc (.cells #[.int .i64 a, .int .i64 b] 100) := ⟨_, rfl⟩
  have hs0 : Since w y := by rw [hy]; exact (Since.refl w).alloc _
  have B0 : Hid (Blk y w.heap.size 100 #[.int .i64 a, .int .i64 b]) := by rw [hy]; exact Blk.new rfl _ _
  have HKC : Hid (∀ w', Since y w' → w'.cell? ⟨w.heap.size, 0, none⟩ = some (.int .i64 a) ∧ w'.cell? ⟨w.heap.size, 1, none⟩ = some (.int .i64 b) ∧ w'.cell? ⟨BA, 0, none⟩ = some (.int .i64 A.st) ∧ w'.cell? ⟨BA, 1, none⟩ = some (.slice ao n ac) ∧ w'.cell? ⟨BA, 2, none⟩ = some (.slice bo nn bc) ∧ w'.cell? ⟨BB, 0, none⟩ = some (.int .i64 B.st) ∧ w'.cell? ⟨BB, 1, none⟩ = some (.slice co m cc1) ∧ w'.cell? ⟨BB, 2, none⟩ = some (.slice dO mm dc) ∧ w'.cell? ⟨BF, 0, none⟩ = some (.func (.func 129) #[] #[])) := by
    intro w' hs
    obtain ⟨r0, r1, _, _⟩ := (B0.out.since hs).two
    obtain ⟨⟨r2, r3, r4⟩, _⟩ := (HBX.out.since (hs0.trans hs)).threeA
    obtain ⟨⟨r5, r6, r7⟩, _⟩ := (HBX2.out.since (hs0.trans hs)).threeA
    exact ⟨r0, r1, r2, r3, r4, r5, r6, r7, (HFN.out.since (hs0.trans hs)).oneF⟩
  have HY := Lib.hid hy
  clear hy
  go_enter Try.func148, Try.ntmps148
  go_wp2_with fail
  rw [← HY.out]
  refine wp_region_held_drew (S := (fun w' => w'.cell? ⟨w.heap.size, 0, none⟩ = some (.int .i64 a) ∧ w'.cell? ⟨w.heap.size, 1, none⟩ = some (.int .i64 b) ∧ w'.cell? ⟨BA, 0, none⟩ = some (.int .i64 A.st) ∧ w'.cell? ⟨BA, 1, none⟩ = some (.slice ao n ac) ∧ w'.cell? ⟨BA, 2, none⟩ = some (.slice bo nn bc) ∧ w'.cell? ⟨BB, 0, none⟩ = some (.int .i64 B.st) ∧ w'.cell? ⟨BB, 1, none⟩ = some (.slice co m cc1) ∧ w'.cell? ⟨BB, 2, none⟩ = some (.slice dO mm dc) ∧ w'.cell? ⟨BF, 0, none⟩ = some (.func (.func 129) #[] #[]))) (by kernel_rfl) (HKC.out _ (Since.refl _).drew) (fun hHeld => ?_)
  refine take_yes 0 (some 6) (v := ?_) rfl (by kernel_rfl) (by kernel_rfl) (by kernel_rfl) (by kernel_rfl) (fun _ _ _ h => h) (by rfl) (by assumption) ?_ ?_
  rotate_left
  · (intro w' hSw; (try dsimp only at hSw); go_simp; try with_reducible rfl)
  try simp only [Act.put, List.setIfInBounds_toArray, List.set_cons_zero, List.set_cons_succ]
  refine take_yes 1 (some 7) (v := ?_) rfl (by kernel_rfl) (by kernel_rfl) (by kernel_rfl) (by kernel_rfl) (fun _ _ _ h => h) (by rfl) (by assumption) ?_ ?_
  rotate_left
  · (intro w' hSw; (try dsimp only at hSw); go_simp; try with_reducible rfl)
  try simp only [Act.put, List.setIfInBounds_toArray, List.set_cons_zero, List.set_cons_succ]
  refine take_yes 2 (some 8) (v := ?_) rfl (by kernel_rfl) (by kernel_rfl) (by kernel_rfl) (by kernel_rfl) (fun _ _ _ h => h) (by rfl) (by assumption) ?_ ?_
  rotate_left
  · (intro w' hSw; (try dsimp only at hSw); go_simp; try with_reducible rfl)
  try simp only [Act.put, List.setIfInBounds_toArray, List.set_cons_zero, List.set_cons_succ]
  refine take_yes 3 (some 9) (v := ?_) rfl (by kernel_rfl) (by kernel_rfl) (by kernel_rfl) (by kernel_rfl) (fun _ _ _ h => h) (by rfl) (by assumption) ?_ ?_
  rotate_left
  · (intro w' hSw; (try dsimp only at hSw); go_simp; try with_reducible rfl)
  try simp only [Act.put, List.setIfInBounds_toArray, List.set_cons_zero, List.set_cons_succ]
  refine take_yes 5 (some 11) (v := ?_) rfl (by kernel_rfl) (by kernel_rfl) (by kernel_rfl) (by kernel_rfl) (fun _ _ _ h => h) (by rfl) (by assumption) ?_ ?_
  rotate_left
  · (intro w' hSw; (try dsimp only at hSw); go_simp; try with_reducible rfl)
  try simp only [Act.put, List.setIfInBounds_toArray, List.set_cons_zero, List.set_cons_succ]
  refine take_yes 6 (some 12) (v := ?_) rfl (by kernel_rfl) (by kernel_rfl) (by kernel_rfl) (by kernel_rfl) (fun _ _ _ h => h) (by rfl) (by assumption) ?_ ?_
  rotate_left
  · (intro w' hSw; (try dsimp only at hSw); go_simp; try with_reducible rfl)
  try simp only [Act.put, List.setIfInBounds_toArray, List.set_cons_zero, List.set_cons_succ]
  refine take_yes 7 (some 13) (v := ?_) rfl (by kernel_rfl) (by kernel_rfl) (by kernel_rfl) (by kernel_rfl) (fun _ _ _ h => h) (by rfl) (by assumption) ?_ ?_
  rotate_left
  · (intro w' hSw; (try dsimp only at hSw); go_simp; try with_reducible rfl)
  try simp only [Act.put, List.setIfInBounds_toArray, List.set_cons_zero, List.set_cons_succ]
  refine take_run 4 rfl (by kernel_rfl) (by rfl) (fun K hK => ?_)
  go_simp
  refine (HAI.out _ (hs0.trans ((Since.refl y).drew))).mono ?_
  rintro en wq2 ⟨rfl, hq⟩
  have hc3 := ((Since.refl y).drew).trans hq
  refine hK.out _ _ (HKC.out _ hc3) (fun hHeld1 => ?_)
  clear hK K hHeld hq
  try simp only [Act.put, List.setIfInBounds_toArray, List.set_cons_zero, List.set_cons_succ]
  refine take_run 8 rfl (by kernel_rfl) (by rfl) (fun K hK => ?_)
  go_simp
  refine (HBI.out _ (hs0.trans (hc3))).mono ?_
  rintro en wq5 ⟨rfl, hq⟩
  have hc6 := (hc3).trans hq
  refine hK.out _ _ (HKC.out _ hc6) (fun hHeld4 => ?_)
  clear hK K hHeld1 hq
  try simp only [Act.put, List.setIfInBounds_toArray, List.set_cons_zero, List.set_cons_succ]
  refine take_run 9 rfl (by kernel_rfl) (by rfl) (fun K hK => ?_)
  go_simp
  refine (HOP.out _).mono ?_
  rintro en wq8 ⟨rfl, hq⟩
  have hc9 := (hc6).trans hq
  refine hK.out _ _ (HKC.out _ hc9) (fun hHeld7 => ?_)
  clear hK K hHeld4 hq
  try simp only [Act.put, List.setIfInBounds_toArray, List.set_cons_zero, List.set_cons_succ]
  refine take_yes 10 (some 5) (v := ?_) rfl (by kernel_rfl) (by kernel_rfl) (by kernel_rfl) (by kernel_rfl) (fun _ _ _ h => h) (by rfl) (by assumption) ?_ ?_
  rotate_left
  · (intro w' hSw; (try dsimp only at hSw); go_simp; try with_reducible rfl)
  try simp only [Act.put, List.setIfInBounds_toArray, List.set_cons_zero, List.set_cons_succ]
  refine wpAnyH_done (by kernel_rfl) ?_ _
  clear hHeld7
  have hcA := hc9
  go_wp2_with fail
  go_ret
  exact ⟨rfl, hs0.trans hcA⟩
end Go.Proofs.Ytmaagihfjldgeaa
