/- l12Differ: the least word that leads from one of two states to acceptance and not from the other. -/
import Derived.Test.YtmaagihfjldgeaaLwN
import Derived.Test.YtmaagihfjldgeaaLwR
import Derived.Test.YtmaagihfjldgeaaK1
namespace Go.Proofs.Ytmaagihfjldgeaa
set_option maxRecDepth 100000
open Go.ChangeShapes Go.WideShapes Go.ChangeAt Go.RowKit Go.Maps
set_option linter.unusedVariables false
set_option linter.unusedSimpArgs false

def accP (only : Bool) (A B : Aut) (x : List Int) : Bool := (accI B (x[1]?.getD 0) && !accI A (x[0]?.getD 0)) || (accI A (x[0]?.getD 0) && !accI B (x[1]?.getD 0) && !only)
theorem fiveB {w : World} {g : Nat} {t : TypeId} {a b c d e : Value} (h : Blk w g t #[a, b, c, d, e]) :
    (w.cell? ⟨g, 0, none⟩ = some a ∧ w.cell? ⟨g, 1, none⟩ = some b ∧ w.cell? ⟨g, 2, none⟩ = some c ∧ w.cell? ⟨g, 3, none⟩ = some d ∧ w.cell? ⟨g, 4, none⟩ = some e) ∧
      (w.frozen? ⟨g, 0, none⟩ = false ∧ w.frozen? ⟨g, 1, none⟩ = false ∧ w.frozen? ⟨g, 2, none⟩ = false ∧ w.frozen? ⟨g, 3, none⟩ = false ∧ w.frozen? ⟨g, 4, none⟩ = false) :=
  ⟨⟨h.cell 0, h.cell 1, h.cell 2, h.cell 3, h.cell 4⟩, h.frozen 0, h.frozen 1, h.frozen 2, h.frozen 3, h.frozen 4⟩
/-- The word that was searched for, of the call's own, and whether there is one. -/
def WdOut (w : World) (R : Option (List Int)) (e : Ending) (w' : World) : Prop := ∃ u, e = .returned (.tuple #[u, .bool R.isSome]) ∧ Own w.heap.size w' u (R.getD []) ∧ Since w w'
set_option maxHeartbeats 8000000 in
set_option maxRecDepth 100000 in
theorem differ_any (va vb : Value) (A B : Aut) (s t : Int) (only : Bool) (R : Option (List Int)) (w : World) (ha : AutAt w va A) (hb : AutAt w vb B) (hva : ValidA A) (hvb : ValidA B) (hs : InQ A s) (ht : InQ B t)
    (hR : lwRun (prS A B) (accP only A B) (pairN A B + 1) 0 [([s, t], [])] = some R) :
    Calls Try.prog 98 #[va, .int .i64 s, vb, .int .i64 t, .bool only] w (WdOut w R) := by
  have HA := Lib.hid ha
  have HB := Lib.hid hb
  have HVA := Lib.hid hva
  have HVB := Lib.hid hvb
  obtain ⟨x1, x2, rfl, _, k1, k2⟩ := ha
  obtain ⟨ao, ac, rfl⟩ := k1.len
  obtain ⟨bo, bc, rfl⟩ := k2.len
  obtain ⟨y1, y2, rfl, _, k3, k4⟩ := hb
  obtain ⟨co, cc1, rfl⟩ := k3.len
  obtain ⟨dO, dc, rfl⟩ := k4.len
  clear k1 k2 k3 k4
  obtain ⟨n, hn⟩ : ∃ n, n = A.ac.length := ⟨_, rfl⟩
  obtain ⟨nn, hnn⟩ : ∃ n, n = A.nx.length := ⟨_, rfl⟩
  obtain ⟨m, hm⟩ : ∃ n, n = B.ac.length := ⟨_, rfl⟩
  obtain ⟨mm, hmm⟩ : ∃ n, n = B.nx.length := ⟨_, rfl⟩
  rw [← hn, ← hnn] at HA ⊢
  rw [← hm, ← hmm] at HB ⊢
  clear hn hnn hm hmm
  have HAA : Hid (∀ a0 W, InQ A a0 → Since w W → Calls Try.prog 151 #[.agg #[.int .i64 A.st, .slice ao n ac, .slice bo nn bc], .int .i64 a0] W fun e w' => e = .returned (.bool (accI A a0)) ∧ Since W w') := fun a0 W h1 h2 => specAcc_any _ A a0 W (HA.out.since h2) h1
  have HBA : Hid (∀ a0 W, InQ B a0 → Since w W → Calls Try.prog 151 #[.agg #[.int .i64 B.st, .slice co m cc1, .slice dO mm dc], .int .i64 a0] W fun e w' => e = .returned (.bool (accI B a0)) ∧ Since W w') := fun a0 W h1 h2 => specAcc_any _ B a0 W (HB.out.since h2) h1
  have HANx : Hid (∀ a0 (k : Nat) W, InQ A a0 → k < 9 → Since w W → Calls Try.prog 153 #[.agg #[.int .i64 A.st, .slice ao n ac, .slice bo nn bc], .int .i64 a0, .int .i64 (k : Nat)] W fun e w' => e = .returned (.int .i64 (stpQ A a0 k)) ∧ Since W w') := fun a0 k W h1 h3 h2 => specNxt_any _ A a0 k W (HA.out.since h2) HVA.out h1 h3
  have HBNx : Hid (∀ a0 (k : Nat) W, InQ B a0 → k < 9 → Since w W → Calls Try.prog 153 #[.agg #[.int .i64 B.st, .slice co m cc1, .slice dO mm dc], .int .i64 a0, .int .i64 (k : Nat)] W fun e w' => e = .returned (.int .i64 (stpQ B a0 k)) ∧ Since W w') := fun a0 k W h1 h3 h2 => specNxt_any _ B a0 k W (HB.out.since h2) HVB.out h1 h3
  have HWd : Hid (∀ v xs L (k : Nat) W, OwnLn (w.heap.size + 2) W v xs → LnW xs L → (hk : k < L.length) → xs.length ≤ 2000000 → Calls Try.prog 152 #[v, .int .i64 (k : Nat)] W fun e w' => ∃ u, e = .returned u ∧ Own W.heap.size w' u L[k].2 ∧ Since W w') := fun v xs L k W h1 h2 h3 h4 => word10_any _ v xs L k W h1 h4 h2 h3
  have HHs : Hid (∀ v xs z W, OwnLn (w.heap.size + 2) W v xs → xs.length ≤ 2000000 → Calls Try.prog 154 #[v, lnv z] W fun e w' => e = .returned (.bool (decide (z.pr ∈ xs.map Ln.pr))) ∧ Since W w') := fun v xs z W h1 h4 => has10_any _ v xs z W h1 h4
  have HH := prS_H hva hvb
  have HPL : Hid (pairN A B ≤ 1002001) := pairN_le hva hvb
  have HLH := Lib.hid HH
  have HRa := Lib.hid hR
  obtain ⟨N, hN⟩ : ∃ N, N = pairN A B := ⟨_, rfl⟩
  rw [← hN] at HPL HLH HRa
  clear hN HH hR HA HB hva hvb
  obtain ⟨y, hy⟩ : ∃ y, y = (((w.alloc (.cells #[.int .i64 A.st, .slice ao n ac, .slice bo nn bc] 39)).alloc (.cells #[.int .i64 B.st, .slice co m cc1, .slice dO mm dc] 39)).alloc (.cells #[.int .i64 s, .int .i64 t, .bool false, .int .i64 0, .int .i64 0] 141)) := ⟨_, rfl⟩
  have hs0 : Since w y := by rw [hy]; exact (((Since.refl w).alloc _).alloc _).alloc _
  have B5 : Hid (Blk y w.heap.size 39 #[.int .i64 A.st, .slice ao n ac, .slice bo nn bc]) := by rw [hy]; exact ((Blk.new rfl _ _).alloc _).alloc _
  have B7 : Hid (Blk y (w.heap.size + 1) 39 #[.int .i64 B.st, .slice co m cc1, .slice dO mm dc]) := by rw [hy]; exact (Blk.new (by simp) _ _).alloc _
  have HO0 : Hid (OwnLn (w.heap.size + 2) y (.slice (some ⟨w.heap.size + 2, 0, none⟩) 1 1) [⟨s, t, 0, 0⟩]) := by
    rw [hy]
    have h1 := World.ownsRow_lit (base := w.heap.size + 2) (e := 141) (size := 5) ((w.alloc (.cells #[.int .i64 A.st, .slice ao n ac, .slice bo nn bc] 39)).alloc (.cells #[.int .i64 B.st, .slice co m cc1, .slice dO mm dc] 39)) #[.int .i64 s, .int .i64 t, .bool false, .int .i64 0, .int .i64 0] 1 (by simp) (by unfold maxLen; omega) rfl
    have e3 : ((w.alloc (.cells #[.int .i64 A.st, .slice ao n ac, .slice bo nn bc] 39)).alloc (.cells #[.int .i64 B.st, .slice co m cc1, .slice dO mm dc] 39)).heap.size = w.heap.size + 2 := by simp
    rw [e3] at h1
    exact h1
  have HW0 : Hid (LnW [⟨s, t, 0, 0⟩] [([s, t], [])]) := ⟨rfl, fun i h1 h2 => by
    have : i = 0 := by simp at h1; omega
    subst this; rfl, fun y hy => by simp at hy; subst hy; rfl, fun i h1 h2 h0 => by simp at h1; omega⟩
  have HI0 : Hid (LwI (InP A B) [([s, t], [])]) := LwI.start ⟨s, t, rfl, hs, ht⟩
  have HY := Lib.hid hy
  clear hy hs ht
  go_enter Try.func98, Try.ntmps98
  go_wp2
  have e2 : w.heap.size + 1 + 1 = w.heap.size + 2 := rfl
  try rw [e2]
  clear e2
  rw [← HY.out]
  go_loopw [12, 13] (fun v i wr => ∃ (p : Nat) (xs : List Ln) (L : List (List Int × List Int)), p ≤ xs.length ∧ 0 < xs.length ∧ i = .int .i64 p ∧ Hid (OwnLn (w.heap.size + 2) wr v xs) ∧ Hid (LnW xs L) ∧ Hid (LwI (InP A B) L) ∧ Hid (lwRun (prS A B) (accP only A B) (N + 1 - p) p L = some R) ∧ Hid (Since w wr) ∧ Hid (Blk wr w.heap.size 39 #[.int .i64 A.st, .slice ao n ac, .slice bo nn bc]) ∧ Hid (Blk wr (w.heap.size + 1) 39 #[.int .i64 B.st, .slice co m cc1, .slice dO mm dc])) (fun _ i _ => N + 1 - (intOf i).toNat)
  case atStart => exact ⟨0, _, _, Nat.zero_le _, by simp, rfl, HO0.out, HW0.out, HI0.out, HRa.out, hs0, B5.out, B7.out⟩
  case round =>
    obtain ⟨p, xs, L, hp, hx0, rfl, HO, HW, HI, HRp, HS, HB5, HB7⟩ := hrel
    have HXL : Hid (xs.length = L.length) := HW.out.len
    have HLn : Hid (xs.length ≤ N) := by
      have := HI.out.room HLH.out
      have h2 := HXL.out
      unfold Hid; omega
    have HL2 : Hid (xs.length ≤ 2000000) := by
      have := HLn.out
      have := HPL.out
      unfold Hid; omega
    obtain ⟨g, cap, rfl, hg, hgl⟩ := HO.out.len hx0
    by_cases hlt : p < xs.length
    · have hpi : (p : Int) < (xs.length : Int) := by omega
      have hp0 : (0 : Int) ≤ (p : Int) := by omega
      have HpL : Hid (p < L.length) := by have := HXL.out; unfold Hid; omega
      obtain ⟨ws, hws⟩ : ∃ ws, ws = (L[p]'HpL.out).2 := ⟨_, rfl⟩
      obtain ⟨a0, ha0⟩ : ∃ a, a = xs[p].a := ⟨_, rfl⟩
      obtain ⟨b0, hb0⟩ : ∃ b, b = xs[p].b := ⟨_, rfl⟩
      have HP : Hid (L[p]? = some ([a0, b0], ws)) := by
        have h1 := HW.out.pr p hlt HpL.out
        unfold Hid
        rw [List.getElem?_eq_getElem HpL.out, hws, ha0, hb0]
        congr 1
        exact Prod.ext h1 rfl
      have HQ : Hid (InQ A a0 ∧ InQ B b0) := by
        obtain ⟨a, b, e, h1, h2⟩ := HI.out.all [a0, b0] (List.mem_map.2 ⟨_, List.mem_of_getElem? HP.out, rfl⟩)
        injection e with e3 e4
        injection e4 with e4
        rw [e3, e4]; exact ⟨h1, h2⟩
      obtain ⟨c0, c1, _, _, _⟩ := ownLn_cells HO.out rfl p hlt
      rw [← ha0] at c0
      rw [← hb0] at c1
      obtain ⟨X, hX⟩ : ∃ X, X = accI A a0 := ⟨_, rfl⟩
      obtain ⟨Y, hY⟩ : ∃ Y, Y = accI B b0 := ⟨_, rfl⟩
      have HAC : Hid (∀ W, Since w W → Calls Try.prog 151 #[.agg #[.int .i64 A.st, .slice ao n ac, .slice bo nn bc], .int .i64 a0] W fun e w' => e = .returned (.bool X) ∧ Since W w') := fun W h => by rw [hX]; exact HAA.out a0 W HQ.out.1 h
      have HBC : Hid (∀ W, Since w W → Calls Try.prog 151 #[.agg #[.int .i64 B.st, .slice co m cc1, .slice dO mm dc], .int .i64 b0] W fun e w' => e = .returned (.bool Y) ∧ Since W w') := fun W h => by rw [hY]; exact HBA.out b0 W HQ.out.2 h
      obtain ⟨ok, HOK⟩ : ∃ ok, Hid (ok = (Y && !X || X && !Y && !only)) := ⟨_, rfl⟩
      have HAP : Hid (accP only A B [a0, b0] = ok) := by
        unfold Hid accP
        rw [HOK.out, hX, hY]; rfl
      clear hX hY ha0 hb0 hws
      have HK8 : Hid (∀ w', Since wr w' → w'.cell? ⟨w.heap.size, 0, none⟩ = some (.int .i64 A.st) ∧ w'.cell? ⟨w.heap.size, 1, none⟩ = some (.slice ao n ac) ∧ w'.cell? ⟨w.heap.size, 2, none⟩ = some (.slice bo nn bc) ∧ w'.cell? ⟨w.heap.size + 1, 0, none⟩ = some (.int .i64 B.st) ∧ w'.cell? ⟨w.heap.size + 1, 1, none⟩ = some (.slice co m cc1) ∧ w'.cell? ⟨w.heap.size + 1, 2, none⟩ = some (.slice dO mm dc) ∧ w'.cell? ⟨g, p * 5, none⟩ = some (.int .i64 a0) ∧ w'.cell? ⟨g, p * 5 + 1, none⟩ = some (.int .i64 b0)) := by
        intro w' hs
        obtain ⟨⟨r0, r1, r2⟩, _⟩ := (HB5.out.since hs).threeA
        obtain ⟨⟨r3, r4, r5⟩, _⟩ := (HB7.out.since hs).threeA
        exact ⟨r0, r1, r2, r3, r4, r5, (Below.cell hs (p := ⟨g, p * 5, none⟩) hgl).trans c0, (Below.cell hs (p := ⟨g, p * 5 + 1, none⟩) hgl).trans c1⟩
      go_wp2_with fail
      refine wp_region_held_drew (S := (fun w' => w'.cell? ⟨w.heap.size, 0, none⟩ = some (.int .i64 A.st) ∧ w'.cell? ⟨w.heap.size, 1, none⟩ = some (.slice ao n ac) ∧ w'.cell? ⟨w.heap.size, 2, none⟩ = some (.slice bo nn bc) ∧ w'.cell? ⟨w.heap.size + 1, 0, none⟩ = some (.int .i64 B.st) ∧ w'.cell? ⟨w.heap.size + 1, 1, none⟩ = some (.slice co m cc1) ∧ w'.cell? ⟨w.heap.size + 1, 2, none⟩ = some (.slice dO mm dc) ∧ w'.cell? ⟨g, p * 5, none⟩ = some (.int .i64 a0) ∧ w'.cell? ⟨g, p * 5 + 1, none⟩ = some (.int .i64 b0))) (by kernel_rfl) (HK8.out _ (Since.refl _).drew) (fun hHeld => ?_)
      refine take_yes 0 (some 28) (v := ?_) rfl (by kernel_rfl) (by kernel_rfl) (by kernel_rfl) (by kernel_rfl) (fun _ _ _ h => h) (by rfl) (by assumption) ?_ ?_
      rotate_left
      · (intro w' hSw; (try dsimp only at hSw); go_simp; try with_reducible rfl)
      try simp only [Act.put, List.setIfInBounds_toArray, List.set_cons_zero, List.set_cons_succ]
      refine take_yes 1 (some 29) (v := ?_) rfl (by kernel_rfl) (by kernel_rfl) (by kernel_rfl) (by kernel_rfl) (fun _ _ _ h => h) (by rfl) (by assumption) ?_ ?_
      rotate_left
      · (intro w' hSw; (try dsimp only at hSw); go_simp; try with_reducible rfl)
      try simp only [Act.put, List.setIfInBounds_toArray, List.set_cons_zero, List.set_cons_succ]
      refine take_yes 2 (some 30) (v := ?_) rfl (by kernel_rfl) (by kernel_rfl) (by kernel_rfl) (by kernel_rfl) (fun _ _ _ h => h) (by rfl) (by assumption) ?_ ?_
      rotate_left
      · (intro w' hSw; (try dsimp only at hSw); go_simp; try with_reducible rfl)
      try simp only [Act.put, List.setIfInBounds_toArray, List.set_cons_zero, List.set_cons_succ]
      refine take_yes 3 (some 31) (v := ?_) rfl (by kernel_rfl) (by kernel_rfl) (by kernel_rfl) (by kernel_rfl) (fun _ _ _ h => h) (by rfl) (by assumption) ?_ ?_
      rotate_left
      · (intro w' hSw; (try dsimp only at hSw); go_simp; try with_reducible rfl)
      try simp only [Act.put, List.setIfInBounds_toArray, List.set_cons_zero, List.set_cons_succ]
      refine take_yes 4 (some 32) (v := ?_) rfl (by kernel_rfl) (by kernel_rfl) (by kernel_rfl) (by kernel_rfl) (fun _ _ _ h => h) (by rfl) (by assumption) ?_ ?_
      rotate_left
      · (intro w' hSw; (try dsimp only at hSw); go_simp; try with_reducible rfl)
      try simp only [Act.put, List.setIfInBounds_toArray, List.set_cons_zero, List.set_cons_succ]
      refine take_yes 5 (some 33) (v := ?_) rfl (by kernel_rfl) (by kernel_rfl) (by kernel_rfl) (by kernel_rfl) (fun _ _ _ h => h) (by rfl) (by assumption) ?_ ?_
      rotate_left
      · (intro w' hSw; (try dsimp only at hSw); go_simp; try with_reducible rfl)
      try simp only [Act.put, List.setIfInBounds_toArray, List.set_cons_zero, List.set_cons_succ]
      refine take_run 6 rfl (by kernel_rfl) (by rfl) (fun K hK => ?_)
      go_simp
      refine (HAC.out _ (HS.out.trans ((Since.refl wr).drew))).mono ?_
      rintro en wq2 ⟨rfl, hq⟩
      have hc3 := ((Since.refl wr).drew).trans hq
      refine hK.out _ _ (HK8.out _ hc3) (fun hHeld1 => ?_)
      clear hK K hHeld hq
      try simp only [Act.put, List.setIfInBounds_toArray, List.set_cons_zero, List.set_cons_succ]
      refine take_yes 7 (some 14) (v := ?_) rfl (by kernel_rfl) (by kernel_rfl) (by kernel_rfl) (by kernel_rfl) (fun _ _ _ h => h) (by rfl) (by assumption) ?_ ?_
      rotate_left
      · (intro w' hSw; (try dsimp only at hSw); go_simp; try with_reducible rfl)
      try simp only [Act.put, List.setIfInBounds_toArray, List.set_cons_zero, List.set_cons_succ]
      refine wpAnyH_done (by kernel_rfl) ?_ _
      clear hHeld1
      have hcA := hc3
      go_wp2_with fail
      refine wp_region_held_drew (S := (fun w' => w'.cell? ⟨w.heap.size, 0, none⟩ = some (.int .i64 A.st) ∧ w'.cell? ⟨w.heap.size, 1, none⟩ = some (.slice ao n ac) ∧ w'.cell? ⟨w.heap.size, 2, none⟩ = some (.slice bo nn bc) ∧ w'.cell? ⟨w.heap.size + 1, 0, none⟩ = some (.int .i64 B.st) ∧ w'.cell? ⟨w.heap.size + 1, 1, none⟩ = some (.slice co m cc1) ∧ w'.cell? ⟨w.heap.size + 1, 2, none⟩ = some (.slice dO mm dc) ∧ w'.cell? ⟨g, p * 5, none⟩ = some (.int .i64 a0) ∧ w'.cell? ⟨g, p * 5 + 1, none⟩ = some (.int .i64 b0))) (by kernel_rfl) (HK8.out _ hcA.drew) (fun hHeld => ?_)
      refine take_yes 0 (some 35) (v := ?_) rfl (by kernel_rfl) (by kernel_rfl) (by kernel_rfl) (by kernel_rfl) (fun _ _ _ h => h) (by rfl) (by assumption) ?_ ?_
      rotate_left
      · (intro w' hSw; (try dsimp only at hSw); go_simp; try with_reducible rfl)
      try simp only [Act.put, List.setIfInBounds_toArray, List.set_cons_zero, List.set_cons_succ]
      refine take_yes 1 (some 36) (v := ?_) rfl (by kernel_rfl) (by kernel_rfl) (by kernel_rfl) (by kernel_rfl) (fun _ _ _ h => h) (by rfl) (by assumption) ?_ ?_
      rotate_left
      · (intro w' hSw; (try dsimp only at hSw); go_simp; try with_reducible rfl)
      try simp only [Act.put, List.setIfInBounds_toArray, List.set_cons_zero, List.set_cons_succ]
      refine take_yes 2 (some 37) (v := ?_) rfl (by kernel_rfl) (by kernel_rfl) (by kernel_rfl) (by kernel_rfl) (fun _ _ _ h => h) (by rfl) (by assumption) ?_ ?_
      rotate_left
      · (intro w' hSw; (try dsimp only at hSw); go_simp; try with_reducible rfl)
      try simp only [Act.put, List.setIfInBounds_toArray, List.set_cons_zero, List.set_cons_succ]
      refine take_yes 3 (some 38) (v := ?_) rfl (by kernel_rfl) (by kernel_rfl) (by kernel_rfl) (by kernel_rfl) (fun _ _ _ h => h) (by rfl) (by assumption) ?_ ?_
      rotate_left
      · (intro w' hSw; (try dsimp only at hSw); go_simp; try with_reducible rfl)
      try simp only [Act.put, List.setIfInBounds_toArray, List.set_cons_zero, List.set_cons_succ]
      refine take_yes 4 (some 39) (v := ?_) rfl (by kernel_rfl) (by kernel_rfl) (by kernel_rfl) (by kernel_rfl) (fun _ _ _ h => h) (by rfl) (by assumption) ?_ ?_
      rotate_left
      · (intro w' hSw; (try dsimp only at hSw); go_simp; try with_reducible rfl)
      try simp only [Act.put, List.setIfInBounds_toArray, List.set_cons_zero, List.set_cons_succ]
      refine take_yes 5 (some 40) (v := ?_) rfl (by kernel_rfl) (by kernel_rfl) (by kernel_rfl) (by kernel_rfl) (fun _ _ _ h => h) (by rfl) (by assumption) ?_ ?_
      rotate_left
      · (intro w' hSw; (try dsimp only at hSw); go_simp; try with_reducible rfl)
      try simp only [Act.put, List.setIfInBounds_toArray, List.set_cons_zero, List.set_cons_succ]
      refine take_run 6 rfl (by kernel_rfl) (by rfl) (fun K hK => ?_)
      go_simp
      refine (HBC.out _ (HS.out.trans (hcA.drew))).mono ?_
      rintro en wq5 ⟨rfl, hq⟩
      have hc6 := (hcA.drew).trans hq
      refine hK.out _ _ (HK8.out _ hc6) (fun hHeld4 => ?_)
      clear hK K hHeld hq
      try simp only [Act.put, List.setIfInBounds_toArray, List.set_cons_zero, List.set_cons_succ]
      refine take_yes 7 (some 15) (v := ?_) rfl (by kernel_rfl) (by kernel_rfl) (by kernel_rfl) (by kernel_rfl) (fun _ _ _ h => h) (by rfl) (by assumption) ?_ ?_
      rotate_left
      · (intro w' hSw; (try dsimp only at hSw); go_simp; try with_reducible rfl)
      try simp only [Act.put, List.setIfInBounds_toArray, List.set_cons_zero, List.set_cons_succ]
      refine wpAnyH_done (by kernel_rfl) ?_ _
      clear hHeld4
      have hcB := hc6
      go_upto_region 7 with fail
      go_cut [57] from 42 to 57 (fun c wx => c = .bool ok ∧ wx = wq5)
      case first =>
        have hok := HOK.out
        cases X <;> cases Y <;> cases only
        all_goals
          (try simp only [Bool.not_true, Bool.not_false, Bool.and_true, Bool.and_false, Bool.true_and, Bool.false_and, Bool.or_true, Bool.or_false, Bool.false_or, Bool.true_or] at hok)
          subst hok
          go_wp2_with fail
          go_meet
          case rel => exact ⟨rfl, rfl⟩
      case rest =>
        obtain ⟨rfl, rfl⟩ := hcut
        have HSB := Lib.hid (HS.out.trans hcB)
        have HOB := Lib.hid (HO.out.since hcB)
        have HB5B := Lib.hid (HB5.out.since hcB)
        have HB7B := Lib.hid (HB7.out.since hcB)
        clear HK8 hcA hcB HAC HBC HOK c0 c1
        cases ok with
        | true =>
          have HF : Hid (R = some ws) := by
            have h1 := HRp.out
            rw [show N + 1 - p = (N - p) + 1 from by have := HLn.out; omega, lwRun_acc HP.out HAP.out] at h1
            injection h1 with h1; exact h1.symm
          have HLP : Hid ((L[p]'HpL.out).2 = ws) := by
            have h1 := HP.out
            rw [List.getElem?_eq_getElem HpL.out] at h1
            injection h1 with h1
            unfold Hid; rw [h1]
          go_wp2_with fail
          refine (HWd.out _ xs L p _ HOB.out HW.out HpL.out HL2.out).mono ?_
          rintro e w9 ⟨u, rfl, hou, hs9⟩
          rw [HLP.out] at hou
          have HOU := Lib.hid hou
          have hs9b := HSB.out.trans hs9
          have hsz := HSB.out.size
          clear hou
          go_wp2
          go_ret2
          rw [HF.out]
          exact ⟨u, rfl, HOU.out.mono hsz, hs9b⟩
        | false =>
          have HR1 : Hid (lwRun (prS A B) (accP only A B) (N - p) (p + 1) (lwRow (prS A B) [a0, b0] ws (9 - 0) L) = some R) := by
            have h1 := HRp.out
            rw [show N + 1 - p = (N - p) + 1 from by have := HLn.out; omega, lwRun_go HP.out HAP.out] at h1
            exact h1
          clear HRp HAP HXL HLn HpL
          go_wp2_with fail
          go_loopw [12, 16] (fun v i wr => ∃ (k : Nat) (xs : List Ln) (L : List (List Int × List Int)), k ≤ 9 ∧ p < xs.length ∧ i = .int .i64 k ∧ Hid (OwnLn (w.heap.size + 2) wr v xs) ∧ Hid (LnW xs L) ∧ Hid (LwI (InP A B) L) ∧ Hid (L[p]? = some ([a0, b0], ws)) ∧ Hid (lwRun (prS A B) (accP only A B) (N - p) (p + 1) (lwRow (prS A B) [a0, b0] ws (9 - k) L) = some R) ∧ Hid (Since w wr) ∧ Hid (Blk wr w.heap.size 39 #[.int .i64 A.st, .slice ao n ac, .slice bo nn bc]) ∧ Hid (Blk wr (w.heap.size + 1) 39 #[.int .i64 B.st, .slice co m cc1, .slice dO mm dc])) (fun _ i _ => 9 - (intOf i).toNat)
          case atStart => exact ⟨0, xs, L, Nat.zero_le _, hlt, rfl, HOB.out, HW.out, HI.out, HP.out, HR1.out, HSB.out, HB5B.out, HB7B.out⟩
          case round =>
            clear HO HW HI HP HR1 HOB HSB HB5B HB7B HB5 HB7 HS HL2
            obtain ⟨k, xs, L, hk, hxp, rfl, HOi, HWi, HIi, HP, HRk, HSi, HB5, HB7⟩ := hrel
            obtain ⟨g, cap, rfl, hg, hgl⟩ := HOi.out.len (by omega)
            have HXL : Hid (xs.length = L.length) := HWi.out.len
            have HLn : Hid (xs.length ≤ N) := by
              have := HIi.out.room HLH.out
              have h2 := HXL.out
              unfold Hid; omega
            have HLi : Hid (xs.length ≤ 2000000) := by
              have := HLn.out
              have := HPL.out
              unfold Hid; omega
            by_cases hkt : k < 9
            · have hki : (k : Int) < 9 := by omega
              have hk0 : (0 : Int) ≤ (k : Int) := by omega
              have hp0 : (0 : Int) ≤ (p : Int) := by omega
              have hpi2 : (p : Int) < (xs.length : Int) := by omega
              obtain ⟨c0, c1, x2, x3, x4⟩ := ownLn_cells HOi.out rfl p hxp
              clear x2 x3 x4
              have hpa : xs[p].a = a0 ∧ xs[p].b = b0 := by
                have hpl : p < L.length := (List.getElem?_eq_some_iff.1 HP.out).1
                have h1 := HWi.out.pr p hxp hpl
                rw [(List.getElem?_eq_some_iff.1 HP.out).2] at h1
                unfold Ln.pr at h1
                simp only [List.cons.injEq, and_true] at h1
                exact ⟨h1.1.symm, h1.2.symm⟩
              rw [hpa.1] at c0
              rw [hpa.2] at c1
              obtain ⟨za, hza⟩ : ∃ z, z = stpQ A a0 k := ⟨_, rfl⟩
              obtain ⟨zb, hzb⟩ : ∃ z, z = stpQ B b0 k := ⟨_, rfl⟩
              have HNA : Hid (∀ W, Since w W → Calls Try.prog 153 #[.agg #[.int .i64 A.st, .slice ao n ac, .slice bo nn bc], .int .i64 a0, .int .i64 (k : Nat)] W fun e w' => e = .returned (.int .i64 za) ∧ Since W w') := fun W h => by rw [hza]; exact HANx.out a0 k W HQ.out.1 hkt h
              have HNB : Hid (∀ W, Since w W → Calls Try.prog 153 #[.agg #[.int .i64 B.st, .slice co m cc1, .slice dO mm dc], .int .i64 b0, .int .i64 (k : Nat)] W fun e w' => e = .returned (.int .i64 zb) ∧ Since W w') := fun W h => by rw [hzb]; exact HBNx.out b0 k W HQ.out.2 hkt h
              have HZ : Hid (prS A B [a0, b0] k = some [za, zb]) := by
                unfold Hid prS
                rw [hza, hzb]; rfl
              obtain ⟨zd, hzd⟩ : ∃ d, d = decide ([za, zb] ∈ L.map (·.1)) := ⟨_, rfl⟩
              have HZD : Hid (decide ((⟨za, zb, (p : Int), (k : Int)⟩ : Ln).pr ∈ xs.map Ln.pr) = zd) := by
                unfold Hid
                rw [HWi.out.prs]; exact hzd.symm
              have HR1 : Hid (zd = true → lwRun (prS A B) (accP only A B) (N - p) (p + 1) (lwRow (prS A B) [a0, b0] ws (9 - (k + 1)) L) = some R) := by
                intro h
                have h1 := HRk.out
                rw [lwRow_old _ _ _ k hkt L [za, zb] HZ.out (of_decide_eq_true (hzd.symm.trans h))] at h1
                exact h1
              have HR0 : Hid (zd = false → lwRun (prS A B) (accP only A B) (N - p) (p + 1) (lwRow (prS A B) [a0, b0] ws (9 - (k + 1)) (L ++ [([za, zb], ws ++ [(k : Int)])])) = some R) := by
                intro h
                have h1 := HRk.out
                rw [lwRow_new _ _ _ k hkt L [za, zb] HZ.out (of_decide_eq_false (hzd.symm.trans h))] at h1
                exact h1
              have HI2 : Hid (zd = false → LwI (InP A B) (L ++ [([za, zb], ws ++ [(k : Int)])])) := fun h =>
                HIi.out.snoc HP.out (of_decide_eq_false (hzd.symm.trans h)) (HLH.out.step [a0, b0] k [za, zb] hkt ⟨a0, b0, rfl, HQ.out.1, HQ.out.2⟩ HZ.out) hkt
              clear hzd hza hzb hpa HRk
              have HK8 : Hid (∀ w', Since wr w' → w'.cell? ⟨w.heap.size, 0, none⟩ = some (.int .i64 A.st) ∧ w'.cell? ⟨w.heap.size, 1, none⟩ = some (.slice ao n ac) ∧ w'.cell? ⟨w.heap.size, 2, none⟩ = some (.slice bo nn bc) ∧ w'.cell? ⟨w.heap.size + 1, 0, none⟩ = some (.int .i64 B.st) ∧ w'.cell? ⟨w.heap.size + 1, 1, none⟩ = some (.slice co m cc1) ∧ w'.cell? ⟨w.heap.size + 1, 2, none⟩ = some (.slice dO mm dc) ∧ w'.cell? ⟨g, p * 5, none⟩ = some (.int .i64 a0) ∧ w'.cell? ⟨g, p * 5 + 1, none⟩ = some (.int .i64 b0)) := by
                intro w' hs
                obtain ⟨⟨r0, r1, r2⟩, _⟩ := (HB5.out.since hs).threeA
                obtain ⟨⟨r3, r4, r5⟩, _⟩ := (HB7.out.since hs).threeA
                exact ⟨r0, r1, r2, r3, r4, r5, (Below.cell hs (p := ⟨g, p * 5, none⟩) hgl).trans c0, (Below.cell hs (p := ⟨g, p * 5 + 1, none⟩) hgl).trans c1⟩
              clear c0 c1
              go_wp2_with fail
              refine wp_region_held_drew (S := (fun w' => w'.cell? ⟨w.heap.size, 0, none⟩ = some (.int .i64 A.st) ∧ w'.cell? ⟨w.heap.size, 1, none⟩ = some (.slice ao n ac) ∧ w'.cell? ⟨w.heap.size, 2, none⟩ = some (.slice bo nn bc) ∧ w'.cell? ⟨w.heap.size + 1, 0, none⟩ = some (.int .i64 B.st) ∧ w'.cell? ⟨w.heap.size + 1, 1, none⟩ = some (.slice co m cc1) ∧ w'.cell? ⟨w.heap.size + 1, 2, none⟩ = some (.slice dO mm dc) ∧ w'.cell? ⟨g, p * 5, none⟩ = some (.int .i64 a0) ∧ w'.cell? ⟨g, p * 5 + 1, none⟩ = some (.int .i64 b0))) (by kernel_rfl) (HK8.out _ (Since.refl _).drew) (fun hHeld => ?_)
              refine take_yes 0 (some 65) (v := ?_) rfl (by kernel_rfl) (by kernel_rfl) (by kernel_rfl) (by kernel_rfl) (fun _ _ _ h => h) (by rfl) (by assumption) ?_ ?_
              rotate_left
              · (intro w' hSw; (try dsimp only at hSw); go_simp; try with_reducible rfl)
              try simp only [Act.put, List.setIfInBounds_toArray, List.set_cons_zero, List.set_cons_succ]
              refine take_yes 1 (some 66) (v := ?_) rfl (by kernel_rfl) (by kernel_rfl) (by kernel_rfl) (by kernel_rfl) (fun _ _ _ h => h) (by rfl) (by assumption) ?_ ?_
              rotate_left
              · (intro w' hSw; (try dsimp only at hSw); go_simp; try with_reducible rfl)
              try simp only [Act.put, List.setIfInBounds_toArray, List.set_cons_zero, List.set_cons_succ]
              refine take_yes 2 (some 67) (v := ?_) rfl (by kernel_rfl) (by kernel_rfl) (by kernel_rfl) (by kernel_rfl) (fun _ _ _ h => h) (by rfl) (by assumption) ?_ ?_
              rotate_left
              · (intro w' hSw; (try dsimp only at hSw); go_simp; try with_reducible rfl)
              try simp only [Act.put, List.setIfInBounds_toArray, List.set_cons_zero, List.set_cons_succ]
              refine take_yes 3 (some 68) (v := ?_) rfl (by kernel_rfl) (by kernel_rfl) (by kernel_rfl) (by kernel_rfl) (fun _ _ _ h => h) (by rfl) (by assumption) ?_ ?_
              rotate_left
              · (intro w' hSw; (try dsimp only at hSw); go_simp; try with_reducible rfl)
              try simp only [Act.put, List.setIfInBounds_toArray, List.set_cons_zero, List.set_cons_succ]
              refine take_yes 4 (some 69) (v := ?_) rfl (by kernel_rfl) (by kernel_rfl) (by kernel_rfl) (by kernel_rfl) (fun _ _ _ h => h) (by rfl) (by assumption) ?_ ?_
              rotate_left
              · (intro w' hSw; (try dsimp only at hSw); go_simp; try with_reducible rfl)
              try simp only [Act.put, List.setIfInBounds_toArray, List.set_cons_zero, List.set_cons_succ]
              refine take_yes 5 (some 70) (v := ?_) rfl (by kernel_rfl) (by kernel_rfl) (by kernel_rfl) (by kernel_rfl) (fun _ _ _ h => h) (by rfl) (by assumption) ?_ ?_
              rotate_left
              · (intro w' hSw; (try dsimp only at hSw); go_simp; try with_reducible rfl)
              try simp only [Act.put, List.setIfInBounds_toArray, List.set_cons_zero, List.set_cons_succ]
              refine take_yes 6 (some 71) (v := ?_) rfl (by kernel_rfl) (by kernel_rfl) (by kernel_rfl) (by kernel_rfl) (fun _ _ _ h => h) (by rfl) (by assumption) ?_ ?_
              rotate_left
              · (intro w' hSw; (try dsimp only at hSw); go_simp; try with_reducible rfl)
              try simp only [Act.put, List.setIfInBounds_toArray, List.set_cons_zero, List.set_cons_succ]
              refine take_yes 8 (some 73) (v := ?_) rfl (by kernel_rfl) (by kernel_rfl) (by kernel_rfl) (by kernel_rfl) (fun _ _ _ h => h) (by rfl) (by assumption) ?_ ?_
              rotate_left
              · (intro w' hSw; (try dsimp only at hSw); go_simp; try with_reducible rfl)
              try simp only [Act.put, List.setIfInBounds_toArray, List.set_cons_zero, List.set_cons_succ]
              refine take_yes 9 (some 74) (v := ?_) rfl (by kernel_rfl) (by kernel_rfl) (by kernel_rfl) (by kernel_rfl) (fun _ _ _ h => h) (by rfl) (by assumption) ?_ ?_
              rotate_left
              · (intro w' hSw; (try dsimp only at hSw); go_simp; try with_reducible rfl)
              try simp only [Act.put, List.setIfInBounds_toArray, List.set_cons_zero, List.set_cons_succ]
              refine take_yes 10 (some 75) (v := ?_) rfl (by kernel_rfl) (by kernel_rfl) (by kernel_rfl) (by kernel_rfl) (fun _ _ _ h => h) (by rfl) (by assumption) ?_ ?_
              rotate_left
              · (intro w' hSw; (try dsimp only at hSw); go_simp; try with_reducible rfl)
              try simp only [Act.put, List.setIfInBounds_toArray, List.set_cons_zero, List.set_cons_succ]
              refine take_yes 11 (some 76) (v := ?_) rfl (by kernel_rfl) (by kernel_rfl) (by kernel_rfl) (by kernel_rfl) (fun _ _ _ h => h) (by rfl) (by assumption) ?_ ?_
              rotate_left
              · (intro w' hSw; (try dsimp only at hSw); go_simp; try with_reducible rfl)
              try simp only [Act.put, List.setIfInBounds_toArray, List.set_cons_zero, List.set_cons_succ]
              refine take_yes 12 (some 77) (v := ?_) rfl (by kernel_rfl) (by kernel_rfl) (by kernel_rfl) (by kernel_rfl) (fun _ _ _ h => h) (by rfl) (by assumption) ?_ ?_
              rotate_left
              · (intro w' hSw; (try dsimp only at hSw); go_simp; try with_reducible rfl)
              try simp only [Act.put, List.setIfInBounds_toArray, List.set_cons_zero, List.set_cons_succ]
              refine take_yes 13 (some 78) (v := ?_) rfl (by kernel_rfl) (by kernel_rfl) (by kernel_rfl) (by kernel_rfl) (fun _ _ _ h => h) (by rfl) (by assumption) ?_ ?_
              rotate_left
              · (intro w' hSw; (try dsimp only at hSw); go_simp; try with_reducible rfl)
              try simp only [Act.put, List.setIfInBounds_toArray, List.set_cons_zero, List.set_cons_succ]
              refine take_yes 14 (some 79) (v := ?_) rfl (by kernel_rfl) (by kernel_rfl) (by kernel_rfl) (by kernel_rfl) (fun _ _ _ h => h) (by rfl) (by assumption) ?_ ?_
              rotate_left
              · (intro w' hSw; (try dsimp only at hSw); go_simp; try with_reducible rfl)
              try simp only [Act.put, List.setIfInBounds_toArray, List.set_cons_zero, List.set_cons_succ]
              refine take_yes 16 (some 81) (v := ?_) rfl (by kernel_rfl) (by kernel_rfl) (by kernel_rfl) (by kernel_rfl) (fun _ _ _ h => h) (by rfl) (by assumption) ?_ ?_
              rotate_left
              · (intro w' hSw; (try dsimp only at hSw); go_simp; try with_reducible rfl)
              try simp only [Act.put, List.setIfInBounds_toArray, List.set_cons_zero, List.set_cons_succ]
              refine take_yes 17 (some 82) (v := ?_) rfl (by kernel_rfl) (by kernel_rfl) (by kernel_rfl) (by kernel_rfl) (fun _ _ _ h => h) (by rfl) (by assumption) ?_ ?_
              rotate_left
              · (intro w' hSw; (try dsimp only at hSw); go_simp; try with_reducible rfl)
              try simp only [Act.put, List.setIfInBounds_toArray, List.set_cons_zero, List.set_cons_succ]
              refine take_two 7 19 rfl rfl (by kernel_rfl) (by rfl) (by rfl) (fun K hK => ?_) (fun K hK => ?_)
              · skip
                go_simp
                refine (HNA.out _ (HSi.out.trans ((Since.refl wr).drew))).mono ?_
                rintro en wq8 ⟨rfl, hq⟩
                have hc9 := ((Since.refl wr).drew).trans hq
                refine hK.out _ _ (HK8.out _ hc9) (fun hHeld7 => ?_)
                clear hK K hHeld hq
                try simp only [Act.put, List.setIfInBounds_toArray, List.set_cons_zero, List.set_cons_succ]
                refine take_two 15 19 rfl rfl (by kernel_rfl) (by rfl) (by rfl) (fun K hK => ?_) (fun K hK => ?_)
                · skip
                  go_simp
                  refine (HNB.out _ (HSi.out.trans (hc9))).mono ?_
                  rintro en wq11 ⟨rfl, hq⟩
                  have hc12 := (hc9).trans hq
                  refine hK.out _ _ (HK8.out _ hc12) (fun hHeld10 => ?_)
                  clear hK K hHeld7 hq
                  try simp only [Act.put, List.setIfInBounds_toArray, List.set_cons_zero, List.set_cons_succ]
                  refine take_yes 18 (some 83) (v := ?_) rfl (by kernel_rfl) (by kernel_rfl) (by kernel_rfl) (by kernel_rfl) (fun _ _ _ h => h) (by rfl) (by assumption) ?_ ?_
                  rotate_left
                  · (intro w' hSw; (try dsimp only at hSw); go_simp; try with_reducible rfl)
                  try simp only [Act.put, List.setIfInBounds_toArray, List.set_cons_zero, List.set_cons_succ]
                  refine take_run 19 rfl (by kernel_rfl) (by rfl) (fun K hK => ?_)
                  go_simp
                  have hc14 := Since.alloc (hc12) (.cells #[.int .i64 0, .int .i64 0, .bool false, .int .i64 0, .int .i64 0] 141)
                  have BA15 : Hid (Blk (wq11.alloc (.cells #[.int .i64 0, .int .i64 0, .bool false, .int .i64 0, .int .i64 0] 141)) (wq11.heap.size) 141 #[.int .i64 0, .int .i64 0, .bool false, .int .i64 0, .int .i64 0]) := Blk.new (by first | rfl | simp) _ _
                  have hA16 : wr.heap.size ≤ wq11.heap.size := by have := Since.lt (hc12); first | exact this | (simp at this; exact this)
                  refine hK.out _ _ (HK8.out _ hc14) (fun hHeld13 => ?_)
                  clear hK K hHeld10
                  try simp only [Act.put, List.setIfInBounds_toArray, List.set_cons_zero, List.set_cons_succ]
                  refine take_run 20 rfl (by kernel_rfl) (by rfl) (fun K hK => ?_)
                  obtain ⟨⟨s0, s1, s2, s3, s4⟩, s5, s6, s7, s8, s9⟩ := fiveB (BA15.out)
                  go_simp
                  clear s0 s1 s2 s3 s4 s5 s6 s7 s8 s9
                  have hcF := Since.alloc (hc12) (.cells #[.int .i64 za, .int .i64 zb, .bool false, .int .i64 (p : Int), .int .i64 (k : Int)] 141)
                  have BF : Hid (Blk (wq11.alloc (.cells #[.int .i64 za, .int .i64 zb, .bool false, .int .i64 (p : Int), .int .i64 (k : Int)] 141)) (wq11.heap.size) 141 #[.int .i64 za, .int .i64 zb, .bool false, .int .i64 (p : Int), .int .i64 (k : Int)]) := Blk.new (by first | rfl | simp) _ _
                  refine hK.out _ _ (HK8.out _ hcF) (fun hHeld17 => ?_)
                  clear hK K hHeld13
                  try simp only [Act.put, List.setIfInBounds_toArray, List.set_cons_zero, List.set_cons_succ]
                  refine wpAnyH_done (by kernel_rfl) ?_ _
                  clear hHeld17
                  have HOF := Lib.hid (HOi.out.since hcF)
                  have HSF := Lib.hid (HSi.out.trans hcF)
                  have HB5F := Lib.hid (HB5.out.since hcF)
                  have HB7F := Lib.hid (HB7.out.since hcF)
                  obtain ⟨wF, hwF⟩ : ∃ wF, wF = (wq11.alloc (.cells #[.int .i64 za, .int .i64 zb, .bool false, .int .i64 (p : Int), .int .i64 (k : Int)] 141)) := ⟨_, rfl⟩
                  obtain ⟨G, hG⟩ : ∃ G, G = wq11.heap.size := ⟨_, rfl⟩
                  rw [← hwF] at hcF BF HOF HSF HB5F HB7F
                  rw [← hG] at BF
                  try rw [← hwF]
                  try rw [← hG]
                  clear hwF hG hcF
                  obtain ⟨⟨s0, s1, s2, s3, s4⟩, _⟩ := fiveB BF.out
                  go_wp2_with fail
                  refine (HHs.out _ xs ⟨za, zb, (p : Int), (k : Int)⟩ _ HOF.out HLi.out).mono ?_
                  rintro e w9 ⟨rfl, hs9⟩
                  rw [HZD.out]
                  have BF9 := Lib.hid (BF.out.since hs9)
                  have HO9 := Lib.hid (HOF.out.since hs9)
                  have HS9 := Lib.hid (HSF.out.trans hs9)
                  have HB59 := Lib.hid (HB5F.out.since hs9)
                  have HB79 := Lib.hid (HB7F.out.since hs9)
                  clear s0 s1 s2 s3 s4 BF HOF HSF HB5F HB7F hs9
                  cases zd with
                  | true =>
                    go_wp2
                    go_roundw
                    case rel => exact ⟨k + 1, xs, L, by omega, hxp, by go_num, HO9.out, HWi.out, HIi.out, HP.out, HR1.out (by first | rfl | trivial), HS9.out, HB59.out, HB79.out⟩
                    case measure => simp [intOf]; omega
                  | false =>
                    obtain ⟨⟨s0, s1, s2, s3, s4⟩, _⟩ := fiveB BF9.out
                    have hlen : xs.length ≤ 2000000 := HLi.out
                    have hbF : w.heap.size + 2 ≤ w9.heap.size := by have := HB79.out.lt; omega
                    go_wp2_with (at_builtin; go_must (refine wpList_append_ln rfl (.tmp 88) (.tmp 90) rfl (.slice (some ⟨g, 0, none⟩) xs.length cap) xs (by first | rfl | simp [Act.eval]) HO9.out ⟨za, zb, (p : Int), (k : Int)⟩ (by first | rfl | simp [Act.eval]) hlen hbF ?_); intro v5 w5 ho5 hg5)
                    have HO5 := Lib.hid ho5
                    have HS5 : Hid (Since w w5) := HS9.out.grown hg5 (fun j hj => by have hj2 : some g = some j := hj; injection hj2 with e; omega)
                    have HB55 : Hid (Blk w5 w.heap.size 39 #[.int .i64 A.st, .slice ao n ac, .slice bo nn bc]) := (hg5.block _ HB59.out.lt (by intro e; have hj2 : some w.heap.size = some g := e; injection hj2 with e; omega)).trans HB59.out
                    have HB75 : Hid (Blk w5 (w.heap.size + 1) 39 #[.int .i64 B.st, .slice co m cc1, .slice dO mm dc]) := (hg5.block _ HB79.out.lt (by intro e; have hj2 : some (w.heap.size + 1) = some g := e; injection hj2 with e; omega)).trans HB79.out
                    clear ho5 hg5 s0 s1 s2 s3 s4
                    go_roundw
                    case rel => exact ⟨k + 1, xs ++ [(⟨za, zb, (p : Int), (k : Int)⟩ : Ln)], L ++ [([za, zb], ws ++ [(k : Int)])], by omega, by simp; omega, by go_num, HO5.out, HWi.out.snoc HP.out hkt za zb, HI2.out (by first | rfl | trivial), (by unfold Hid; rw [List.getElem?_append_left (List.getElem?_eq_some_iff.1 HP.out).1]; exact HP.out), HR0.out (by first | rfl | trivial), HS5.out, HB55.out, HB75.out⟩
                    case measure => simp [intOf]; omega
                · skip
                  go_simp
                  have hc19 := Since.alloc (hc9) (.cells #[.int .i64 0, .int .i64 0, .bool false, .int .i64 0, .int .i64 0] 141)
                  have BA20 : Hid (Blk (wq8.alloc (.cells #[.int .i64 0, .int .i64 0, .bool false, .int .i64 0, .int .i64 0] 141)) (wq8.heap.size) 141 #[.int .i64 0, .int .i64 0, .bool false, .int .i64 0, .int .i64 0]) := Blk.new (by first | rfl | simp) _ _
                  have hA21 : wr.heap.size ≤ wq8.heap.size := by have := Since.lt (hc9); first | exact this | (simp at this; exact this)
                  refine hK.out _ _ (HK8.out _ hc19) (fun hHeld18 => ?_)
                  clear hK K hHeld7
                  try simp only [Act.put, List.setIfInBounds_toArray, List.set_cons_zero, List.set_cons_succ]
                  refine take_run 15 rfl (by kernel_rfl) (by rfl) (fun K hK => ?_)
                  go_simp
                  refine (HNB.out _ (HSi.out.trans (hc19))).mono ?_
                  rintro en wq23 ⟨rfl, hq⟩
                  have hc24 := (hc19).trans hq
                  have BA25 := Lib.hid ((BA20.out).since hq)
                  refine hK.out _ _ (HK8.out _ hc24) (fun hHeld22 => ?_)
                  clear hK K hHeld18 hq
                  try simp only [Act.put, List.setIfInBounds_toArray, List.set_cons_zero, List.set_cons_succ]
                  refine take_yes 18 (some 83) (v := ?_) rfl (by kernel_rfl) (by kernel_rfl) (by kernel_rfl) (by kernel_rfl) (fun _ _ _ h => h) (by rfl) (by assumption) ?_ ?_
                  rotate_left
                  · (intro w' hSw; (try dsimp only at hSw); go_simp; try with_reducible rfl)
                  try simp only [Act.put, List.setIfInBounds_toArray, List.set_cons_zero, List.set_cons_succ]
                  refine take_run 20 rfl (by kernel_rfl) (by rfl) (fun K hK => ?_)
                  obtain ⟨⟨s0, s1, s2, s3, s4⟩, s5, s6, s7, s8, s9⟩ := fiveB (BA25.out)
                  go_simp
                  clear s0 s1 s2 s3 s4 s5 s6 s7 s8 s9
                  have hcF := (Since.setCell (Since.setCell (Since.setCell (Since.setCell (Since.setCell hc24 (a := ⟨wq8.heap.size, 0, none⟩) hA21 (.int .i64 za)) (a := ⟨wq8.heap.size, 1, none⟩) hA21 (.int .i64 zb)) (a := ⟨wq8.heap.size, 2, none⟩) hA21 (.bool false)) (a := ⟨wq8.heap.size, 3, none⟩) hA21 (.int .i64 (p : Int))) (a := ⟨wq8.heap.size, 4, none⟩) hA21 (.int .i64 (k : Int)))
                  have BF := Lib.hid ((((((BA25.out).set 0 (.int .i64 za)).set 1 (.int .i64 zb)).set 2 (.bool false)).set 3 (.int .i64 (p : Int))).set 4 (.int .i64 (k : Int)))
                  refine hK.out _ _ (HK8.out _ hcF) (fun hHeld26 => ?_)
                  clear hK K hHeld22
                  try simp only [Act.put, List.setIfInBounds_toArray, List.set_cons_zero, List.set_cons_succ]
                  refine wpAnyH_done (by kernel_rfl) ?_ _
                  clear hHeld26
                  have HOF := Lib.hid (HOi.out.since hcF)
                  have HSF := Lib.hid (HSi.out.trans hcF)
                  have HB5F := Lib.hid (HB5.out.since hcF)
                  have HB7F := Lib.hid (HB7.out.since hcF)
                  obtain ⟨wF, hwF⟩ : ∃ wF, wF = (((((wq23.setCell ⟨wq8.heap.size, 0, none⟩ (.int .i64 za)).setCell ⟨wq8.heap.size, 1, none⟩ (.int .i64 zb)).setCell ⟨wq8.heap.size, 2, none⟩ (.bool false)).setCell ⟨wq8.heap.size, 3, none⟩ (.int .i64 (p : Int))).setCell ⟨wq8.heap.size, 4, none⟩ (.int .i64 (k : Int))) := ⟨_, rfl⟩
                  obtain ⟨G, hG⟩ : ∃ G, G = wq8.heap.size := ⟨_, rfl⟩
                  rw [← hwF] at hcF BF HOF HSF HB5F HB7F
                  rw [← hG] at BF
                  try rw [← hwF]
                  try rw [← hG]
                  clear hwF hG hcF
                  obtain ⟨⟨s0, s1, s2, s3, s4⟩, _⟩ := fiveB BF.out
                  go_wp2_with fail
                  refine (HHs.out _ xs ⟨za, zb, (p : Int), (k : Int)⟩ _ HOF.out HLi.out).mono ?_
                  rintro e w9 ⟨rfl, hs9⟩
                  rw [HZD.out]
                  have BF9 := Lib.hid (BF.out.since hs9)
                  have HO9 := Lib.hid (HOF.out.since hs9)
                  have HS9 := Lib.hid (HSF.out.trans hs9)
                  have HB59 := Lib.hid (HB5F.out.since hs9)
                  have HB79 := Lib.hid (HB7F.out.since hs9)
                  clear s0 s1 s2 s3 s4 BF HOF HSF HB5F HB7F hs9
                  cases zd with
                  | true =>
                    go_wp2
                    go_roundw
                    case rel => exact ⟨k + 1, xs, L, by omega, hxp, by go_num, HO9.out, HWi.out, HIi.out, HP.out, HR1.out (by first | rfl | trivial), HS9.out, HB59.out, HB79.out⟩
                    case measure => simp [intOf]; omega
                  | false =>
                    obtain ⟨⟨s0, s1, s2, s3, s4⟩, _⟩ := fiveB BF9.out
                    have hlen : xs.length ≤ 2000000 := HLi.out
                    have hbF : w.heap.size + 2 ≤ w9.heap.size := by have := HB79.out.lt; omega
                    go_wp2_with (at_builtin; go_must (refine wpList_append_ln rfl (.tmp 88) (.tmp 90) rfl (.slice (some ⟨g, 0, none⟩) xs.length cap) xs (by first | rfl | simp [Act.eval]) HO9.out ⟨za, zb, (p : Int), (k : Int)⟩ (by first | rfl | simp [Act.eval]) hlen hbF ?_); intro v5 w5 ho5 hg5)
                    have HO5 := Lib.hid ho5
                    have HS5 : Hid (Since w w5) := HS9.out.grown hg5 (fun j hj => by have hj2 : some g = some j := hj; injection hj2 with e; omega)
                    have HB55 : Hid (Blk w5 w.heap.size 39 #[.int .i64 A.st, .slice ao n ac, .slice bo nn bc]) := (hg5.block _ HB59.out.lt (by intro e; have hj2 : some w.heap.size = some g := e; injection hj2 with e; omega)).trans HB59.out
                    have HB75 : Hid (Blk w5 (w.heap.size + 1) 39 #[.int .i64 B.st, .slice co m cc1, .slice dO mm dc]) := (hg5.block _ HB79.out.lt (by intro e; have hj2 : some (w.heap.size + 1) = some g := e; injection hj2 with e; omega)).trans HB79.out
                    clear ho5 hg5 s0 s1 s2 s3 s4
                    go_roundw
                    case rel => exact ⟨k + 1, xs ++ [(⟨za, zb, (p : Int), (k : Int)⟩ : Ln)], L ++ [([za, zb], ws ++ [(k : Int)])], by omega, by simp; omega, by go_num, HO5.out, HWi.out.snoc HP.out hkt za zb, HI2.out (by first | rfl | trivial), (by unfold Hid; rw [List.getElem?_append_left (List.getElem?_eq_some_iff.1 HP.out).1]; exact HP.out), HR0.out (by first | rfl | trivial), HS5.out, HB55.out, HB75.out⟩
                    case measure => simp [intOf]; omega
              · skip
                go_simp
                have hc28 := Since.alloc ((Since.refl wr).drew) (.cells #[.int .i64 0, .int .i64 0, .bool false, .int .i64 0, .int .i64 0] 141)
                have BA29 : Hid (Blk (wr.drew.alloc (.cells #[.int .i64 0, .int .i64 0, .bool false, .int .i64 0, .int .i64 0] 141)) (wr.heap.size) 141 #[.int .i64 0, .int .i64 0, .bool false, .int .i64 0, .int .i64 0]) := Blk.new (by first | rfl | simp) _ _
                have hA30 : wr.heap.size ≤ wr.heap.size := by have := Since.lt ((Since.refl wr).drew); first | exact this | (simp at this; exact this)
                refine hK.out _ _ (HK8.out _ hc28) (fun hHeld27 => ?_)
                clear hK K hHeld
                try simp only [Act.put, List.setIfInBounds_toArray, List.set_cons_zero, List.set_cons_succ]
                refine take_run 7 rfl (by kernel_rfl) (by rfl) (fun K hK => ?_)
                go_simp
                refine (HNA.out _ (HSi.out.trans (hc28))).mono ?_
                rintro en wq32 ⟨rfl, hq⟩
                have hc33 := (hc28).trans hq
                have BA34 := Lib.hid ((BA29.out).since hq)
                refine hK.out _ _ (HK8.out _ hc33) (fun hHeld31 => ?_)
                clear hK K hHeld27 hq
                try simp only [Act.put, List.setIfInBounds_toArray, List.set_cons_zero, List.set_cons_succ]
                refine take_run 15 rfl (by kernel_rfl) (by rfl) (fun K hK => ?_)
                go_simp
                refine (HNB.out _ (HSi.out.trans (hc33))).mono ?_
                rintro en wq36 ⟨rfl, hq⟩
                have hc37 := (hc33).trans hq
                have BA38 := Lib.hid ((BA34.out).since hq)
                refine hK.out _ _ (HK8.out _ hc37) (fun hHeld35 => ?_)
                clear hK K hHeld31 hq
                try simp only [Act.put, List.setIfInBounds_toArray, List.set_cons_zero, List.set_cons_succ]
                refine take_yes 18 (some 83) (v := ?_) rfl (by kernel_rfl) (by kernel_rfl) (by kernel_rfl) (by kernel_rfl) (fun _ _ _ h => h) (by rfl) (by assumption) ?_ ?_
                rotate_left
                · (intro w' hSw; (try dsimp only at hSw); go_simp; try with_reducible rfl)
                try simp only [Act.put, List.setIfInBounds_toArray, List.set_cons_zero, List.set_cons_succ]
                refine take_run 20 rfl (by kernel_rfl) (by rfl) (fun K hK => ?_)
                obtain ⟨⟨s0, s1, s2, s3, s4⟩, s5, s6, s7, s8, s9⟩ := fiveB (BA38.out)
                go_simp
                clear s0 s1 s2 s3 s4 s5 s6 s7 s8 s9
                have hcF := (Since.setCell (Since.setCell (Since.setCell (Since.setCell (Since.setCell hc37 (a := ⟨wr.heap.size, 0, none⟩) hA30 (.int .i64 za)) (a := ⟨wr.heap.size, 1, none⟩) hA30 (.int .i64 zb)) (a := ⟨wr.heap.size, 2, none⟩) hA30 (.bool false)) (a := ⟨wr.heap.size, 3, none⟩) hA30 (.int .i64 (p : Int))) (a := ⟨wr.heap.size, 4, none⟩) hA30 (.int .i64 (k : Int)))
                have BF := Lib.hid ((((((BA38.out).set 0 (.int .i64 za)).set 1 (.int .i64 zb)).set 2 (.bool false)).set 3 (.int .i64 (p : Int))).set 4 (.int .i64 (k : Int)))
                refine hK.out _ _ (HK8.out _ hcF) (fun hHeld39 => ?_)
                clear hK K hHeld35
                try simp only [Act.put, List.setIfInBounds_toArray, List.set_cons_zero, List.set_cons_succ]
                refine wpAnyH_done (by kernel_rfl) ?_ _
                clear hHeld39
                have HOF := Lib.hid (HOi.out.since hcF)
                have HSF := Lib.hid (HSi.out.trans hcF)
                have HB5F := Lib.hid (HB5.out.since hcF)
                have HB7F := Lib.hid (HB7.out.since hcF)
                obtain ⟨wF, hwF⟩ : ∃ wF, wF = (((((wq36.setCell ⟨wr.heap.size, 0, none⟩ (.int .i64 za)).setCell ⟨wr.heap.size, 1, none⟩ (.int .i64 zb)).setCell ⟨wr.heap.size, 2, none⟩ (.bool false)).setCell ⟨wr.heap.size, 3, none⟩ (.int .i64 (p : Int))).setCell ⟨wr.heap.size, 4, none⟩ (.int .i64 (k : Int))) := ⟨_, rfl⟩
                obtain ⟨G, hG⟩ : ∃ G, G = wr.heap.size := ⟨_, rfl⟩
                rw [← hwF] at hcF BF HOF HSF HB5F HB7F
                rw [← hG] at BF
                try rw [← hwF]
                try rw [← hG]
                clear hwF hG hcF
                obtain ⟨⟨s0, s1, s2, s3, s4⟩, _⟩ := fiveB BF.out
                go_wp2_with fail
                refine (HHs.out _ xs ⟨za, zb, (p : Int), (k : Int)⟩ _ HOF.out HLi.out).mono ?_
                rintro e w9 ⟨rfl, hs9⟩
                rw [HZD.out]
                have BF9 := Lib.hid (BF.out.since hs9)
                have HO9 := Lib.hid (HOF.out.since hs9)
                have HS9 := Lib.hid (HSF.out.trans hs9)
                have HB59 := Lib.hid (HB5F.out.since hs9)
                have HB79 := Lib.hid (HB7F.out.since hs9)
                clear s0 s1 s2 s3 s4 BF HOF HSF HB5F HB7F hs9
                cases zd with
                | true =>
                  go_wp2
                  go_roundw
                  case rel => exact ⟨k + 1, xs, L, by omega, hxp, by go_num, HO9.out, HWi.out, HIi.out, HP.out, HR1.out (by first | rfl | trivial), HS9.out, HB59.out, HB79.out⟩
                  case measure => simp [intOf]; omega
                | false =>
                  obtain ⟨⟨s0, s1, s2, s3, s4⟩, _⟩ := fiveB BF9.out
                  have hlen : xs.length ≤ 2000000 := HLi.out
                  have hbF : w.heap.size + 2 ≤ w9.heap.size := by have := HB79.out.lt; omega
                  go_wp2_with (at_builtin; go_must (refine wpList_append_ln rfl (.tmp 88) (.tmp 90) rfl (.slice (some ⟨g, 0, none⟩) xs.length cap) xs (by first | rfl | simp [Act.eval]) HO9.out ⟨za, zb, (p : Int), (k : Int)⟩ (by first | rfl | simp [Act.eval]) hlen hbF ?_); intro v5 w5 ho5 hg5)
                  have HO5 := Lib.hid ho5
                  have HS5 : Hid (Since w w5) := HS9.out.grown hg5 (fun j hj => by have hj2 : some g = some j := hj; injection hj2 with e; omega)
                  have HB55 : Hid (Blk w5 w.heap.size 39 #[.int .i64 A.st, .slice ao n ac, .slice bo nn bc]) := (hg5.block _ HB59.out.lt (by intro e; have hj2 : some w.heap.size = some g := e; injection hj2 with e; omega)).trans HB59.out
                  have HB75 : Hid (Blk w5 (w.heap.size + 1) 39 #[.int .i64 B.st, .slice co m cc1, .slice dO mm dc]) := (hg5.block _ HB79.out.lt (by intro e; have hj2 : some (w.heap.size + 1) = some g := e; injection hj2 with e; omega)).trans HB79.out
                  clear ho5 hg5 s0 s1 s2 s3 s4
                  go_roundw
                  case rel => exact ⟨k + 1, xs ++ [(⟨za, zb, (p : Int), (k : Int)⟩ : Ln)], L ++ [([za, zb], ws ++ [(k : Int)])], by omega, by simp; omega, by go_num, HO5.out, HWi.out.snoc HP.out hkt za zb, HI2.out (by first | rfl | trivial), (by unfold Hid; rw [List.getElem?_append_left (List.getElem?_eq_some_iff.1 HP.out).1]; exact HP.out), HR0.out (by first | rfl | trivial), HS5.out, HB55.out, HB75.out⟩
                  case measure => simp [intOf]; omega
            · have hk9 : k = 9 := by omega
              subst hk9
              have hNp : xs.length ≤ N := HLn.out
              have hNq : xs.length ≤ 2000000 := HLi.out
              have HRn : Hid (lwRun (prS A B) (accP only A B) (N + 1 - (p + 1)) (p + 1) L = some R) := by
                have h1 := HRk.out
                rw [show N + 1 - (p + 1) = N - p from by omega]
                exact h1
              go_wp2
              go_roundw
              case rel => exact ⟨p + 1, xs, L, by omega, by omega, by go_num, HOi.out, HWi.out, HIi.out, HRn.out, HSi.out, HB5.out, HB7.out⟩
              case measure => simp [intOf]; omega
    · have HF : Hid (R = none) := by
        have h1 := HRp.out
        have h2 := HXL.out
        have h3 := HLn.out
        rw [show N + 1 - p = (N - p) + 1 from by omega, lwRun_end (by omega)] at h1
        injection h1 with h1; exact h1.symm
      have hol := own_lit w wr HS.out wr.heap.size rfl
      have HOL := Lib.hid hol
      have hsl := HS.out.alloc (.cells #[] 3)
      have hpn : ¬ ((p : Int) < (xs.length : Int)) := by omega
      clear hol
      go_wp2
      go_ret2
      rw [HF.out]
      exact ⟨_, rfl, HOL.out, hsl⟩
end Go.Proofs.Ytmaagihfjldgeaa

