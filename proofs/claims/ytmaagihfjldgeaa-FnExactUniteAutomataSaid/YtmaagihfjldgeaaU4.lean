/- PrU, Un4Walk: small words and contracts that the other texts use. -/
import Derived.Test.YtmaagihfjldgeaaA7
import Derived.Test.YtmaagihfjldgeaaK1
import Derived.Test.YtmaagihfjldgeaaA1
import Derived.Test.YtmaagihfjldgeaaOpenI
/- UniteAutomata, the program's and the model's. -/
namespace Go.Proofs.Ytmaagihfjldgeaa
set_option maxRecDepth 100000
open Go.ChangeShapes Go.WideShapes Go.ChangeAt Go.RowKit Go.Maps
set_option linter.unusedVariables false
set_option linter.unusedSimpArgs false

set_option maxHeartbeats 4000000 in
set_option maxRecDepth 100000 in
theorem implUnite_any (v u : Value) (A B : Aut) (f : Nat → Bool) (w : World) (h : AutAt w v A) (h2 : AutAt w u B) (hm : MxA A) (hm2 : MxA B) (hf : ∀ s, f s = true ↔ LiveP (pairA opOr A B) s) :
    Calls Try.prog 64 #[v, u] w (ABOut w (cmbA opOr A B f) (cmbOk opOr A B f)) := by
  have HCB : Hid (∀ W, Since w W → Calls Try.prog 124 #[v, u, (.func (.func 129) #[] #[])] W (ABOut W (cmbA opOr A B f) (cmbOk opOr A B f))) := fun W hW =>
    combA_any opOr (.func 129) v u A B f W (h.since hW) (h2.since hW) hm hm2 hf (fun BQ BA BB a b W' h1 h3 h4 => accOr_any A B BQ BA BB a b h1 h3 W' h4)
  obtain ⟨R, hR⟩ : ∃ q, q = cmbA opOr A B f := ⟨_, rfl⟩
  obtain ⟨C, hC⟩ : ∃ q, q = cmbOk opOr A B f := ⟨_, rfl⟩
  rw [← hR, ← hC] at HCB ⊢
  clear hR hC hf
  obtain ⟨a, b, rfl, _, ha, hb⟩ := h
  obtain ⟨ao, ca, rfl⟩ := ha.len
  obtain ⟨bo, cb, rfl⟩ := hb.len
  obtain ⟨a2, b2, rfl, _, ha2, hb2⟩ := h2
  obtain ⟨co, cc1, rfl⟩ := ha2.len
  obtain ⟨dO, cd, rfl⟩ := hb2.len
  clear ha hb ha2 hb2 hm hm2
  obtain ⟨n, hn⟩ : ∃ n, n = A.ac.length := ⟨_, rfl⟩
  obtain ⟨m, hmm⟩ : ∃ n, n = A.nx.length := ⟨_, rfl⟩
  obtain ⟨n2, hn2⟩ : ∃ n, n = B.ac.length := ⟨_, rfl⟩
  obtain ⟨m2, hm2⟩ : ∃ n, n = B.nx.length := ⟨_, rfl⟩
  try rw [← hn, ← hmm] at HCB
  try rw [← hn2, ← hm2] at HCB
  rw [← hn, ← hmm, ← hn2, ← hm2]
  clear hn hmm hn2 hm2
  obtain ⟨y, hy⟩ : ∃ y, y = ((w.alloc (.cells #[.int .i64 A.st, .slice ao n ca, .slice bo m cb] 39)).alloc (.cells #[.int .i64 B.st, .slice co n2 cc1, .slice dO m2 cd] 39)).alloc (.cells #[.int .i64 0, .slice none 0 0, .slice none 0 0] 39) := ⟨_, rfl⟩
  have hs0 : Since w y := by rw [hy]; exact (((Since.refl w).alloc _).alloc _).alloc _
  have hz : y.heap.size = w.heap.size + 3 := by rw [hy]; simp
  have BA0 : Hid (Blk y w.heap.size 39 #[.int .i64 A.st, .slice ao n ca, .slice bo m cb]) := by rw [hy]; exact ((Blk.new rfl _ _).alloc _).alloc _
  have BB0 : Hid (Blk y (w.heap.size + 1) 39 #[.int .i64 B.st, .slice co n2 cc1, .slice dO m2 cd]) := by rw [hy]; exact (Blk.new (by simp) _ _).alloc _
  have BR0 : Hid (Blk y (w.heap.size + 2) 39 #[.int .i64 0, .slice none 0 0, .slice none 0 0]) := by rw [hy]; exact Blk.new (by simp) _ _
  have HY : Hid (y = ((w.alloc (.cells #[.int .i64 A.st, .slice ao n ca, .slice bo m cb] 39)).alloc (.cells #[.int .i64 B.st, .slice co n2 cc1, .slice dO m2 cd] 39)).alloc (.cells #[.int .i64 0, .slice none 0 0, .slice none 0 0] 39)) := hy
  clear hy
  go_enter Try.func64, Try.ntmps64
  go_upto_region 1 with fail
  rw [← HY.out]
  obtain ⟨⟨p0, p1, p2⟩, _⟩ := BA0.out.threeA
  obtain ⟨⟨q0, q1, q2⟩, _⟩ := BB0.out.threeA
  go_wp2_with fail
  refine (HCB.out _ hs0).mono ?_
  rintro e w4 ⟨v4, rfl, ho4, hs4⟩
  obtain ⟨r4a, r4b, rfl, i4, o4, n4, q4⟩ := ho4
  obtain ⟨so4, sc4, rfl⟩ := o4.len
  obtain ⟨uo4, uc4, rfl⟩ := q4.len
  have HO4 : Hid (OwnA _ _ _ _ _) := ⟨_, _, rfl, i4, o4, n4, q4⟩
  clear i4 o4 n4 q4
  have hsz4 := hs4.size
  obtain ⟨⟨r0, r1, r2⟩, r3, r4, r5⟩ := (BR0.out.since hs4).threeA
  have HS4 := Lib.hid (hs0.trans hs4)
  clear hs4 p0 p1 p2 q0 q1 q2
  go_wp2
  refine bodyPost_ret (v := .tuple #[.agg #[.int .i64 R.st, .slice so4 R.ac.length sc4, .slice uo4 R.nx.length uc4], .bool C]) (by simp [results, Try.results64, go_sem, *]) rfl ?_
  refine ⟨_, rfl, ?_, ?_⟩
  · refine OwnA.wider (lo := y.heap.size) (hi := w4.heap.size) ?_ (by omega) (by first | (simp; done) | (simp; omega))
    iterate 3 (with_reducible refine OwnA.far1 ?_ (.inl (by omega)) _ _)
    exact HO4.out
  · iterate 3 (with_reducible refine Since.setCell ?_ (by simp <;> omega) _)
    exact HS4.out
set_option maxHeartbeats 4000000 in
set_option maxRecDepth 100000 in
theorem specUnite_any (v u : Value) (A B : Aut) (f : Nat → Bool) (w : World) (h : AutAt w v A) (h2 : AutAt w u B) (hm : MxA A) (hm2 : MxA B) (hf : ∀ s, f s = true ↔ LiveP (pairA opOr A B) s) :
    Calls Try.prog 63 #[v, u] w (ABOut w (cmbA opOr A B f) (cmbOk opOr A B f)) := by
  have HCB : Hid (∀ W, Since w W → Calls Try.prog 122 #[v, u, .int .i64 2] W (ABOut W (cmbA opOr A B f) (cmbOk opOr A B f))) := fun W hW =>
    make13_any 2 v u A B f W (h.since hW) (h2.since hW) hm hm2 hf
  obtain ⟨R, hR⟩ : ∃ q, q = cmbA opOr A B f := ⟨_, rfl⟩
  obtain ⟨C, hC⟩ : ∃ q, q = cmbOk opOr A B f := ⟨_, rfl⟩
  rw [← hR, ← hC] at HCB ⊢
  clear hR hC hf
  obtain ⟨a, b, rfl, _, ha, hb⟩ := h
  obtain ⟨ao, ca, rfl⟩ := ha.len
  obtain ⟨bo, cb, rfl⟩ := hb.len
  obtain ⟨a2, b2, rfl, _, ha2, hb2⟩ := h2
  obtain ⟨co, cc1, rfl⟩ := ha2.len
  obtain ⟨dO, cd, rfl⟩ := hb2.len
  clear ha hb ha2 hb2 hm hm2
  obtain ⟨n, hn⟩ : ∃ n, n = A.ac.length := ⟨_, rfl⟩
  obtain ⟨m, hmm⟩ : ∃ n, n = A.nx.length := ⟨_, rfl⟩
  obtain ⟨n2, hn2⟩ : ∃ n, n = B.ac.length := ⟨_, rfl⟩
  obtain ⟨m2, hm2⟩ : ∃ n, n = B.nx.length := ⟨_, rfl⟩
  try rw [← hn, ← hmm] at HCB
  try rw [← hn2, ← hm2] at HCB
  rw [← hn, ← hmm, ← hn2, ← hm2]
  clear hn hmm hn2 hm2
  obtain ⟨y, hy⟩ : ∃ y, y = ((w.alloc (.cells #[.int .i64 A.st, .slice ao n ca, .slice bo m cb] 39)).alloc (.cells #[.int .i64 B.st, .slice co n2 cc1, .slice dO m2 cd] 39)).alloc (.cells #[.int .i64 0, .slice none 0 0, .slice none 0 0] 39) := ⟨_, rfl⟩
  have hs0 : Since w y := by rw [hy]; exact (((Since.refl w).alloc _).alloc _).alloc _
  have hz : y.heap.size = w.heap.size + 3 := by rw [hy]; simp
  have BA0 : Hid (Blk y w.heap.size 39 #[.int .i64 A.st, .slice ao n ca, .slice bo m cb]) := by rw [hy]; exact ((Blk.new rfl _ _).alloc _).alloc _
  have BB0 : Hid (Blk y (w.heap.size + 1) 39 #[.int .i64 B.st, .slice co n2 cc1, .slice dO m2 cd]) := by rw [hy]; exact (Blk.new (by simp) _ _).alloc _
  have BR0 : Hid (Blk y (w.heap.size + 2) 39 #[.int .i64 0, .slice none 0 0, .slice none 0 0]) := by rw [hy]; exact Blk.new (by simp) _ _
  have HY : Hid (y = ((w.alloc (.cells #[.int .i64 A.st, .slice ao n ca, .slice bo m cb] 39)).alloc (.cells #[.int .i64 B.st, .slice co n2 cc1, .slice dO m2 cd] 39)).alloc (.cells #[.int .i64 0, .slice none 0 0, .slice none 0 0] 39)) := hy
  clear hy
  go_enter Try.func63, Try.ntmps63
  go_upto_region 1 with fail
  rw [← HY.out]
  obtain ⟨⟨p0, p1, p2⟩, _⟩ := BA0.out.threeA
  obtain ⟨⟨q0, q1, q2⟩, _⟩ := BB0.out.threeA
  go_wp2_with fail
  refine (HCB.out _ hs0).mono ?_
  rintro e w4 ⟨v4, rfl, ho4, hq4⟩
  obtain ⟨r4a, r4b, rfl, i4, o4, n4, q4⟩ := ho4
  obtain ⟨so4, sc4, rfl⟩ := o4.len
  obtain ⟨uo4, uc4, rfl⟩ := q4.len
  have HO4 : Hid (OwnA _ _ _ _ _) := ⟨_, _, rfl, i4, o4, n4, q4⟩
  clear i4 o4 n4 q4
  have hsz4 := hq4.size
  have BR4 := Lib.hid (BR0.out.since hq4)
  have hs4 := hs0.trans hq4
  clear hq4 p0 p1 p2 q0 q1 q2
  go_upto_region 2 with fail
  obtain ⟨wz, hwz⟩ : ∃ q, q = w4.alloc (.cells #[.int .i64 R.st, .slice so4 R.ac.length sc4, .slice uo4 R.nx.length uc4] 39) := ⟨_, rfl⟩
  have BZ : Hid (Blk wz w4.heap.size 39 #[.int .i64 R.st, .slice so4 R.ac.length sc4, .slice uo4 R.nx.length uc4]) := by rw [hwz]; exact Blk.new rfl _ _
  have hal : Since w4 wz := by rw [hwz]; exact (Since.refl _).alloc _
  have hzz : wz.heap.size = w4.heap.size + 1 := by rw [hwz]; simp
  rw [← hwz]
  have HO5 := Lib.hid (HO4.out.since hal)
  have BR5 := Lib.hid (BR4.out.since hal)
  have hs5 := hs4.trans hal
  clear hwz hal HO4 BR4 hs4
  obtain ⟨⟨p0, p1, p2⟩, _⟩ := BZ.out.threeA
  obtain ⟨⟨r0, r1, r2⟩, r3, r4, r5⟩ := BR5.out.threeA
  go_wp2
  refine bodyPost_ret (v := .tuple #[.agg #[.int .i64 R.st, .slice so4 R.ac.length sc4, .slice uo4 R.nx.length uc4], .bool C]) (by simp [results, Try.results63, go_sem, *]) rfl ?_
  refine ⟨_, rfl, ?_, ?_⟩
  · refine OwnA.wider (lo := y.heap.size) (hi := w4.heap.size) ?_ (by omega) (by first | (simp; done) | (simp; omega))
    iterate 3 (with_reducible refine OwnA.far1 ?_ (.inl (by omega)) _ _)
    exact HO5.out
  · iterate 3 (with_reducible refine Since.setCell ?_ (by simp <;> omega) _)
    exact hs5
end Go.Proofs.Ytmaagihfjldgeaa

/- The law of UniteAutomata, walked. -/
namespace Go.Proofs.Ytmaagihfjldgeaa
set_option maxRecDepth 100000
open Go.ChangeShapes Go.WideShapes Go.ChangeAt Go.RowKit
set_option linter.unusedVariables false
set_option linter.unusedSimpArgs false

set_option maxHeartbeats 4000000 in
set_option maxRecDepth 100000 in
theorem fnExactUniteAutomata_walk (v0 : Value) (v1 : Value) (x : Aut) (z : Aut) (w : World) (h0 : AutAt w v0 x) (h1 : AutAt w v1 z) (hl0 : MxA x) (hl1 : MxA z) :
    Calls Try.prog 11 #[v0, v1] w fun e w' => e = .returned (.bool true) ∧ Since w w' := by
  have H0 := Lib.hid h0
  have HL0 := Lib.hid hl0
  obtain ⟨sa0, sb0, rfl, _, ha0, hb0⟩ := h0
  obtain ⟨so0, sc0, rfl⟩ := ha0.len
  obtain ⟨uo0, uc0, rfl⟩ := hb0.len
  clear ha0 hb0
  obtain ⟨pa0, hp0⟩ : ∃ n, n = x.ac.length := ⟨_, rfl⟩
  obtain ⟨qa0, hq0⟩ : ∃ m, m = x.nx.length := ⟨_, rfl⟩
  rw [← hp0, ← hq0] at H0 ⊢
  clear hp0 hq0 hl0
  have H1 := Lib.hid h1
  have HL1 := Lib.hid hl1
  obtain ⟨sa1, sb1, rfl, _, ha1, hb1⟩ := h1
  obtain ⟨so1, sc1, rfl⟩ := ha1.len
  obtain ⟨uo1, uc1, rfl⟩ := hb1.len
  clear ha1 hb1
  obtain ⟨pa1, hp1⟩ : ∃ n, n = z.ac.length := ⟨_, rfl⟩
  obtain ⟨qa1, hq1⟩ : ∃ m, m = z.nx.length := ⟨_, rfl⟩
  rw [← hp1, ← hq1] at H1 ⊢
  clear hp1 hq1 hl1
  obtain ⟨y0, hy0⟩ : ∃ y, y = ((w.alloc (.cells #[.int .i64 x.st, .slice so0 pa0 sc0, .slice uo0 qa0 uc0] 58)).alloc (.cells #[.int .i64 z.st, .slice so1 pa1 sc1, .slice uo1 qa1 uc1] 58)) := ⟨_, rfl⟩
  have hs0 : Since w y0 := by rw [hy0]; exact ((Since.refl w).alloc _).alloc _
  have hz0 : w.heap.size + 2 = y0.heap.size := by rw [hy0]; simp
  have bx0 : Hid (Blk y0 (w.heap.size) 58 #[.int .i64 x.st, .slice so0 pa0 sc0, .slice uo0 qa0 uc0]) := by rw [hy0]; exact (Blk.new (by simp) _ _).alloc _
  have bx1 : Hid (Blk y0 (w.heap.size + 1) 58 #[.int .i64 z.st, .slice so1 pa1 sc1, .slice uo1 qa1 uc1]) := by rw [hy0]; exact Blk.new (by simp) _ _
  obtain ⟨x0, hx0⟩ : ∃ zz, zz = szA x 1048576 := ⟨_, rfl⟩
  by_cases hz0 : x0 < 0
  · have HX0 := Lib.hid hx0
    clear hx0
    go_enter Try.func11, Try.ntmps11
    go_wp2_with fail
    rw [← hy0]
    clear hy0
    refine (szAu_is _ x 1048576 x0 _ (H0.out.since hs0) HL0.out (by decide) (by decide) HX0.out.symm).mono ?_
    rintro e wz0 ⟨rfl, hsz0⟩
    have hz00 := hs0.trans hsz0
    have hzz0 := hsz0.size
    have bz0_0 := Lib.hid (bx0.out.since hsz0)
    clear bx0
    have bz0_1 := Lib.hid (bx1.out.since hsz0)
    clear bx1
    clear hs0 hsz0
    go_wp2
    go_ret
    exact ⟨rfl, hz00⟩
  · have lx0 : 0 ≤ x0 ∧ x0 ≤ 1048576 := by rw [hx0]; rw [hx0] at hz0; exact (szA_smallB (A := x) (left := 1048576) (by decide) hz0).1
    have g10 : SmA x := by rw [hx0] at hz0; exact (szA_smallB (A := x) (left := 1048576) (by decide) hz0).2
    have HX0 := Lib.hid hx0
    clear hx0
    obtain ⟨x1, hx1⟩ : ∃ zz, zz = szA z x0 := ⟨_, rfl⟩
    by_cases hz1 : x1 < 0
    · have HX1 := Lib.hid hx1
      clear hx1
      go_enter Try.func11, Try.ntmps11
      go_wp2_with fail
      rw [← hy0]
      clear hy0
      refine (szAu_is _ x 1048576 x0 _ (H0.out.since hs0) HL0.out (by decide) (by decide) HX0.out.symm).mono ?_
      rintro e wz0 ⟨rfl, hsz0⟩
      have hz00 := hs0.trans hsz0
      have hzz0 := hsz0.size
      have bz0_0 := Lib.hid (bx0.out.since hsz0)
      clear bx0
      have bz0_1 := Lib.hid (bx1.out.since hsz0)
      clear bx1
      clear hs0 hsz0
      obtain ⟨⟨p0, p1, p2⟩, _, _, _⟩ := bz0_1.out.threeA
      go_wp2_with fail
      clear p0 p1 p2
      refine (szAu_is _ z x0 x1 _ (H1.out.since hz00) HL1.out lx0.1 lx0.2 HX1.out.symm).mono ?_
      rintro e wz1 ⟨rfl, hsz1⟩
      have hz01 := hz00.trans hsz1
      have hzz1 := hsz1.size
      have bz1_0 := Lib.hid (bz0_0.out.since hsz1)
      clear bz0_0
      have bz1_1 := Lib.hid (bz0_1.out.since hsz1)
      clear bz0_1
      clear hz00 hsz1
      go_wp2
      go_ret
      exact ⟨rfl, hz01⟩
    · have lx1 : 0 ≤ x1 ∧ x1 ≤ 1048576 := by rw [hx1]; rw [hx1] at hz1; exact (szA_smallB (A := z) (left := x0) lx0.2 hz1).1
      have g11 : SmA z := by rw [hx1] at hz1; exact (szA_smallB (A := z) (left := x0) lx0.2 hz1).2
      have HX1 := Lib.hid hx1
      clear hx1
      obtain ⟨f, hf⟩ := pred_bool (LiveP (pairA opOr x z))
      have HS : Hid (∀ V0 V1 W, AutAt W V0 x → AutAt W V1 z → Calls Try.prog 63 #[V0, V1] W ((ABOut W (cmbA opOr x z f) (cmbOk opOr x z f)))) := fun V0 V1 W k0 k1 => specUnite_any V0 V1 x z f W k0 k1 HL0.out HL1.out hf
      have HI : Hid (∀ V0 V1 W, AutAt W V0 x → AutAt W V1 z → Calls Try.prog 64 #[V0, V1] W ((ABOut W (cmbA opOr x z f) (cmbOk opOr x z f)))) := fun V0 V1 W k0 k1 => implUnite_any V0 V1 x z f W k0 k1 HL0.out HL1.out hf
      have q0 : BgA (cmbA opOr x z f) := cmbA_bg hf
      generalize cmbA opOr x z f = R at HS HI q0
      generalize cmbOk opOr x z f = C at HS HI
      have eCC : (C != C) = false := by simp
      have qe0 := q0
      have qm0 := q0
      have dRR : decide (R = R) = true := by simp
      obtain ⟨kr, hkr⟩ : ∃ kr : Int, kr = 1 + szAu R := ⟨_, rfl⟩
      have dkr : decide (kr < 0) = false := by have := szAu_bg q0; simp; omega
      have ekr : (kr != kr) = false := by simp
      have HKR := Lib.hid hkr
      clear hkr
      obtain ⟨kx0, hkx0⟩ : ∃ kx : Int, kx = 1 + szAu x := ⟨_, rfl⟩
      have bk0 : 0 ≤ kx0 ∧ kx0 ≤ 10000000 := by have := szAu_le g10; omega
      obtain ⟨kx1, hkx1⟩ : ∃ kx : Int, kx = kx0 + szAu z := ⟨_, rfl⟩
      have bk1 : 0 ≤ kx1 ∧ kx1 ≤ 20000000 := by have := szAu_le g11; omega
      have dkx : decide (kx1 < 0) = false := by simp; omega
      have HKX0 := Lib.hid hkx0
      clear hkx0
      have HKX1 := Lib.hid hkx1
      clear hkx1
      have dgg0 : decide (x = x) = true := by simp
      have g40 := g10.bg
      have g60 := g10.bg
      have dgg1 : decide (z = z) = true := by simp
      have g41 := g11.bg
      have g61 := g11.bg
      go_enter Try.func11, Try.ntmps11
      go_wp2_with fail
      rw [← hy0]
      clear hy0
      refine (szAu_is _ x 1048576 x0 _ (H0.out.since hs0) HL0.out (by decide) (by decide) HX0.out.symm).mono ?_
      rintro e wz0 ⟨rfl, hsz0⟩
      have hz00 := hs0.trans hsz0
      have hzz0 := hsz0.size
      have bz0_0 := Lib.hid (bx0.out.since hsz0)
      clear bx0
      have bz0_1 := Lib.hid (bx1.out.since hsz0)
      clear bx1
      clear hs0 hsz0
      obtain ⟨⟨p0, p1, p2⟩, _, _, _⟩ := bz0_1.out.threeA
      go_wp2_with fail
      clear p0 p1 p2
      refine (szAu_is _ z x0 x1 _ (H1.out.since hz00) HL1.out lx0.1 lx0.2 HX1.out.symm).mono ?_
      rintro e wz1 ⟨rfl, hsz1⟩
      have hz01 := hz00.trans hsz1
      have hzz1 := hsz1.size
      have bz1_0 := Lib.hid (bz0_0.out.since hsz1)
      clear bz0_0
      have bz1_1 := Lib.hid (bz0_1.out.since hsz1)
      clear bz0_1
      clear hz00 hsz1
      go_upto_region 8 with fail
      go_cut [6, 7] (fun p c wx => BoxA wz1 wx p R ∧ c = .bool C)
      case first =>
        have HKC : Hid (∀ w', Since wz1 w' → w'.cell? ⟨w.heap.size, 0, none⟩ = some (.int .i64 x.st) ∧ w'.cell? ⟨w.heap.size, 1, none⟩ = some (.slice so0 pa0 sc0) ∧ w'.cell? ⟨w.heap.size, 2, none⟩ = some (.slice uo0 qa0 uc0) ∧ w'.cell? ⟨w.heap.size + 1, 0, none⟩ = some (.int .i64 z.st) ∧ w'.cell? ⟨w.heap.size + 1, 1, none⟩ = some (.slice so1 pa1 sc1) ∧ w'.cell? ⟨w.heap.size + 1, 2, none⟩ = some (.slice uo1 qa1 uc1)) := by
          intro w' hs
          obtain ⟨⟨r00, r01, r02⟩, _, _, _⟩ := (bz1_0.out.since hs).threeA
          obtain ⟨⟨r10, r11, r12⟩, _, _, _⟩ := (bz1_1.out.since hs).threeA
          exact ⟨r00, r01, r02, r10, r11, r12⟩
        go_wp2_with fail
        refine wp_region_held_drew (S := (fun w' => w'.cell? ⟨w.heap.size, 0, none⟩ = some (.int .i64 x.st) ∧ w'.cell? ⟨w.heap.size, 1, none⟩ = some (.slice so0 pa0 sc0) ∧ w'.cell? ⟨w.heap.size, 2, none⟩ = some (.slice uo0 qa0 uc0) ∧ w'.cell? ⟨w.heap.size + 1, 0, none⟩ = some (.int .i64 z.st) ∧ w'.cell? ⟨w.heap.size + 1, 1, none⟩ = some (.slice so1 pa1 sc1) ∧ w'.cell? ⟨w.heap.size + 1, 2, none⟩ = some (.slice uo1 qa1 uc1))) (by kernel_rfl) (HKC.out _ (Since.refl _).drew) (fun hHeld => ?_)
        refine take_yes 0 (some 28) (v := ?_) rfl (by kernel_rfl) (by kernel_rfl) (by kernel_rfl) (by kernel_rfl) (fun _ _ _ h => h) (by rfl) (by assumption) ?_ ?_
        rotate_left
        · (intro w' hSw; (try dsimp only at hSw); go_simp; try with_reducible rfl)
        try simp only [Act.put, List.setIfInBounds_toArray, List.set_cons_zero, List.set_cons_succ]
        refine take_yes 2 (some 30) (v := ?_) rfl (by kernel_rfl) (by kernel_rfl) (by kernel_rfl) (by kernel_rfl) (fun _ _ _ h => h) (by rfl) (by assumption) ?_ ?_
        rotate_left
        · (intro w' hSw; (try dsimp only at hSw); go_simp; try with_reducible rfl)
        try simp only [Act.put, List.setIfInBounds_toArray, List.set_cons_zero, List.set_cons_succ]
        refine take_two 1 8 rfl rfl (by kernel_rfl) (by rfl) (by rfl) (fun K hK => ?_) (fun K hK => ?_)
        · skip
          go_simp
          refine (toAutomaton_any _ x _ (H0.out.since (hz01.trans (Since.refl wz1).drew)) g10).mono ?_
          rintro en q1 ⟨v1, rfl, ho1, hs1⟩
          have hc1 := Since.trans (Since.refl wz1).drew hs1
          have X0 := Lib.hid ho1
          clear ho1
          refine hK.out _ _ (HKC.out _ hc1) (fun hHeld1 => ?_)
          clear hK K hHeld
          try simp only [Act.put, List.setIfInBounds_toArray, List.set_cons_zero, List.set_cons_succ]
          refine take_two 3 8 rfl rfl (by kernel_rfl) (by rfl) (by rfl) (fun K hK => ?_) (fun K hK => ?_)
          · skip
            go_simp
            refine (toAutomaton_any _ z _ (H1.out.since (hz01.trans hc1)) g11).mono ?_
            rintro en q2 ⟨v2, rfl, ho2, hs2⟩
            have hc2 := Since.trans hc1 hs2
            have X0_1 := Lib.hid ((X0.out).since hs2)
            have X1 := Lib.hid ho2
            clear ho2
            refine hK.out _ _ (HKC.out _ hc2) (fun hHeld2 => ?_)
            clear hK K hHeld1
            try simp only [Act.put, List.setIfInBounds_toArray, List.set_cons_zero, List.set_cons_succ]
            refine take_two 4 8 rfl rfl (by kernel_rfl) (by rfl) (by rfl) (fun K hK => ?_) (fun K hK => ?_)
            · skip
              go_simp
              refine (HS.out _ _ _ (X0_1.out).at (X1.out).at).mono ?_
              rintro en q3 ⟨v3, rfl, ho3, hs3⟩
              obtain ⟨rs3, ru3, rfl, i03, ka3, ia3, kb3⟩ := ho3
              obtain ⟨rso, rsc, rfl⟩ := ka3.len
              obtain ⟨ruo, ruc, rfl⟩ := kb3.len
              have OR : Hid (OwnA _ _ _ _ _) := ⟨_, _, rfl, i03, ka3, ia3, kb3⟩
              clear i03 ka3 ia3 kb3
              have hlo := Since.lt hc2
              have hhi := hs3.size
              have hc3 := Since.trans hc2 hs3
              refine hK.out _ _ (HKC.out _ hc3) (fun hHeld3 => ?_)
              clear hK K hHeld2
              try simp only [Act.put, List.setIfInBounds_toArray, List.set_cons_zero, List.set_cons_succ]
              refine take_yes 5 (some 27) (v := ?_) rfl (by kernel_rfl) (by kernel_rfl) (by kernel_rfl) (by kernel_rfl) (fun _ _ _ h => h) (by rfl) (by assumption) ?_ ?_
              rotate_left
              · (intro w' hSw; (try dsimp only at hSw); go_simp; try with_reducible rfl)
              try simp only [Act.put, List.setIfInBounds_toArray, List.set_cons_zero, List.set_cons_succ]
              refine take_yes 6 (some 33) (v := ?_) rfl (by kernel_rfl) (by kernel_rfl) (by kernel_rfl) (by kernel_rfl) (fun _ _ _ h => h) (by rfl) (by assumption) ?_ ?_
              rotate_left
              · (intro w' hSw; (try dsimp only at hSw); go_simp; try with_reducible rfl)
              try simp only [Act.put, List.setIfInBounds_toArray, List.set_cons_zero, List.set_cons_succ]
              refine take_yes 7 (some 34) (v := ?_) rfl (by kernel_rfl) (by kernel_rfl) (by kernel_rfl) (by kernel_rfl) (fun _ _ _ h => h) (by rfl) (by assumption) ?_ ?_
              rotate_left
              · (intro w' hSw; (try dsimp only at hSw); go_simp; try with_reducible rfl)
              try simp only [Act.put, List.setIfInBounds_toArray, List.set_cons_zero, List.set_cons_succ]
              refine take_run 8 rfl (by kernel_rfl) (by rfl) (fun K hK => ?_)
              go_simp
              have hc4 := Since.alloc hc3 (.cells #[.int .i64 0, .slice none 0 0, .slice none 0 0] 39)
              have hal4 : Since q3 (q3.alloc (.cells #[.int .i64 0, .slice none 0 0, .slice none 0 0] 39)) := (Since.refl _).alloc _
              have B4 : Hid (Blk (q3.alloc (.cells #[.int .i64 0, .slice none 0 0, .slice none 0 0] 39)) (q3.heap.size) 39 #[.int .i64 0, .slice none 0 0, .slice none 0 0]) := Blk.new (by simp) _ _
              have hB4 : wz1.heap.size ≤ q3.heap.size := by have := Since.lt hc3; first | exact this | simpa using this
              have OO_2 := Lib.hid ((OR.out).since hal4)
              refine hK.out _ _ (HKC.out _ hc4) (fun hHeld4 => ?_)
              clear hK K hHeld3
              try simp only [Act.put, List.setIfInBounds_toArray, List.set_cons_zero, List.set_cons_succ]
              refine take_run 9 rfl (by kernel_rfl) (by rfl) (fun K hK => ?_)
              obtain ⟨⟨s0, s1, s2⟩, s5, s6, s7⟩ := (B4.out).threeA
              go_simp
              clear s0 s1 s2 s5 s6 s7
              have hcf := Since.alloc hc3 (.cells #[.int .i64 R.st, .slice rso R.ac.length rsc, .slice ruo R.nx.length ruc] 39)
              refine hK.out _ _ (HKC.out _ hcf) (fun hHeldz => ?_)
              clear hK K hHeld4
              try simp only [Act.put, List.setIfInBounds_toArray, List.set_cons_zero, List.set_cons_succ]
              refine take_yes 10 (some 7) (v := ?_) rfl (by kernel_rfl) (by kernel_rfl) (by kernel_rfl) (by kernel_rfl) (fun _ _ _ h => h) (by rfl) (by assumption) ?_ ?_
              rotate_left
              · (intro w' hSw; (try dsimp only at hSw); go_simp; try with_reducible rfl)
              try simp only [Act.put, List.setIfInBounds_toArray, List.set_cons_zero, List.set_cons_succ]
              refine wpAnyH_done (by kernel_rfl) ?_ _
              clear hHeldz
              go_wp2_with fail
              go_meet
              all_goals
                refine ⟨boxA_mk (q3.heap.size) hB4 ?_ ?_ ((OR.out).since ((Since.refl _).alloc (.cells #[.int .i64 R.st, .slice rso R.ac.length rsc, .slice ruo R.nx.length ruc] 39))) (Blk.new (by simp) _ _) hcf, rfl⟩
                all_goals (first | omega | (simp; omega) | simp)
            · skip
              go_simp
              have hc3 := Since.alloc hc2 (.cells #[.int .i64 0, .slice none 0 0, .slice none 0 0] 39)
              have hal3 : Since q2 (q2.alloc (.cells #[.int .i64 0, .slice none 0 0, .slice none 0 0] 39)) := (Since.refl _).alloc _
              have B3 : Hid (Blk (q2.alloc (.cells #[.int .i64 0, .slice none 0 0, .slice none 0 0] 39)) (q2.heap.size) 39 #[.int .i64 0, .slice none 0 0, .slice none 0 0]) := Blk.new (by simp) _ _
              have hB3 : wz1.heap.size ≤ q2.heap.size := by have := Since.lt hc2; first | exact this | simpa using this
              have X0_2 := Lib.hid ((X0_1.out).since hal3)
              have X1_3 := Lib.hid ((X1.out).since hal3)
              refine hK.out _ _ (HKC.out _ hc3) (fun hHeld3 => ?_)
              clear hK K hHeld2
              try simp only [Act.put, List.setIfInBounds_toArray, List.set_cons_zero, List.set_cons_succ]
              refine take_run 4 rfl (by kernel_rfl) (by rfl) (fun K hK => ?_)
              go_simp
              refine (HS.out _ _ _ (X0_2.out).at (X1_3.out).at).mono ?_
              rintro en q4 ⟨v4, rfl, ho4, hs4⟩
              obtain ⟨rs4, ru4, rfl, i04, ka4, ia4, kb4⟩ := ho4
              obtain ⟨rso, rsc, rfl⟩ := ka4.len
              obtain ⟨ruo, ruc, rfl⟩ := kb4.len
              have OR : Hid (OwnA _ _ _ _ _) := ⟨_, _, rfl, i04, ka4, ia4, kb4⟩
              clear i04 ka4 ia4 kb4
              have hlo := Since.lt hc3
              have hhi := hs4.size
              have hc4 := Since.trans hc3 hs4
              have hBl := (B3.out).lt
              have BB_4 := Lib.hid ((B3.out).since hs4)
              refine hK.out _ _ (HKC.out _ hc4) (fun hHeld4 => ?_)
              clear hK K hHeld3
              try simp only [Act.put, List.setIfInBounds_toArray, List.set_cons_zero, List.set_cons_succ]
              refine take_yes 5 (some 27) (v := ?_) rfl (by kernel_rfl) (by kernel_rfl) (by kernel_rfl) (by kernel_rfl) (fun _ _ _ h => h) (by rfl) (by assumption) ?_ ?_
              rotate_left
              · (intro w' hSw; (try dsimp only at hSw); go_simp; try with_reducible rfl)
              try simp only [Act.put, List.setIfInBounds_toArray, List.set_cons_zero, List.set_cons_succ]
              refine take_yes 6 (some 33) (v := ?_) rfl (by kernel_rfl) (by kernel_rfl) (by kernel_rfl) (by kernel_rfl) (fun _ _ _ h => h) (by rfl) (by assumption) ?_ ?_
              rotate_left
              · (intro w' hSw; (try dsimp only at hSw); go_simp; try with_reducible rfl)
              try simp only [Act.put, List.setIfInBounds_toArray, List.set_cons_zero, List.set_cons_succ]
              refine take_yes 7 (some 34) (v := ?_) rfl (by kernel_rfl) (by kernel_rfl) (by kernel_rfl) (by kernel_rfl) (fun _ _ _ h => h) (by rfl) (by assumption) ?_ ?_
              rotate_left
              · (intro w' hSw; (try dsimp only at hSw); go_simp; try with_reducible rfl)
              try simp only [Act.put, List.setIfInBounds_toArray, List.set_cons_zero, List.set_cons_succ]
              refine take_run 9 rfl (by kernel_rfl) (by rfl) (fun K hK => ?_)
              obtain ⟨⟨s0, s1, s2⟩, s5, s6, s7⟩ := (BB_4.out).threeA
              go_simp
              clear s0 s1 s2 s5 s6 s7
              refine hK.out _ _ ?_ (fun hHeldz => ?_)
              · obtain ⟨⟨t00, t01, t02⟩, _, _, _⟩ := ((((((bz1_0.out.since hc4).far (p := ⟨q2.heap.size, 0, none⟩) (by have := hB3; first | omega | (simp; omega)) (.int .i64 R.st))).far (p := ⟨q2.heap.size, 1, none⟩) (by have := hB3; first | omega | (simp; omega)) (.slice rso R.ac.length rsc))).far (p := ⟨q2.heap.size, 2, none⟩) (by have := hB3; first | omega | (simp; omega)) (.slice ruo R.nx.length ruc)).threeA
                obtain ⟨⟨t10, t11, t12⟩, _, _, _⟩ := ((((((bz1_1.out.since hc4).far (p := ⟨q2.heap.size, 0, none⟩) (by have := hB3; first | omega | (simp; omega)) (.int .i64 R.st))).far (p := ⟨q2.heap.size, 1, none⟩) (by have := hB3; first | omega | (simp; omega)) (.slice rso R.ac.length rsc))).far (p := ⟨q2.heap.size, 2, none⟩) (by have := hB3; first | omega | (simp; omega)) (.slice ruo R.nx.length ruc)).threeA
                exact ⟨t00, t01, t02, t10, t11, t12⟩
              clear hK K hHeld4
              try simp only [Act.put, List.setIfInBounds_toArray, List.set_cons_zero, List.set_cons_succ]
              refine take_yes 10 (some 7) (v := ?_) rfl (by kernel_rfl) (by kernel_rfl) (by kernel_rfl) (by kernel_rfl) (fun _ _ _ h => h) (by rfl) (by assumption) ?_ ?_
              rotate_left
              · (intro w' hSw; (try dsimp only at hSw); go_simp; try with_reducible rfl)
              try simp only [Act.put, List.setIfInBounds_toArray, List.set_cons_zero, List.set_cons_succ]
              refine wpAnyH_done (by kernel_rfl) ?_ _
              clear hHeldz
              go_wp2_with fail
              go_meet
              all_goals
                refine ⟨boxA_mk (q2.heap.size) hB3 ?_ ?_ ((OR.out).far3 ?_) ((((BB_4.out).set 0 (.int .i64 R.st)).set 1 (.slice rso R.ac.length rsc)).set 2 (.slice ruo R.nx.length ruc)) (Since.setCell (Since.setCell (Since.setCell hc4 (a := ⟨q2.heap.size, 0, none⟩) hB3 (.int .i64 R.st)) (a := ⟨q2.heap.size, 1, none⟩) hB3 (.slice rso R.ac.length rsc)) (a := ⟨q2.heap.size, 2, none⟩) hB3 (.slice ruo R.nx.length ruc)), rfl⟩
                all_goals (first | omega | (simp; omega) | simp)
          · skip
            go_simp
            have hc2 := Since.alloc hc1 (.cells #[.int .i64 0, .slice none 0 0, .slice none 0 0] 39)
            have hal2 : Since q1 (q1.alloc (.cells #[.int .i64 0, .slice none 0 0, .slice none 0 0] 39)) := (Since.refl _).alloc _
            have B2 : Hid (Blk (q1.alloc (.cells #[.int .i64 0, .slice none 0 0, .slice none 0 0] 39)) (q1.heap.size) 39 #[.int .i64 0, .slice none 0 0, .slice none 0 0]) := Blk.new (by simp) _ _
            have hB2 : wz1.heap.size ≤ q1.heap.size := by have := Since.lt hc1; first | exact this | simpa using this
            have X0_1 := Lib.hid ((X0.out).since hal2)
            refine hK.out _ _ (HKC.out _ hc2) (fun hHeld2 => ?_)
            clear hK K hHeld1
            try simp only [Act.put, List.setIfInBounds_toArray, List.set_cons_zero, List.set_cons_succ]
            refine take_run 3 rfl (by kernel_rfl) (by rfl) (fun K hK => ?_)
            go_simp
            refine (toAutomaton_any _ z _ (H1.out.since (hz01.trans hc2)) g11).mono ?_
            rintro en q3 ⟨v3, rfl, ho3, hs3⟩
            have hc3 := Since.trans hc2 hs3
            have X0_2 := Lib.hid ((X0_1.out).since hs3)
            have BB_3 := Lib.hid ((B2.out).since hs3)
            have X1 := Lib.hid ho3
            clear ho3
            refine hK.out _ _ (HKC.out _ hc3) (fun hHeld3 => ?_)
            clear hK K hHeld2
            try simp only [Act.put, List.setIfInBounds_toArray, List.set_cons_zero, List.set_cons_succ]
            refine take_run 4 rfl (by kernel_rfl) (by rfl) (fun K hK => ?_)
            go_simp
            refine (HS.out _ _ _ (X0_2.out).at (X1.out).at).mono ?_
            rintro en q4 ⟨v4, rfl, ho4, hs4⟩
            obtain ⟨rs4, ru4, rfl, i04, ka4, ia4, kb4⟩ := ho4
            obtain ⟨rso, rsc, rfl⟩ := ka4.len
            obtain ⟨ruo, ruc, rfl⟩ := kb4.len
            have OR : Hid (OwnA _ _ _ _ _) := ⟨_, _, rfl, i04, ka4, ia4, kb4⟩
            clear i04 ka4 ia4 kb4
            have hlo := Since.lt hc3
            have hhi := hs4.size
            have hc4 := Since.trans hc3 hs4
            have hBl := (BB_3.out).lt
            have BB_4 := Lib.hid ((BB_3.out).since hs4)
            refine hK.out _ _ (HKC.out _ hc4) (fun hHeld4 => ?_)
            clear hK K hHeld3
            try simp only [Act.put, List.setIfInBounds_toArray, List.set_cons_zero, List.set_cons_succ]
            refine take_yes 5 (some 27) (v := ?_) rfl (by kernel_rfl) (by kernel_rfl) (by kernel_rfl) (by kernel_rfl) (fun _ _ _ h => h) (by rfl) (by assumption) ?_ ?_
            rotate_left
            · (intro w' hSw; (try dsimp only at hSw); go_simp; try with_reducible rfl)
            try simp only [Act.put, List.setIfInBounds_toArray, List.set_cons_zero, List.set_cons_succ]
            refine take_yes 6 (some 33) (v := ?_) rfl (by kernel_rfl) (by kernel_rfl) (by kernel_rfl) (by kernel_rfl) (fun _ _ _ h => h) (by rfl) (by assumption) ?_ ?_
            rotate_left
            · (intro w' hSw; (try dsimp only at hSw); go_simp; try with_reducible rfl)
            try simp only [Act.put, List.setIfInBounds_toArray, List.set_cons_zero, List.set_cons_succ]
            refine take_yes 7 (some 34) (v := ?_) rfl (by kernel_rfl) (by kernel_rfl) (by kernel_rfl) (by kernel_rfl) (fun _ _ _ h => h) (by rfl) (by assumption) ?_ ?_
            rotate_left
            · (intro w' hSw; (try dsimp only at hSw); go_simp; try with_reducible rfl)
            try simp only [Act.put, List.setIfInBounds_toArray, List.set_cons_zero, List.set_cons_succ]
            refine take_run 9 rfl (by kernel_rfl) (by rfl) (fun K hK => ?_)
            obtain ⟨⟨s0, s1, s2⟩, s5, s6, s7⟩ := (BB_4.out).threeA
            go_simp
            clear s0 s1 s2 s5 s6 s7
            refine hK.out _ _ ?_ (fun hHeldz => ?_)
            · obtain ⟨⟨t00, t01, t02⟩, _, _, _⟩ := ((((((bz1_0.out.since hc4).far (p := ⟨q1.heap.size, 0, none⟩) (by have := hB2; first | omega | (simp; omega)) (.int .i64 R.st))).far (p := ⟨q1.heap.size, 1, none⟩) (by have := hB2; first | omega | (simp; omega)) (.slice rso R.ac.length rsc))).far (p := ⟨q1.heap.size, 2, none⟩) (by have := hB2; first | omega | (simp; omega)) (.slice ruo R.nx.length ruc)).threeA
              obtain ⟨⟨t10, t11, t12⟩, _, _, _⟩ := ((((((bz1_1.out.since hc4).far (p := ⟨q1.heap.size, 0, none⟩) (by have := hB2; first | omega | (simp; omega)) (.int .i64 R.st))).far (p := ⟨q1.heap.size, 1, none⟩) (by have := hB2; first | omega | (simp; omega)) (.slice rso R.ac.length rsc))).far (p := ⟨q1.heap.size, 2, none⟩) (by have := hB2; first | omega | (simp; omega)) (.slice ruo R.nx.length ruc)).threeA
              exact ⟨t00, t01, t02, t10, t11, t12⟩
            clear hK K hHeld4
            try simp only [Act.put, List.setIfInBounds_toArray, List.set_cons_zero, List.set_cons_succ]
            refine take_yes 10 (some 7) (v := ?_) rfl (by kernel_rfl) (by kernel_rfl) (by kernel_rfl) (by kernel_rfl) (fun _ _ _ h => h) (by rfl) (by assumption) ?_ ?_
            rotate_left
            · (intro w' hSw; (try dsimp only at hSw); go_simp; try with_reducible rfl)
            try simp only [Act.put, List.setIfInBounds_toArray, List.set_cons_zero, List.set_cons_succ]
            refine wpAnyH_done (by kernel_rfl) ?_ _
            clear hHeldz
            go_wp2_with fail
            go_meet
            all_goals
              refine ⟨boxA_mk (q1.heap.size) hB2 ?_ ?_ ((OR.out).far3 ?_) ((((BB_4.out).set 0 (.int .i64 R.st)).set 1 (.slice rso R.ac.length rsc)).set 2 (.slice ruo R.nx.length ruc)) (Since.setCell (Since.setCell (Since.setCell hc4 (a := ⟨q1.heap.size, 0, none⟩) hB2 (.int .i64 R.st)) (a := ⟨q1.heap.size, 1, none⟩) hB2 (.slice rso R.ac.length rsc)) (a := ⟨q1.heap.size, 2, none⟩) hB2 (.slice ruo R.nx.length ruc)), rfl⟩
              all_goals (first | omega | (simp; omega) | simp)
        · skip
          go_simp
          have hc1 := Since.alloc (Since.refl wz1).drew (.cells #[.int .i64 0, .slice none 0 0, .slice none 0 0] 39)
          have hal1 : Since wz1.drew (wz1.drew.alloc (.cells #[.int .i64 0, .slice none 0 0, .slice none 0 0] 39)) := (Since.refl _).alloc _
          have B1 : Hid (Blk (wz1.drew.alloc (.cells #[.int .i64 0, .slice none 0 0, .slice none 0 0] 39)) (wz1.heap.size) 39 #[.int .i64 0, .slice none 0 0, .slice none 0 0]) := Blk.new (by simp) _ _
          have hB1 : wz1.heap.size ≤ wz1.heap.size := by have := Since.lt (Since.refl wz1).drew; first | exact this | simpa using this
          refine hK.out _ _ (HKC.out _ hc1) (fun hHeld1 => ?_)
          clear hK K hHeld
          try simp only [Act.put, List.setIfInBounds_toArray, List.set_cons_zero, List.set_cons_succ]
          refine take_run 1 rfl (by kernel_rfl) (by rfl) (fun K hK => ?_)
          go_simp
          refine (toAutomaton_any _ x _ (H0.out.since (hz01.trans hc1)) g10).mono ?_
          rintro en q2 ⟨v2, rfl, ho2, hs2⟩
          have hc2 := Since.trans hc1 hs2
          have BB_1 := Lib.hid ((B1.out).since hs2)
          have X0 := Lib.hid ho2
          clear ho2
          refine hK.out _ _ (HKC.out _ hc2) (fun hHeld2 => ?_)
          clear hK K hHeld1
          try simp only [Act.put, List.setIfInBounds_toArray, List.set_cons_zero, List.set_cons_succ]
          refine take_run 3 rfl (by kernel_rfl) (by rfl) (fun K hK => ?_)
          go_simp
          refine (toAutomaton_any _ z _ (H1.out.since (hz01.trans hc2)) g11).mono ?_
          rintro en q3 ⟨v3, rfl, ho3, hs3⟩
          have hc3 := Since.trans hc2 hs3
          have X0_2 := Lib.hid ((X0.out).since hs3)
          have BB_3 := Lib.hid ((BB_1.out).since hs3)
          have X1 := Lib.hid ho3
          clear ho3
          refine hK.out _ _ (HKC.out _ hc3) (fun hHeld3 => ?_)
          clear hK K hHeld2
          try simp only [Act.put, List.setIfInBounds_toArray, List.set_cons_zero, List.set_cons_succ]
          refine take_run 4 rfl (by kernel_rfl) (by rfl) (fun K hK => ?_)
          go_simp
          refine (HS.out _ _ _ (X0_2.out).at (X1.out).at).mono ?_
          rintro en q4 ⟨v4, rfl, ho4, hs4⟩
          obtain ⟨rs4, ru4, rfl, i04, ka4, ia4, kb4⟩ := ho4
          obtain ⟨rso, rsc, rfl⟩ := ka4.len
          obtain ⟨ruo, ruc, rfl⟩ := kb4.len
          have OR : Hid (OwnA _ _ _ _ _) := ⟨_, _, rfl, i04, ka4, ia4, kb4⟩
          clear i04 ka4 ia4 kb4
          have hlo := Since.lt hc3
          have hhi := hs4.size
          have hc4 := Since.trans hc3 hs4
          have hBl := (BB_3.out).lt
          have BB_4 := Lib.hid ((BB_3.out).since hs4)
          refine hK.out _ _ (HKC.out _ hc4) (fun hHeld4 => ?_)
          clear hK K hHeld3
          try simp only [Act.put, List.setIfInBounds_toArray, List.set_cons_zero, List.set_cons_succ]
          refine take_yes 5 (some 27) (v := ?_) rfl (by kernel_rfl) (by kernel_rfl) (by kernel_rfl) (by kernel_rfl) (fun _ _ _ h => h) (by rfl) (by assumption) ?_ ?_
          rotate_left
          · (intro w' hSw; (try dsimp only at hSw); go_simp; try with_reducible rfl)
          try simp only [Act.put, List.setIfInBounds_toArray, List.set_cons_zero, List.set_cons_succ]
          refine take_yes 6 (some 33) (v := ?_) rfl (by kernel_rfl) (by kernel_rfl) (by kernel_rfl) (by kernel_rfl) (fun _ _ _ h => h) (by rfl) (by assumption) ?_ ?_
          rotate_left
          · (intro w' hSw; (try dsimp only at hSw); go_simp; try with_reducible rfl)
          try simp only [Act.put, List.setIfInBounds_toArray, List.set_cons_zero, List.set_cons_succ]
          refine take_yes 7 (some 34) (v := ?_) rfl (by kernel_rfl) (by kernel_rfl) (by kernel_rfl) (by kernel_rfl) (fun _ _ _ h => h) (by rfl) (by assumption) ?_ ?_
          rotate_left
          · (intro w' hSw; (try dsimp only at hSw); go_simp; try with_reducible rfl)
          try simp only [Act.put, List.setIfInBounds_toArray, List.set_cons_zero, List.set_cons_succ]
          refine take_run 9 rfl (by kernel_rfl) (by rfl) (fun K hK => ?_)
          obtain ⟨⟨s0, s1, s2⟩, s5, s6, s7⟩ := (BB_4.out).threeA
          go_simp
          clear s0 s1 s2 s5 s6 s7
          refine hK.out _ _ ?_ (fun hHeldz => ?_)
          · obtain ⟨⟨t00, t01, t02⟩, _, _, _⟩ := ((((((bz1_0.out.since hc4).far (p := ⟨wz1.heap.size, 0, none⟩) (by have := hB1; first | omega | (simp; omega)) (.int .i64 R.st))).far (p := ⟨wz1.heap.size, 1, none⟩) (by have := hB1; first | omega | (simp; omega)) (.slice rso R.ac.length rsc))).far (p := ⟨wz1.heap.size, 2, none⟩) (by have := hB1; first | omega | (simp; omega)) (.slice ruo R.nx.length ruc)).threeA
            obtain ⟨⟨t10, t11, t12⟩, _, _, _⟩ := ((((((bz1_1.out.since hc4).far (p := ⟨wz1.heap.size, 0, none⟩) (by have := hB1; first | omega | (simp; omega)) (.int .i64 R.st))).far (p := ⟨wz1.heap.size, 1, none⟩) (by have := hB1; first | omega | (simp; omega)) (.slice rso R.ac.length rsc))).far (p := ⟨wz1.heap.size, 2, none⟩) (by have := hB1; first | omega | (simp; omega)) (.slice ruo R.nx.length ruc)).threeA
            exact ⟨t00, t01, t02, t10, t11, t12⟩
          clear hK K hHeld4
          try simp only [Act.put, List.setIfInBounds_toArray, List.set_cons_zero, List.set_cons_succ]
          refine take_yes 10 (some 7) (v := ?_) rfl (by kernel_rfl) (by kernel_rfl) (by kernel_rfl) (by kernel_rfl) (fun _ _ _ h => h) (by rfl) (by assumption) ?_ ?_
          rotate_left
          · (intro w' hSw; (try dsimp only at hSw); go_simp; try with_reducible rfl)
          try simp only [Act.put, List.setIfInBounds_toArray, List.set_cons_zero, List.set_cons_succ]
          refine wpAnyH_done (by kernel_rfl) ?_ _
          clear hHeldz
          go_wp2_with fail
          go_meet
          all_goals
            refine ⟨boxA_mk (wz1.heap.size) hB1 ?_ ?_ ((OR.out).far3 ?_) ((((BB_4.out).set 0 (.int .i64 R.st)).set 1 (.slice rso R.ac.length rsc)).set 2 (.slice ruo R.nx.length ruc)) (Since.setCell (Since.setCell (Since.setCell hc4 (a := ⟨wz1.heap.size, 0, none⟩) hB1 (.int .i64 R.st)) (a := ⟨wz1.heap.size, 1, none⟩) hB1 (.slice rso R.ac.length rsc)) (a := ⟨wz1.heap.size, 2, none⟩) hB1 (.slice ruo R.nx.length ruc)), rfl⟩
            all_goals (first | omega | (simp; omega) | simp)
      case rest =>
        obtain ⟨hbox, hcc⟩ := hcut
        subst hcc
        obtain ⟨w2, hw2⟩ : ∃ W, W = wc := ⟨_, rfl⟩
        subst hw2
        obtain ⟨T1lo, T1hi, T1B, T1so, T1sc, T1uo, T1uc, hpp, T1l0, T1l1, T1l2, T1l3, T1O, T1K, T1S⟩ := hbox
        subst hpp
        have T1W := Lib.hid T1O
        have T1B0 := Lib.hid T1K
        have T1l4 := T1K.lt
        have T1l5 := T1S.size
        clear T1O T1K
        have F3 := Lib.hid (bz1_0.out.since T1S)
        clear bz1_0
        have F4 := Lib.hid (bz1_1.out.since T1S)
        clear bz1_1
        have hs5 := hz01.trans T1S
        have zhs5 := T1S.size
        obtain ⟨⟨p0, p1, p2⟩, _, _, _⟩ := F3.out.threeA
        go_wp2_with fail
        clear p0 p1 p2
        refine (toAutomaton_any _ x _ (H0.out.since hs5) g10).mono ?_
        rintro e w6 ⟨vx0, rfl, hox0, hq7⟩
        have XO0 := Lib.hid hox0
        obtain ⟨xa0, xb0, rfl, _, ka, _, kb⟩ := hox0
        obtain ⟨xso0, xsc0, rfl⟩ := ka.len
        obtain ⟨xuo0, xuc0, rfl⟩ := kb.len
        clear ka kb
        obtain ⟨y8, hy8⟩ : ∃ y, y = w6.alloc (.cells #[.int .i64 x.st, .slice xso0 x.ac.length xsc0, .slice xuo0 x.nx.length xuc0] 39) := ⟨_, rfl⟩
        have ha9 : Since w6 y8 := by rw [hy8]; exact (Since.refl w6).alloc _
        have zy0 : w6.heap.size + 1 = y8.heap.size := by rw [hy8]; simp
        have XB0 : Hid (Blk y8 w6.heap.size 39 #[.int .i64 x.st, .slice xso0 x.ac.length xsc0, .slice xuo0 x.nx.length xuc0]) := by rw [hy8]; exact Blk.new rfl _ _
        have XP0 := Lib.hid (XO0.out.since ha9)
        clear XO0
        have hc10 := hq7.trans ha9
        have zq0 := hq7.size
        have F11 := Lib.hid (F3.out.since hc10)
        clear F3
        have F12 := Lib.hid (F4.out.since hc10)
        clear F4
        have F13 := Lib.hid (T1W.out.since hc10)
        clear T1W
        have F14 := Lib.hid (T1B0.out.since hc10)
        clear T1B0
        have hs15 := hs5.trans hc10
        have zhs15 := hc10.size
        obtain ⟨⟨p0, p1, p2⟩, _, _, _⟩ := F12.out.threeA
        rw [hy8] at p0 p1 p2
        go_wp2_with fail
        clear p0 p1 p2
        rw [← hy8]
        clear hy8
        refine (toAutomaton_any _ z _ (H1.out.since hs15) g11).mono ?_
        rintro e w16 ⟨vx1, rfl, hox1, hq17⟩
        have XO1 := Lib.hid hox1
        obtain ⟨xa1, xb1, rfl, _, ka, _, kb⟩ := hox1
        obtain ⟨xso1, xsc1, rfl⟩ := ka.len
        obtain ⟨xuo1, xuc1, rfl⟩ := kb.len
        clear ka kb
        obtain ⟨y18, hy18⟩ : ∃ y, y = w16.alloc (.cells #[.int .i64 z.st, .slice xso1 z.ac.length xsc1, .slice xuo1 z.nx.length xuc1] 39) := ⟨_, rfl⟩
        have ha19 : Since w16 y18 := by rw [hy18]; exact (Since.refl w16).alloc _
        have zy1 : w16.heap.size + 1 = y18.heap.size := by rw [hy18]; simp
        have XB1 : Hid (Blk y18 w16.heap.size 39 #[.int .i64 z.st, .slice xso1 z.ac.length xsc1, .slice xuo1 z.nx.length xuc1]) := by rw [hy18]; exact Blk.new rfl _ _
        have XP1 := Lib.hid (XO1.out.since ha19)
        clear XO1
        have hc20 := hq17.trans ha19
        have zq1 := hq17.size
        have F21 := Lib.hid (F11.out.since hc20)
        clear F11
        have F22 := Lib.hid (F12.out.since hc20)
        clear F12
        have F23 := Lib.hid (F13.out.since hc20)
        clear F13
        have F24 := Lib.hid (F14.out.since hc20)
        clear F14
        have F25 := Lib.hid (XP0.out.since hc20)
        clear XP0
        have F26 := Lib.hid (XB0.out.since hc20)
        clear XB0
        have hs27 := hs15.trans hc20
        have zhs27 := hc20.size
        obtain ⟨⟨q00, q01, q02⟩, _, _, _⟩ := F26.out.threeA
        obtain ⟨⟨q10, q11, q12⟩, _, _, _⟩ := XB1.out.threeA
        rw [hy18] at q00 q01 q02 q10 q11 q12
        go_wp2_with fail
        rw [← hy18]
        clear hy18 q00 q01 q02 q10 q11 q12
        refine (HI.out _ _ _ F25.out.at XP1.out.at).mono ?_
        rintro e w28 ⟨vg5, rfl, ho5, hq29⟩
        have GO := Lib.hid ho5
        obtain ⟨gs, gu, rfl, _, gk, _, gl⟩ := ho5
        obtain ⟨gso, gsc, rfl⟩ := gk.len
        obtain ⟨guo, guc, rfl⟩ := gl.len
        clear gk gl
        have F30 := Lib.hid (F21.out.since hq29)
        clear F21
        have F31 := Lib.hid (F22.out.since hq29)
        clear F22
        have F32 := Lib.hid (F23.out.since hq29)
        clear F23
        have F33 := Lib.hid (F24.out.since hq29)
        clear F24
        have F34 := Lib.hid (F25.out.since hq29)
        clear F25
        have F35 := Lib.hid (F26.out.since hq29)
        clear F26
        have F36 := Lib.hid (XP1.out.since hq29)
        clear XP1
        have F37 := Lib.hid (XB1.out.since hq29)
        clear XB1
        have hs38 := hs27.trans hq29
        have zhs38 := hq29.size
        obtain ⟨y39, hy39⟩ : ∃ y, y = w28.alloc (.cells #[.int .i64 R.st, .slice gso R.ac.length gsc, .slice guo R.nx.length guc] 39) := ⟨_, rfl⟩
        have ha40 : Since w28 y39 := by rw [hy39]; exact (Since.refl w28).alloc _
        have zby39 : w28.heap.size + 1 = y39.heap.size := by rw [hy39]; simp
        have SB41 : Hid (Blk y39 w28.heap.size 39 #[.int .i64 R.st, .slice gso R.ac.length gsc, .slice guo R.nx.length guc]) := by rw [hy39]; exact Blk.new rfl _ _
        have F42 := Lib.hid (F30.out.since ha40)
        clear F30
        have F43 := Lib.hid (F31.out.since ha40)
        clear F31
        have F44 := Lib.hid (F32.out.since ha40)
        clear F32
        have F45 := Lib.hid (F33.out.since ha40)
        clear F33
        have F46 := Lib.hid (F34.out.since ha40)
        clear F34
        have F47 := Lib.hid (F35.out.since ha40)
        clear F35
        have F48 := Lib.hid (F36.out.since ha40)
        clear F36
        have F49 := Lib.hid (F37.out.since ha40)
        clear F37
        have F50 := Lib.hid (GO.out.since ha40)
        clear GO
        have hs51 := hs38.trans ha40
        have zhs51 := ha40.size
        obtain ⟨⟨p0, p1, p2⟩, _, _, _⟩ := F45.out.threeA
        obtain ⟨⟨r0, r1, r2⟩, _, _, _⟩ := SB41.out.threeA
        rw [hy39] at p0 p1 p2 r0 r1 r2
        go_wp2_with fail
        rw [← hy39]
        clear hy39 p0 p1 p2 r0 r1 r2
        refine (eqAutomaton_any _ _ R R _ F50.out.at F44.out.at qe0 qe0).mono ?_
        rintro e w52 ⟨rfl, hq53⟩
        have F54 := Lib.hid (F42.out.since hq53)
        clear F42
        have F55 := Lib.hid (F43.out.since hq53)
        clear F43
        have F56 := Lib.hid (F44.out.since hq53)
        clear F44
        have F57 := Lib.hid (F45.out.since hq53)
        clear F45
        have F58 := Lib.hid (F46.out.since hq53)
        clear F46
        have F59 := Lib.hid (F47.out.since hq53)
        clear F47
        have F60 := Lib.hid (F48.out.since hq53)
        clear F48
        have F61 := Lib.hid (F49.out.since hq53)
        clear F49
        have F62 := Lib.hid (F50.out.since hq53)
        clear F50
        have F63 := Lib.hid (SB41.out.since hq53)
        clear SB41
        have hs64 := hs51.trans hq53
        have zhs64 := hq53.size
        go_wp2_with fail
        have HKC : Hid (∀ w', Since w52 w' → w'.cell? ⟨w.heap.size, 0, none⟩ = some (.int .i64 x.st) ∧ w'.cell? ⟨w.heap.size, 1, none⟩ = some (.slice so0 pa0 sc0) ∧ w'.cell? ⟨w.heap.size, 2, none⟩ = some (.slice uo0 qa0 uc0) ∧ w'.cell? ⟨w.heap.size + 1, 0, none⟩ = some (.int .i64 z.st) ∧ w'.cell? ⟨w.heap.size + 1, 1, none⟩ = some (.slice so1 pa1 sc1) ∧ w'.cell? ⟨w.heap.size + 1, 2, none⟩ = some (.slice uo1 qa1 uc1) ∧ w'.cell? ⟨w6.heap.size, 0, none⟩ = some (.int .i64 x.st) ∧ w'.cell? ⟨w6.heap.size, 1, none⟩ = some (.slice xso0 x.ac.length xsc0) ∧ w'.cell? ⟨w6.heap.size, 2, none⟩ = some (.slice xuo0 x.nx.length xuc0) ∧ w'.cell? ⟨w16.heap.size, 0, none⟩ = some (.int .i64 z.st) ∧ w'.cell? ⟨w16.heap.size, 1, none⟩ = some (.slice xso1 z.ac.length xsc1) ∧ w'.cell? ⟨w16.heap.size, 2, none⟩ = some (.slice xuo1 z.nx.length xuc1)) := by
          intro w' hs
          obtain ⟨⟨r00, r01, r02⟩, _, _, _⟩ := (F54.out.since hs).threeA
          obtain ⟨⟨r10, r11, r12⟩, _, _, _⟩ := (F55.out.since hs).threeA
          obtain ⟨⟨r20, r21, r22⟩, _, _, _⟩ := (F59.out.since hs).threeA
          obtain ⟨⟨r30, r31, r32⟩, _, _, _⟩ := (F61.out.since hs).threeA
          exact ⟨r00, r01, r02, r10, r11, r12, r20, r21, r22, r30, r31, r32⟩
        refine wp_region_held_drew (S := (fun w' => w'.cell? ⟨w.heap.size, 0, none⟩ = some (.int .i64 x.st) ∧ w'.cell? ⟨w.heap.size, 1, none⟩ = some (.slice so0 pa0 sc0) ∧ w'.cell? ⟨w.heap.size, 2, none⟩ = some (.slice uo0 qa0 uc0) ∧ w'.cell? ⟨w.heap.size + 1, 0, none⟩ = some (.int .i64 z.st) ∧ w'.cell? ⟨w.heap.size + 1, 1, none⟩ = some (.slice so1 pa1 sc1) ∧ w'.cell? ⟨w.heap.size + 1, 2, none⟩ = some (.slice uo1 qa1 uc1) ∧ w'.cell? ⟨w6.heap.size, 0, none⟩ = some (.int .i64 x.st) ∧ w'.cell? ⟨w6.heap.size, 1, none⟩ = some (.slice xso0 x.ac.length xsc0) ∧ w'.cell? ⟨w6.heap.size, 2, none⟩ = some (.slice xuo0 x.nx.length xuc0) ∧ w'.cell? ⟨w16.heap.size, 0, none⟩ = some (.int .i64 z.st) ∧ w'.cell? ⟨w16.heap.size, 1, none⟩ = some (.slice xso1 z.ac.length xsc1) ∧ w'.cell? ⟨w16.heap.size, 2, none⟩ = some (.slice xuo1 z.nx.length xuc1))) (by kernel_rfl) (HKC.out _ (Since.refl _).drew) (fun hHeld => ?_)
        refine take_yes 0 (some 54) (v := ?_) rfl (by kernel_rfl) (by kernel_rfl) (by kernel_rfl) (by kernel_rfl) (fun _ _ _ h => h) (by rfl) (by assumption) ?_ ?_
        rotate_left
        · (intro w' hSw; (try dsimp only at hSw); go_simp; try with_reducible rfl)
        try simp only [Act.put, List.setIfInBounds_toArray, List.set_cons_zero, List.set_cons_succ]
        refine take_yes 1 (some 55) (v := ?_) rfl (by kernel_rfl) (by kernel_rfl) (by kernel_rfl) (by kernel_rfl) (fun _ _ _ h => h) (by rfl) (by assumption) ?_ ?_
        rotate_left
        · (intro w' hSw; (try dsimp only at hSw); go_simp; try with_reducible rfl)
        try simp only [Act.put, List.setIfInBounds_toArray, List.set_cons_zero, List.set_cons_succ]
        refine take_run 2 rfl (by kernel_rfl) (by rfl) (fun K hK => ?_)
        go_simp
        refine (toAutomaton_any _ x _ (H0.out.since hs64.drew) g10).mono ?_
        rintro e w65 ⟨va, rfl, hoa, hq66⟩
        have hc67 := Since.of_drew hq66
        refine hK.out _ _ (HKC.out _ hc67) (fun hHeld2 => ?_)
        clear hK K hHeld
        try simp only [Act.put, List.setIfInBounds_toArray, List.set_cons_zero, List.set_cons_succ]
        refine take_run 3 rfl (by kernel_rfl) (by rfl) (fun K hK => ?_)
        go_simp
        refine (eqAutomaton_any _ _ x x _ (F58.out.at.since hc67) hoa.at g40 g40).mono ?_
        rintro e w68 ⟨rfl, hq69⟩
        have hc70 := hc67.trans hq69
        refine hK.out _ _ (HKC.out _ hc70) (fun hHeld3 => ?_)
        clear hK K hHeld2
        try simp only [Act.put, List.setIfInBounds_toArray, List.set_cons_zero, List.set_cons_succ]
        refine take_yes 4 (some 58) (v := ?_) rfl (by kernel_rfl) (by kernel_rfl) (by kernel_rfl) (by kernel_rfl) (fun _ _ _ h => h) (by rfl) (by assumption) ?_ ?_
        rotate_left
        · (intro w' hSw; (try dsimp only at hSw); go_simp; try with_reducible rfl)
        try simp only [Act.put, List.setIfInBounds_toArray, List.set_cons_zero, List.set_cons_succ]
        refine wpAnyH_done (by kernel_rfl) ?_ _
        clear hHeld3 HKC hoa
        have F71 := Lib.hid (F54.out.since hc70)
        clear F54
        have F72 := Lib.hid (F55.out.since hc70)
        clear F55
        have F73 := Lib.hid (F56.out.since hc70)
        clear F56
        have F74 := Lib.hid (F57.out.since hc70)
        clear F57
        have F75 := Lib.hid (F58.out.since hc70)
        clear F58
        have F76 := Lib.hid (F59.out.since hc70)
        clear F59
        have F77 := Lib.hid (F60.out.since hc70)
        clear F60
        have F78 := Lib.hid (F61.out.since hc70)
        clear F61
        have F79 := Lib.hid (F62.out.since hc70)
        clear F62
        have F80 := Lib.hid (F63.out.since hc70)
        clear F63
        have hs81 := hs64.trans hc70
        have zhs81 := hc70.size
        go_wp2_with fail
        have HKC : Hid (∀ w', Since w68 w' → w'.cell? ⟨w.heap.size, 0, none⟩ = some (.int .i64 x.st) ∧ w'.cell? ⟨w.heap.size, 1, none⟩ = some (.slice so0 pa0 sc0) ∧ w'.cell? ⟨w.heap.size, 2, none⟩ = some (.slice uo0 qa0 uc0) ∧ w'.cell? ⟨w.heap.size + 1, 0, none⟩ = some (.int .i64 z.st) ∧ w'.cell? ⟨w.heap.size + 1, 1, none⟩ = some (.slice so1 pa1 sc1) ∧ w'.cell? ⟨w.heap.size + 1, 2, none⟩ = some (.slice uo1 qa1 uc1) ∧ w'.cell? ⟨w6.heap.size, 0, none⟩ = some (.int .i64 x.st) ∧ w'.cell? ⟨w6.heap.size, 1, none⟩ = some (.slice xso0 x.ac.length xsc0) ∧ w'.cell? ⟨w6.heap.size, 2, none⟩ = some (.slice xuo0 x.nx.length xuc0) ∧ w'.cell? ⟨w16.heap.size, 0, none⟩ = some (.int .i64 z.st) ∧ w'.cell? ⟨w16.heap.size, 1, none⟩ = some (.slice xso1 z.ac.length xsc1) ∧ w'.cell? ⟨w16.heap.size, 2, none⟩ = some (.slice xuo1 z.nx.length xuc1)) := by
          intro w' hs
          obtain ⟨⟨r00, r01, r02⟩, _, _, _⟩ := (F71.out.since hs).threeA
          obtain ⟨⟨r10, r11, r12⟩, _, _, _⟩ := (F72.out.since hs).threeA
          obtain ⟨⟨r20, r21, r22⟩, _, _, _⟩ := (F76.out.since hs).threeA
          obtain ⟨⟨r30, r31, r32⟩, _, _, _⟩ := (F78.out.since hs).threeA
          exact ⟨r00, r01, r02, r10, r11, r12, r20, r21, r22, r30, r31, r32⟩
        refine wp_region_held_drew (S := (fun w' => w'.cell? ⟨w.heap.size, 0, none⟩ = some (.int .i64 x.st) ∧ w'.cell? ⟨w.heap.size, 1, none⟩ = some (.slice so0 pa0 sc0) ∧ w'.cell? ⟨w.heap.size, 2, none⟩ = some (.slice uo0 qa0 uc0) ∧ w'.cell? ⟨w.heap.size + 1, 0, none⟩ = some (.int .i64 z.st) ∧ w'.cell? ⟨w.heap.size + 1, 1, none⟩ = some (.slice so1 pa1 sc1) ∧ w'.cell? ⟨w.heap.size + 1, 2, none⟩ = some (.slice uo1 qa1 uc1) ∧ w'.cell? ⟨w6.heap.size, 0, none⟩ = some (.int .i64 x.st) ∧ w'.cell? ⟨w6.heap.size, 1, none⟩ = some (.slice xso0 x.ac.length xsc0) ∧ w'.cell? ⟨w6.heap.size, 2, none⟩ = some (.slice xuo0 x.nx.length xuc0) ∧ w'.cell? ⟨w16.heap.size, 0, none⟩ = some (.int .i64 z.st) ∧ w'.cell? ⟨w16.heap.size, 1, none⟩ = some (.slice xso1 z.ac.length xsc1) ∧ w'.cell? ⟨w16.heap.size, 2, none⟩ = some (.slice xuo1 z.nx.length xuc1))) (by kernel_rfl) (HKC.out _ (Since.refl _).drew) (fun hHeld => ?_)
        refine take_yes 0 (some 59) (v := ?_) rfl (by kernel_rfl) (by kernel_rfl) (by kernel_rfl) (by kernel_rfl) (fun _ _ _ h => h) (by rfl) (by assumption) ?_ ?_
        rotate_left
        · (intro w' hSw; (try dsimp only at hSw); go_simp; try with_reducible rfl)
        try simp only [Act.put, List.setIfInBounds_toArray, List.set_cons_zero, List.set_cons_succ]
        refine take_yes 1 (some 60) (v := ?_) rfl (by kernel_rfl) (by kernel_rfl) (by kernel_rfl) (by kernel_rfl) (fun _ _ _ h => h) (by rfl) (by assumption) ?_ ?_
        rotate_left
        · (intro w' hSw; (try dsimp only at hSw); go_simp; try with_reducible rfl)
        try simp only [Act.put, List.setIfInBounds_toArray, List.set_cons_zero, List.set_cons_succ]
        refine take_run 2 rfl (by kernel_rfl) (by rfl) (fun K hK => ?_)
        go_simp
        refine (toAutomaton_any _ z _ (H1.out.since hs81.drew) g11).mono ?_
        rintro e w82 ⟨va, rfl, hoa, hq83⟩
        have hc84 := Since.of_drew hq83
        refine hK.out _ _ (HKC.out _ hc84) (fun hHeld2 => ?_)
        clear hK K hHeld
        try simp only [Act.put, List.setIfInBounds_toArray, List.set_cons_zero, List.set_cons_succ]
        refine take_run 3 rfl (by kernel_rfl) (by rfl) (fun K hK => ?_)
        go_simp
        refine (eqAutomaton_any _ _ z z _ (F77.out.at.since hc84) hoa.at g41 g41).mono ?_
        rintro e w85 ⟨rfl, hq86⟩
        have hc87 := hc84.trans hq86
        refine hK.out _ _ (HKC.out _ hc87) (fun hHeld3 => ?_)
        clear hK K hHeld2
        try simp only [Act.put, List.setIfInBounds_toArray, List.set_cons_zero, List.set_cons_succ]
        refine take_yes 4 (some 63) (v := ?_) rfl (by kernel_rfl) (by kernel_rfl) (by kernel_rfl) (by kernel_rfl) (fun _ _ _ h => h) (by rfl) (by assumption) ?_ ?_
        rotate_left
        · (intro w' hSw; (try dsimp only at hSw); go_simp; try with_reducible rfl)
        try simp only [Act.put, List.setIfInBounds_toArray, List.set_cons_zero, List.set_cons_succ]
        refine wpAnyH_done (by kernel_rfl) ?_ _
        clear hHeld3 HKC hoa
        have F88 := Lib.hid (F71.out.since hc87)
        clear F71
        have F89 := Lib.hid (F72.out.since hc87)
        clear F72
        have F90 := Lib.hid (F73.out.since hc87)
        clear F73
        have F91 := Lib.hid (F74.out.since hc87)
        clear F74
        have F92 := Lib.hid (F75.out.since hc87)
        clear F75
        have F93 := Lib.hid (F76.out.since hc87)
        clear F76
        have F94 := Lib.hid (F77.out.since hc87)
        clear F77
        have F95 := Lib.hid (F78.out.since hc87)
        clear F78
        have F96 := Lib.hid (F79.out.since hc87)
        clear F79
        have F97 := Lib.hid (F80.out.since hc87)
        clear F80
        have hs98 := hs81.trans hc87
        have zhs98 := hc87.size
        obtain ⟨⟨r0, r1, r2⟩, _, _, _⟩ := F93.out.threeA
        go_wp2_with fail
        clear r0 r1 r2
        refine (markAutomaton_any w2.heap.size w6.heap.size _ x 1 _ F92.out (by omega) (by decide) (by decide) g60).mono ?_
        rintro e w99 ⟨rfl, hmx0, hw100⟩
        rw [← HKX0.out]
        clear hmx0
        clear F92
        have F101 := Lib.hid (F88.out.within hw100 (by omega))
        clear F88
        have F102 := Lib.hid (F89.out.within hw100 (by omega))
        clear F89
        have F103 := Lib.hid (F90.out.within hw100 (by omega))
        clear F90
        have F104 := Lib.hid (F91.out.within hw100 (by omega))
        clear F91
        have F105 := Lib.hid (F93.out.within hw100 (by omega))
        clear F93
        have F106 := Lib.hid (F94.out.within hw100 (by omega))
        clear F94
        have F107 := Lib.hid (F95.out.within hw100 (by omega))
        clear F95
        have F108 := Lib.hid (F96.out.within hw100 (by omega))
        clear F96
        have F109 := Lib.hid (F97.out.within hw100 (by omega))
        clear F97
        have hs110 := hs98.within (by omega) hw100
        have zhs110 := hw100.size
        obtain ⟨⟨r0, r1, r2⟩, _, _, _⟩ := F107.out.threeA
        go_wp2_with fail
        clear r0 r1 r2
        refine (markAutomaton_any y8.heap.size w16.heap.size _ z kx0 _ F106.out (by omega) (by omega) (by omega) g61).mono ?_
        rintro e w111 ⟨rfl, hmx1, hw112⟩
        rw [← HKX1.out]
        clear hmx1
        clear F106
        have F113 := Lib.hid (F101.out.within hw112 (by omega))
        clear F101
        have F114 := Lib.hid (F102.out.within hw112 (by omega))
        clear F102
        have F115 := Lib.hid (F103.out.within hw112 (by omega))
        clear F103
        have F116 := Lib.hid (F104.out.within hw112 (by omega))
        clear F104
        have F117 := Lib.hid (F105.out.within hw112 (by omega))
        clear F105
        have F118 := Lib.hid (F107.out.within hw112 (by omega))
        clear F107
        have F119 := Lib.hid (F108.out.within hw112 (by omega))
        clear F108
        have F120 := Lib.hid (F109.out.within hw112 (by omega))
        clear F109
        have hs121 := hs110.within (by omega) hw112
        have zhs121 := hw112.size
        clear F117
        clear F118
        obtain ⟨⟨p0, p1, p2⟩, _, _, _⟩ := F116.out.threeA
        obtain ⟨⟨r0, r1, r2⟩, _, _, _⟩ := F120.out.threeA
        go_wp2_with fail
        clear p0 p1 p2 r0 r1 r2
        refine (eqAutomaton_any _ _ R R _ F119.out.at F115.out.at qe0 qe0).mono ?_
        rintro e w122 ⟨rfl, hq123⟩
        have F124 := Lib.hid (F113.out.since hq123)
        clear F113
        have F125 := Lib.hid (F114.out.since hq123)
        clear F114
        have F126 := Lib.hid (F115.out.since hq123)
        clear F115
        have F127 := Lib.hid (F116.out.since hq123)
        clear F116
        have F128 := Lib.hid (F119.out.since hq123)
        clear F119
        have F129 := Lib.hid (F120.out.since hq123)
        clear F120
        have hs130 := hs121.trans hq123
        have zhs130 := hq123.size
        obtain ⟨⟨r0, r1, r2⟩, _, _, _⟩ := F129.out.threeA
        go_wp2_with fail
        clear r0 r1 r2
        refine (markAutomaton_any _ _ _ R 1 _ F128.out (by omega) (by decide) (by decide) qm0).mono ?_
        rintro e w131 ⟨rfl, hmg, hw132⟩
        rw [← HKR.out]
        have HM := Lib.hid hmg
        clear hmg
        clear F128
        have F133 := Lib.hid (F124.out.within hw132 (by omega))
        clear F124
        have F134 := Lib.hid (F125.out.within hw132 (by omega))
        clear F125
        have F135 := Lib.hid (F126.out.within hw132 (by omega))
        clear F126
        have F136 := Lib.hid (F127.out.within hw132 (by omega))
        clear F127
        have F137 := Lib.hid (F129.out.within hw132 (by omega))
        clear F129
        have hs138 := hs130.within (by omega) hw132
        have zhs138 := hw132.size
        obtain ⟨⟨r0, r1, r2⟩, _, _, _⟩ := F137.out.threeA
        go_wp2_with fail
        clear r0 r1 r2
        refine (heldAutomaton_any _ R 1 _ HM.out.at (by decide) (by decide) qm0).mono ?_
        rintro e w139 ⟨rfl, hq140⟩
        rw [← HKR.out]
        have F141 := Lib.hid (F133.out.since hq140)
        clear F133
        have F142 := Lib.hid (F134.out.since hq140)
        clear F134
        have F143 := Lib.hid (F135.out.since hq140)
        clear F135
        have F144 := Lib.hid (F136.out.since hq140)
        clear F136
        have F145 := Lib.hid (F137.out.since hq140)
        clear F137
        have F146 := Lib.hid (HM.out.since hq140)
        clear HM
        have hs147 := hs138.trans hq140
        have zhs147 := hq140.size
        go_upto_region 31 with fail
        go_cut [15, 16] (fun p c wx => BoxA w139 wx p R ∧ c = .bool C)
        case first =>
          have HKC : Hid (∀ w', Since w139 w' → w'.cell? ⟨w.heap.size, 0, none⟩ = some (.int .i64 x.st) ∧ w'.cell? ⟨w.heap.size, 1, none⟩ = some (.slice so0 pa0 sc0) ∧ w'.cell? ⟨w.heap.size, 2, none⟩ = some (.slice uo0 qa0 uc0) ∧ w'.cell? ⟨w.heap.size + 1, 0, none⟩ = some (.int .i64 z.st) ∧ w'.cell? ⟨w.heap.size + 1, 1, none⟩ = some (.slice so1 pa1 sc1) ∧ w'.cell? ⟨w.heap.size + 1, 2, none⟩ = some (.slice uo1 qa1 uc1)) := by
            intro w' hs
            obtain ⟨⟨r00, r01, r02⟩, _, _, _⟩ := (F141.out.since hs).threeA
            obtain ⟨⟨r10, r11, r12⟩, _, _, _⟩ := (F142.out.since hs).threeA
            exact ⟨r00, r01, r02, r10, r11, r12⟩
          go_wp2_with fail
          refine wp_region_held_drew (S := (fun w' => w'.cell? ⟨w.heap.size, 0, none⟩ = some (.int .i64 x.st) ∧ w'.cell? ⟨w.heap.size, 1, none⟩ = some (.slice so0 pa0 sc0) ∧ w'.cell? ⟨w.heap.size, 2, none⟩ = some (.slice uo0 qa0 uc0) ∧ w'.cell? ⟨w.heap.size + 1, 0, none⟩ = some (.int .i64 z.st) ∧ w'.cell? ⟨w.heap.size + 1, 1, none⟩ = some (.slice so1 pa1 sc1) ∧ w'.cell? ⟨w.heap.size + 1, 2, none⟩ = some (.slice uo1 qa1 uc1))) (by kernel_rfl) (HKC.out _ (Since.refl _).drew) (fun hHeld => ?_)
          refine take_yes 0 (some 95) (v := ?_) rfl (by kernel_rfl) (by kernel_rfl) (by kernel_rfl) (by kernel_rfl) (fun _ _ _ h => h) (by rfl) (by assumption) ?_ ?_
          rotate_left
          · (intro w' hSw; (try dsimp only at hSw); go_simp; try with_reducible rfl)
          try simp only [Act.put, List.setIfInBounds_toArray, List.set_cons_zero, List.set_cons_succ]
          refine take_yes 2 (some 97) (v := ?_) rfl (by kernel_rfl) (by kernel_rfl) (by kernel_rfl) (by kernel_rfl) (fun _ _ _ h => h) (by rfl) (by assumption) ?_ ?_
          rotate_left
          · (intro w' hSw; (try dsimp only at hSw); go_simp; try with_reducible rfl)
          try simp only [Act.put, List.setIfInBounds_toArray, List.set_cons_zero, List.set_cons_succ]
          refine take_two 1 8 rfl rfl (by kernel_rfl) (by rfl) (by rfl) (fun K hK => ?_) (fun K hK => ?_)
          · skip
            go_simp
            refine (toAutomaton_any _ x _ (H0.out.since (hs147.trans (Since.refl w139).drew)) g10).mono ?_
            rintro en q1 ⟨v1, rfl, ho1, hs1⟩
            have hc1 := Since.trans (Since.refl w139).drew hs1
            have X0 := Lib.hid ho1
            clear ho1
            refine hK.out _ _ (HKC.out _ hc1) (fun hHeld1 => ?_)
            clear hK K hHeld
            try simp only [Act.put, List.setIfInBounds_toArray, List.set_cons_zero, List.set_cons_succ]
            refine take_two 3 8 rfl rfl (by kernel_rfl) (by rfl) (by rfl) (fun K hK => ?_) (fun K hK => ?_)
            · skip
              go_simp
              refine (toAutomaton_any _ z _ (H1.out.since (hs147.trans hc1)) g11).mono ?_
              rintro en q2 ⟨v2, rfl, ho2, hs2⟩
              have hc2 := Since.trans hc1 hs2
              have X0_1 := Lib.hid ((X0.out).since hs2)
              have X1 := Lib.hid ho2
              clear ho2
              refine hK.out _ _ (HKC.out _ hc2) (fun hHeld2 => ?_)
              clear hK K hHeld1
              try simp only [Act.put, List.setIfInBounds_toArray, List.set_cons_zero, List.set_cons_succ]
              refine take_two 4 8 rfl rfl (by kernel_rfl) (by rfl) (by rfl) (fun K hK => ?_) (fun K hK => ?_)
              · skip
                go_simp
                refine (HI.out _ _ _ (X0_1.out).at (X1.out).at).mono ?_
                rintro en q3 ⟨v3, rfl, ho3, hs3⟩
                obtain ⟨rs3, ru3, rfl, i03, ka3, ia3, kb3⟩ := ho3
                obtain ⟨rso, rsc, rfl⟩ := ka3.len
                obtain ⟨ruo, ruc, rfl⟩ := kb3.len
                have OR : Hid (OwnA _ _ _ _ _) := ⟨_, _, rfl, i03, ka3, ia3, kb3⟩
                clear i03 ka3 ia3 kb3
                have hlo := Since.lt hc2
                have hhi := hs3.size
                have hc3 := Since.trans hc2 hs3
                refine hK.out _ _ (HKC.out _ hc3) (fun hHeld3 => ?_)
                clear hK K hHeld2
                try simp only [Act.put, List.setIfInBounds_toArray, List.set_cons_zero, List.set_cons_succ]
                refine take_yes 5 (some 94) (v := ?_) rfl (by kernel_rfl) (by kernel_rfl) (by kernel_rfl) (by kernel_rfl) (fun _ _ _ h => h) (by rfl) (by assumption) ?_ ?_
                rotate_left
                · (intro w' hSw; (try dsimp only at hSw); go_simp; try with_reducible rfl)
                try simp only [Act.put, List.setIfInBounds_toArray, List.set_cons_zero, List.set_cons_succ]
                refine take_yes 6 (some 100) (v := ?_) rfl (by kernel_rfl) (by kernel_rfl) (by kernel_rfl) (by kernel_rfl) (fun _ _ _ h => h) (by rfl) (by assumption) ?_ ?_
                rotate_left
                · (intro w' hSw; (try dsimp only at hSw); go_simp; try with_reducible rfl)
                try simp only [Act.put, List.setIfInBounds_toArray, List.set_cons_zero, List.set_cons_succ]
                refine take_yes 7 (some 101) (v := ?_) rfl (by kernel_rfl) (by kernel_rfl) (by kernel_rfl) (by kernel_rfl) (fun _ _ _ h => h) (by rfl) (by assumption) ?_ ?_
                rotate_left
                · (intro w' hSw; (try dsimp only at hSw); go_simp; try with_reducible rfl)
                try simp only [Act.put, List.setIfInBounds_toArray, List.set_cons_zero, List.set_cons_succ]
                refine take_run 8 rfl (by kernel_rfl) (by rfl) (fun K hK => ?_)
                go_simp
                have hc4 := Since.alloc hc3 (.cells #[.int .i64 0, .slice none 0 0, .slice none 0 0] 39)
                have hal4 : Since q3 (q3.alloc (.cells #[.int .i64 0, .slice none 0 0, .slice none 0 0] 39)) := (Since.refl _).alloc _
                have B4 : Hid (Blk (q3.alloc (.cells #[.int .i64 0, .slice none 0 0, .slice none 0 0] 39)) (q3.heap.size) 39 #[.int .i64 0, .slice none 0 0, .slice none 0 0]) := Blk.new (by simp) _ _
                have hB4 : w139.heap.size ≤ q3.heap.size := by have := Since.lt hc3; first | exact this | simpa using this
                have OO_2 := Lib.hid ((OR.out).since hal4)
                refine hK.out _ _ (HKC.out _ hc4) (fun hHeld4 => ?_)
                clear hK K hHeld3
                try simp only [Act.put, List.setIfInBounds_toArray, List.set_cons_zero, List.set_cons_succ]
                refine take_run 9 rfl (by kernel_rfl) (by rfl) (fun K hK => ?_)
                obtain ⟨⟨s0, s1, s2⟩, s5, s6, s7⟩ := (B4.out).threeA
                go_simp
                clear s0 s1 s2 s5 s6 s7
                have hcf := Since.alloc hc3 (.cells #[.int .i64 R.st, .slice rso R.ac.length rsc, .slice ruo R.nx.length ruc] 39)
                refine hK.out _ _ (HKC.out _ hcf) (fun hHeldz => ?_)
                clear hK K hHeld4
                try simp only [Act.put, List.setIfInBounds_toArray, List.set_cons_zero, List.set_cons_succ]
                refine take_yes 10 (some 16) (v := ?_) rfl (by kernel_rfl) (by kernel_rfl) (by kernel_rfl) (by kernel_rfl) (fun _ _ _ h => h) (by rfl) (by assumption) ?_ ?_
                rotate_left
                · (intro w' hSw; (try dsimp only at hSw); go_simp; try with_reducible rfl)
                try simp only [Act.put, List.setIfInBounds_toArray, List.set_cons_zero, List.set_cons_succ]
                refine wpAnyH_done (by kernel_rfl) ?_ _
                clear hHeldz
                go_wp2_with fail
                go_meet
                all_goals
                  refine ⟨boxA_mk (q3.heap.size) hB4 ?_ ?_ ((OR.out).since ((Since.refl _).alloc (.cells #[.int .i64 R.st, .slice rso R.ac.length rsc, .slice ruo R.nx.length ruc] 39))) (Blk.new (by simp) _ _) hcf, rfl⟩
                  all_goals (first | omega | (simp; omega) | simp)
              · skip
                go_simp
                have hc3 := Since.alloc hc2 (.cells #[.int .i64 0, .slice none 0 0, .slice none 0 0] 39)
                have hal3 : Since q2 (q2.alloc (.cells #[.int .i64 0, .slice none 0 0, .slice none 0 0] 39)) := (Since.refl _).alloc _
                have B3 : Hid (Blk (q2.alloc (.cells #[.int .i64 0, .slice none 0 0, .slice none 0 0] 39)) (q2.heap.size) 39 #[.int .i64 0, .slice none 0 0, .slice none 0 0]) := Blk.new (by simp) _ _
                have hB3 : w139.heap.size ≤ q2.heap.size := by have := Since.lt hc2; first | exact this | simpa using this
                have X0_2 := Lib.hid ((X0_1.out).since hal3)
                have X1_3 := Lib.hid ((X1.out).since hal3)
                refine hK.out _ _ (HKC.out _ hc3) (fun hHeld3 => ?_)
                clear hK K hHeld2
                try simp only [Act.put, List.setIfInBounds_toArray, List.set_cons_zero, List.set_cons_succ]
                refine take_run 4 rfl (by kernel_rfl) (by rfl) (fun K hK => ?_)
                go_simp
                refine (HI.out _ _ _ (X0_2.out).at (X1_3.out).at).mono ?_
                rintro en q4 ⟨v4, rfl, ho4, hs4⟩
                obtain ⟨rs4, ru4, rfl, i04, ka4, ia4, kb4⟩ := ho4
                obtain ⟨rso, rsc, rfl⟩ := ka4.len
                obtain ⟨ruo, ruc, rfl⟩ := kb4.len
                have OR : Hid (OwnA _ _ _ _ _) := ⟨_, _, rfl, i04, ka4, ia4, kb4⟩
                clear i04 ka4 ia4 kb4
                have hlo := Since.lt hc3
                have hhi := hs4.size
                have hc4 := Since.trans hc3 hs4
                have hBl := (B3.out).lt
                have BB_4 := Lib.hid ((B3.out).since hs4)
                refine hK.out _ _ (HKC.out _ hc4) (fun hHeld4 => ?_)
                clear hK K hHeld3
                try simp only [Act.put, List.setIfInBounds_toArray, List.set_cons_zero, List.set_cons_succ]
                refine take_yes 5 (some 94) (v := ?_) rfl (by kernel_rfl) (by kernel_rfl) (by kernel_rfl) (by kernel_rfl) (fun _ _ _ h => h) (by rfl) (by assumption) ?_ ?_
                rotate_left
                · (intro w' hSw; (try dsimp only at hSw); go_simp; try with_reducible rfl)
                try simp only [Act.put, List.setIfInBounds_toArray, List.set_cons_zero, List.set_cons_succ]
                refine take_yes 6 (some 100) (v := ?_) rfl (by kernel_rfl) (by kernel_rfl) (by kernel_rfl) (by kernel_rfl) (fun _ _ _ h => h) (by rfl) (by assumption) ?_ ?_
                rotate_left
                · (intro w' hSw; (try dsimp only at hSw); go_simp; try with_reducible rfl)
                try simp only [Act.put, List.setIfInBounds_toArray, List.set_cons_zero, List.set_cons_succ]
                refine take_yes 7 (some 101) (v := ?_) rfl (by kernel_rfl) (by kernel_rfl) (by kernel_rfl) (by kernel_rfl) (fun _ _ _ h => h) (by rfl) (by assumption) ?_ ?_
                rotate_left
                · (intro w' hSw; (try dsimp only at hSw); go_simp; try with_reducible rfl)
                try simp only [Act.put, List.setIfInBounds_toArray, List.set_cons_zero, List.set_cons_succ]
                refine take_run 9 rfl (by kernel_rfl) (by rfl) (fun K hK => ?_)
                obtain ⟨⟨s0, s1, s2⟩, s5, s6, s7⟩ := (BB_4.out).threeA
                go_simp
                clear s0 s1 s2 s5 s6 s7
                refine hK.out _ _ ?_ (fun hHeldz => ?_)
                · obtain ⟨⟨t00, t01, t02⟩, _, _, _⟩ := ((((((F141.out.since hc4).far (p := ⟨q2.heap.size, 0, none⟩) (by have := hB3; first | omega | (simp; omega)) (.int .i64 R.st))).far (p := ⟨q2.heap.size, 1, none⟩) (by have := hB3; first | omega | (simp; omega)) (.slice rso R.ac.length rsc))).far (p := ⟨q2.heap.size, 2, none⟩) (by have := hB3; first | omega | (simp; omega)) (.slice ruo R.nx.length ruc)).threeA
                  obtain ⟨⟨t10, t11, t12⟩, _, _, _⟩ := ((((((F142.out.since hc4).far (p := ⟨q2.heap.size, 0, none⟩) (by have := hB3; first | omega | (simp; omega)) (.int .i64 R.st))).far (p := ⟨q2.heap.size, 1, none⟩) (by have := hB3; first | omega | (simp; omega)) (.slice rso R.ac.length rsc))).far (p := ⟨q2.heap.size, 2, none⟩) (by have := hB3; first | omega | (simp; omega)) (.slice ruo R.nx.length ruc)).threeA
                  exact ⟨t00, t01, t02, t10, t11, t12⟩
                clear hK K hHeld4
                try simp only [Act.put, List.setIfInBounds_toArray, List.set_cons_zero, List.set_cons_succ]
                refine take_yes 10 (some 16) (v := ?_) rfl (by kernel_rfl) (by kernel_rfl) (by kernel_rfl) (by kernel_rfl) (fun _ _ _ h => h) (by rfl) (by assumption) ?_ ?_
                rotate_left
                · (intro w' hSw; (try dsimp only at hSw); go_simp; try with_reducible rfl)
                try simp only [Act.put, List.setIfInBounds_toArray, List.set_cons_zero, List.set_cons_succ]
                refine wpAnyH_done (by kernel_rfl) ?_ _
                clear hHeldz
                go_wp2_with fail
                go_meet
                all_goals
                  refine ⟨boxA_mk (q2.heap.size) hB3 ?_ ?_ ((OR.out).far3 ?_) ((((BB_4.out).set 0 (.int .i64 R.st)).set 1 (.slice rso R.ac.length rsc)).set 2 (.slice ruo R.nx.length ruc)) (Since.setCell (Since.setCell (Since.setCell hc4 (a := ⟨q2.heap.size, 0, none⟩) hB3 (.int .i64 R.st)) (a := ⟨q2.heap.size, 1, none⟩) hB3 (.slice rso R.ac.length rsc)) (a := ⟨q2.heap.size, 2, none⟩) hB3 (.slice ruo R.nx.length ruc)), rfl⟩
                  all_goals (first | omega | (simp; omega) | simp)
            · skip
              go_simp
              have hc2 := Since.alloc hc1 (.cells #[.int .i64 0, .slice none 0 0, .slice none 0 0] 39)
              have hal2 : Since q1 (q1.alloc (.cells #[.int .i64 0, .slice none 0 0, .slice none 0 0] 39)) := (Since.refl _).alloc _
              have B2 : Hid (Blk (q1.alloc (.cells #[.int .i64 0, .slice none 0 0, .slice none 0 0] 39)) (q1.heap.size) 39 #[.int .i64 0, .slice none 0 0, .slice none 0 0]) := Blk.new (by simp) _ _
              have hB2 : w139.heap.size ≤ q1.heap.size := by have := Since.lt hc1; first | exact this | simpa using this
              have X0_1 := Lib.hid ((X0.out).since hal2)
              refine hK.out _ _ (HKC.out _ hc2) (fun hHeld2 => ?_)
              clear hK K hHeld1
              try simp only [Act.put, List.setIfInBounds_toArray, List.set_cons_zero, List.set_cons_succ]
              refine take_run 3 rfl (by kernel_rfl) (by rfl) (fun K hK => ?_)
              go_simp
              refine (toAutomaton_any _ z _ (H1.out.since (hs147.trans hc2)) g11).mono ?_
              rintro en q3 ⟨v3, rfl, ho3, hs3⟩
              have hc3 := Since.trans hc2 hs3
              have X0_2 := Lib.hid ((X0_1.out).since hs3)
              have BB_3 := Lib.hid ((B2.out).since hs3)
              have X1 := Lib.hid ho3
              clear ho3
              refine hK.out _ _ (HKC.out _ hc3) (fun hHeld3 => ?_)
              clear hK K hHeld2
              try simp only [Act.put, List.setIfInBounds_toArray, List.set_cons_zero, List.set_cons_succ]
              refine take_run 4 rfl (by kernel_rfl) (by rfl) (fun K hK => ?_)
              go_simp
              refine (HI.out _ _ _ (X0_2.out).at (X1.out).at).mono ?_
              rintro en q4 ⟨v4, rfl, ho4, hs4⟩
              obtain ⟨rs4, ru4, rfl, i04, ka4, ia4, kb4⟩ := ho4
              obtain ⟨rso, rsc, rfl⟩ := ka4.len
              obtain ⟨ruo, ruc, rfl⟩ := kb4.len
              have OR : Hid (OwnA _ _ _ _ _) := ⟨_, _, rfl, i04, ka4, ia4, kb4⟩
              clear i04 ka4 ia4 kb4
              have hlo := Since.lt hc3
              have hhi := hs4.size
              have hc4 := Since.trans hc3 hs4
              have hBl := (BB_3.out).lt
              have BB_4 := Lib.hid ((BB_3.out).since hs4)
              refine hK.out _ _ (HKC.out _ hc4) (fun hHeld4 => ?_)
              clear hK K hHeld3
              try simp only [Act.put, List.setIfInBounds_toArray, List.set_cons_zero, List.set_cons_succ]
              refine take_yes 5 (some 94) (v := ?_) rfl (by kernel_rfl) (by kernel_rfl) (by kernel_rfl) (by kernel_rfl) (fun _ _ _ h => h) (by rfl) (by assumption) ?_ ?_
              rotate_left
              · (intro w' hSw; (try dsimp only at hSw); go_simp; try with_reducible rfl)
              try simp only [Act.put, List.setIfInBounds_toArray, List.set_cons_zero, List.set_cons_succ]
              refine take_yes 6 (some 100) (v := ?_) rfl (by kernel_rfl) (by kernel_rfl) (by kernel_rfl) (by kernel_rfl) (fun _ _ _ h => h) (by rfl) (by assumption) ?_ ?_
              rotate_left
              · (intro w' hSw; (try dsimp only at hSw); go_simp; try with_reducible rfl)
              try simp only [Act.put, List.setIfInBounds_toArray, List.set_cons_zero, List.set_cons_succ]
              refine take_yes 7 (some 101) (v := ?_) rfl (by kernel_rfl) (by kernel_rfl) (by kernel_rfl) (by kernel_rfl) (fun _ _ _ h => h) (by rfl) (by assumption) ?_ ?_
              rotate_left
              · (intro w' hSw; (try dsimp only at hSw); go_simp; try with_reducible rfl)
              try simp only [Act.put, List.setIfInBounds_toArray, List.set_cons_zero, List.set_cons_succ]
              refine take_run 9 rfl (by kernel_rfl) (by rfl) (fun K hK => ?_)
              obtain ⟨⟨s0, s1, s2⟩, s5, s6, s7⟩ := (BB_4.out).threeA
              go_simp
              clear s0 s1 s2 s5 s6 s7
              refine hK.out _ _ ?_ (fun hHeldz => ?_)
              · obtain ⟨⟨t00, t01, t02⟩, _, _, _⟩ := ((((((F141.out.since hc4).far (p := ⟨q1.heap.size, 0, none⟩) (by have := hB2; first | omega | (simp; omega)) (.int .i64 R.st))).far (p := ⟨q1.heap.size, 1, none⟩) (by have := hB2; first | omega | (simp; omega)) (.slice rso R.ac.length rsc))).far (p := ⟨q1.heap.size, 2, none⟩) (by have := hB2; first | omega | (simp; omega)) (.slice ruo R.nx.length ruc)).threeA
                obtain ⟨⟨t10, t11, t12⟩, _, _, _⟩ := ((((((F142.out.since hc4).far (p := ⟨q1.heap.size, 0, none⟩) (by have := hB2; first | omega | (simp; omega)) (.int .i64 R.st))).far (p := ⟨q1.heap.size, 1, none⟩) (by have := hB2; first | omega | (simp; omega)) (.slice rso R.ac.length rsc))).far (p := ⟨q1.heap.size, 2, none⟩) (by have := hB2; first | omega | (simp; omega)) (.slice ruo R.nx.length ruc)).threeA
                exact ⟨t00, t01, t02, t10, t11, t12⟩
              clear hK K hHeld4
              try simp only [Act.put, List.setIfInBounds_toArray, List.set_cons_zero, List.set_cons_succ]
              refine take_yes 10 (some 16) (v := ?_) rfl (by kernel_rfl) (by kernel_rfl) (by kernel_rfl) (by kernel_rfl) (fun _ _ _ h => h) (by rfl) (by assumption) ?_ ?_
              rotate_left
              · (intro w' hSw; (try dsimp only at hSw); go_simp; try with_reducible rfl)
              try simp only [Act.put, List.setIfInBounds_toArray, List.set_cons_zero, List.set_cons_succ]
              refine wpAnyH_done (by kernel_rfl) ?_ _
              clear hHeldz
              go_wp2_with fail
              go_meet
              all_goals
                refine ⟨boxA_mk (q1.heap.size) hB2 ?_ ?_ ((OR.out).far3 ?_) ((((BB_4.out).set 0 (.int .i64 R.st)).set 1 (.slice rso R.ac.length rsc)).set 2 (.slice ruo R.nx.length ruc)) (Since.setCell (Since.setCell (Since.setCell hc4 (a := ⟨q1.heap.size, 0, none⟩) hB2 (.int .i64 R.st)) (a := ⟨q1.heap.size, 1, none⟩) hB2 (.slice rso R.ac.length rsc)) (a := ⟨q1.heap.size, 2, none⟩) hB2 (.slice ruo R.nx.length ruc)), rfl⟩
                all_goals (first | omega | (simp; omega) | simp)
          · skip
            go_simp
            have hc1 := Since.alloc (Since.refl w139).drew (.cells #[.int .i64 0, .slice none 0 0, .slice none 0 0] 39)
            have hal1 : Since w139.drew (w139.drew.alloc (.cells #[.int .i64 0, .slice none 0 0, .slice none 0 0] 39)) := (Since.refl _).alloc _
            have B1 : Hid (Blk (w139.drew.alloc (.cells #[.int .i64 0, .slice none 0 0, .slice none 0 0] 39)) (w139.heap.size) 39 #[.int .i64 0, .slice none 0 0, .slice none 0 0]) := Blk.new (by simp) _ _
            have hB1 : w139.heap.size ≤ w139.heap.size := by have := Since.lt (Since.refl w139).drew; first | exact this | simpa using this
            refine hK.out _ _ (HKC.out _ hc1) (fun hHeld1 => ?_)
            clear hK K hHeld
            try simp only [Act.put, List.setIfInBounds_toArray, List.set_cons_zero, List.set_cons_succ]
            refine take_run 1 rfl (by kernel_rfl) (by rfl) (fun K hK => ?_)
            go_simp
            refine (toAutomaton_any _ x _ (H0.out.since (hs147.trans hc1)) g10).mono ?_
            rintro en q2 ⟨v2, rfl, ho2, hs2⟩
            have hc2 := Since.trans hc1 hs2
            have BB_1 := Lib.hid ((B1.out).since hs2)
            have X0 := Lib.hid ho2
            clear ho2
            refine hK.out _ _ (HKC.out _ hc2) (fun hHeld2 => ?_)
            clear hK K hHeld1
            try simp only [Act.put, List.setIfInBounds_toArray, List.set_cons_zero, List.set_cons_succ]
            refine take_run 3 rfl (by kernel_rfl) (by rfl) (fun K hK => ?_)
            go_simp
            refine (toAutomaton_any _ z _ (H1.out.since (hs147.trans hc2)) g11).mono ?_
            rintro en q3 ⟨v3, rfl, ho3, hs3⟩
            have hc3 := Since.trans hc2 hs3
            have X0_2 := Lib.hid ((X0.out).since hs3)
            have BB_3 := Lib.hid ((BB_1.out).since hs3)
            have X1 := Lib.hid ho3
            clear ho3
            refine hK.out _ _ (HKC.out _ hc3) (fun hHeld3 => ?_)
            clear hK K hHeld2
            try simp only [Act.put, List.setIfInBounds_toArray, List.set_cons_zero, List.set_cons_succ]
            refine take_run 4 rfl (by kernel_rfl) (by rfl) (fun K hK => ?_)
            go_simp
            refine (HI.out _ _ _ (X0_2.out).at (X1.out).at).mono ?_
            rintro en q4 ⟨v4, rfl, ho4, hs4⟩
            obtain ⟨rs4, ru4, rfl, i04, ka4, ia4, kb4⟩ := ho4
            obtain ⟨rso, rsc, rfl⟩ := ka4.len
            obtain ⟨ruo, ruc, rfl⟩ := kb4.len
            have OR : Hid (OwnA _ _ _ _ _) := ⟨_, _, rfl, i04, ka4, ia4, kb4⟩
            clear i04 ka4 ia4 kb4
            have hlo := Since.lt hc3
            have hhi := hs4.size
            have hc4 := Since.trans hc3 hs4
            have hBl := (BB_3.out).lt
            have BB_4 := Lib.hid ((BB_3.out).since hs4)
            refine hK.out _ _ (HKC.out _ hc4) (fun hHeld4 => ?_)
            clear hK K hHeld3
            try simp only [Act.put, List.setIfInBounds_toArray, List.set_cons_zero, List.set_cons_succ]
            refine take_yes 5 (some 94) (v := ?_) rfl (by kernel_rfl) (by kernel_rfl) (by kernel_rfl) (by kernel_rfl) (fun _ _ _ h => h) (by rfl) (by assumption) ?_ ?_
            rotate_left
            · (intro w' hSw; (try dsimp only at hSw); go_simp; try with_reducible rfl)
            try simp only [Act.put, List.setIfInBounds_toArray, List.set_cons_zero, List.set_cons_succ]
            refine take_yes 6 (some 100) (v := ?_) rfl (by kernel_rfl) (by kernel_rfl) (by kernel_rfl) (by kernel_rfl) (fun _ _ _ h => h) (by rfl) (by assumption) ?_ ?_
            rotate_left
            · (intro w' hSw; (try dsimp only at hSw); go_simp; try with_reducible rfl)
            try simp only [Act.put, List.setIfInBounds_toArray, List.set_cons_zero, List.set_cons_succ]
            refine take_yes 7 (some 101) (v := ?_) rfl (by kernel_rfl) (by kernel_rfl) (by kernel_rfl) (by kernel_rfl) (fun _ _ _ h => h) (by rfl) (by assumption) ?_ ?_
            rotate_left
            · (intro w' hSw; (try dsimp only at hSw); go_simp; try with_reducible rfl)
            try simp only [Act.put, List.setIfInBounds_toArray, List.set_cons_zero, List.set_cons_succ]
            refine take_run 9 rfl (by kernel_rfl) (by rfl) (fun K hK => ?_)
            obtain ⟨⟨s0, s1, s2⟩, s5, s6, s7⟩ := (BB_4.out).threeA
            go_simp
            clear s0 s1 s2 s5 s6 s7
            refine hK.out _ _ ?_ (fun hHeldz => ?_)
            · obtain ⟨⟨t00, t01, t02⟩, _, _, _⟩ := ((((((F141.out.since hc4).far (p := ⟨w139.heap.size, 0, none⟩) (by have := hB1; first | omega | (simp; omega)) (.int .i64 R.st))).far (p := ⟨w139.heap.size, 1, none⟩) (by have := hB1; first | omega | (simp; omega)) (.slice rso R.ac.length rsc))).far (p := ⟨w139.heap.size, 2, none⟩) (by have := hB1; first | omega | (simp; omega)) (.slice ruo R.nx.length ruc)).threeA
              obtain ⟨⟨t10, t11, t12⟩, _, _, _⟩ := ((((((F142.out.since hc4).far (p := ⟨w139.heap.size, 0, none⟩) (by have := hB1; first | omega | (simp; omega)) (.int .i64 R.st))).far (p := ⟨w139.heap.size, 1, none⟩) (by have := hB1; first | omega | (simp; omega)) (.slice rso R.ac.length rsc))).far (p := ⟨w139.heap.size, 2, none⟩) (by have := hB1; first | omega | (simp; omega)) (.slice ruo R.nx.length ruc)).threeA
              exact ⟨t00, t01, t02, t10, t11, t12⟩
            clear hK K hHeld4
            try simp only [Act.put, List.setIfInBounds_toArray, List.set_cons_zero, List.set_cons_succ]
            refine take_yes 10 (some 16) (v := ?_) rfl (by kernel_rfl) (by kernel_rfl) (by kernel_rfl) (by kernel_rfl) (fun _ _ _ h => h) (by rfl) (by assumption) ?_ ?_
            rotate_left
            · (intro w' hSw; (try dsimp only at hSw); go_simp; try with_reducible rfl)
            try simp only [Act.put, List.setIfInBounds_toArray, List.set_cons_zero, List.set_cons_succ]
            refine wpAnyH_done (by kernel_rfl) ?_ _
            clear hHeldz
            go_wp2_with fail
            go_meet
            all_goals
              refine ⟨boxA_mk (w139.heap.size) hB1 ?_ ?_ ((OR.out).far3 ?_) ((((BB_4.out).set 0 (.int .i64 R.st)).set 1 (.slice rso R.ac.length rsc)).set 2 (.slice ruo R.nx.length ruc)) (Since.setCell (Since.setCell (Since.setCell hc4 (a := ⟨w139.heap.size, 0, none⟩) hB1 (.int .i64 R.st)) (a := ⟨w139.heap.size, 1, none⟩) hB1 (.slice rso R.ac.length rsc)) (a := ⟨w139.heap.size, 2, none⟩) hB1 (.slice ruo R.nx.length ruc)), rfl⟩
              all_goals (first | omega | (simp; omega) | simp)
        case rest =>
          obtain ⟨hbox, hcc⟩ := hcut
          subst hcc
          obtain ⟨w149, hw149⟩ : ∃ W, W = wc := ⟨_, rfl⟩
          subst hw149
          obtain ⟨T148lo, T148hi, T148B, T148so, T148sc, T148uo, T148uc, hpp, T148l0, T148l1, T148l2, T148l3, T148O, T148K, T148S⟩ := hbox
          subst hpp
          have T148W := Lib.hid T148O
          have T148B0 := Lib.hid T148K
          have T148l4 := T148K.lt
          have T148l5 := T148S.size
          clear T148O T148K
          have F150 := Lib.hid (F141.out.since T148S)
          clear F141
          have F151 := Lib.hid (F142.out.since T148S)
          clear F142
          have F152 := Lib.hid (F143.out.since T148S)
          clear F143
          have F153 := Lib.hid (F144.out.since T148S)
          clear F144
          have F154 := Lib.hid (F145.out.since T148S)
          clear F145
          have F155 := Lib.hid (F146.out.since T148S)
          clear F146
          have hs156 := hs147.trans T148S
          have zhs156 := T148S.size
          obtain ⟨⟨p0, p1, p2⟩, _, _, _⟩ := F153.out.threeA
          obtain ⟨⟨r0, r1, r2⟩, _, _, _⟩ := T148B0.out.threeA
          go_wp2_with fail
          clear p0 p1 p2 r0 r1 r2
          refine (eqAutomaton_any _ _ R R _ T148W.out.at F152.out.at qe0 qe0).mono ?_
          rintro e w157 ⟨rfl, hq158⟩
          have F159 := Lib.hid (F150.out.since hq158)
          clear F150
          have F160 := Lib.hid (F151.out.since hq158)
          clear F151
          have F161 := Lib.hid (F152.out.since hq158)
          clear F152
          have F162 := Lib.hid (F153.out.since hq158)
          clear F153
          have F163 := Lib.hid (F154.out.since hq158)
          clear F154
          have F164 := Lib.hid (F155.out.since hq158)
          clear F155
          have F165 := Lib.hid (T148W.out.since hq158)
          clear T148W
          have F166 := Lib.hid (T148B0.out.since hq158)
          clear T148B0
          have hs167 := hs156.trans hq158
          have zhs167 := hq158.size
          clear F161
          clear F165
          clear F162
          clear F166
          obtain ⟨⟨r0, r1, r2⟩, _, _, _⟩ := F163.out.threeA
          go_wp2_with fail
          clear r0 r1 r2
          refine (heldAutomaton_any _ R 1 _ F164.out.at (by decide) (by decide) qm0).mono ?_
          rintro e w168 ⟨rfl, hq169⟩
          rw [← HKR.out]
          have F170 := Lib.hid (F159.out.since hq169)
          clear F159
          have F171 := Lib.hid (F160.out.since hq169)
          clear F160
          have F172 := Lib.hid (F163.out.since hq169)
          clear F163
          have F173 := Lib.hid (F164.out.since hq169)
          clear F164
          have hs174 := hs167.trans hq169
          have zhs174 := hq169.size
          go_wp2
          go_ret
          exact ⟨rfl, hs174⟩
end Go.Proofs.Ytmaagihfjldgeaa
