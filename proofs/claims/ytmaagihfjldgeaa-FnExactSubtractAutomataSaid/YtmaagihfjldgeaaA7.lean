/- PrI, PrJ: small words and contracts that the other texts use. -/
import Derived.Test.YtmaagihfjldgeaaMaP
import Derived.Test.YtmaagihfjldgeaaA5
import Derived.Test.YtmaagihfjldgeaaA2
import Derived.Test.YtmaagihfjldgeaaK1
import Derived.Test.YtmaagihfjldgeaaPrS
/- The four operations on two automata, the program's. -/
namespace Go.Proofs.Ytmaagihfjldgeaa
set_option maxRecDepth 100000
open Go.ChangeShapes Go.WideShapes Go.ChangeAt Go.RowKit Go.Maps
set_option linter.unusedVariables false
set_option linter.unusedSimpArgs false

set_option maxHeartbeats 4000000 in
set_option maxRecDepth 100000 in
theorem minimalP_any (Q : Aut) (f : Nat → Bool) (s t lim : Int) (BQ BA BB : Nat) (w : World) (hv : ValidA Q) (hf : ∀ s, f s = true ↔ LiveP Q s)
    (hA : ∀ W, Since w W → Calls Try.prog 182 #[mchP s t BQ BA BB, .int .i64 lim] W (ABOut W Q true)) :
    Calls Try.prog 170 #[mchP s t BQ BA BB, .int .i64 lim] w (ABOut w (trimN (mrgA Q (clsA Q f)) f) (trimC (mrgA Q (clsA Q f)) f)) := by
  have HAU := Lib.hid hA
  have HMN : Hid (∀ u W, AutAt W u Q → Calls Try.prog 183 #[u] W (ABOut W (trimN (mrgA Q (clsA Q f)) f) (trimC (mrgA Q (clsA Q f)) f))) := fun u W hu => minimized_any u Q f W hu hv hf
  obtain ⟨R, hR⟩ : ∃ q, q = trimN (mrgA Q (clsA Q f)) f := ⟨_, rfl⟩
  obtain ⟨C, hC⟩ : ∃ q, q = trimC (mrgA Q (clsA Q f)) f := ⟨_, rfl⟩
  rw [← hR, ← hC] at HMN ⊢
  clear hR hC hA hv hf
  obtain ⟨y, hy⟩ : ∃ y, y = (w.alloc (.cells #[.int .i64 s, .int .i64 t, .func (.func 148) #[] #[.pointer (some ⟨BQ, 0, none⟩), .pointer (some ⟨BA, 0, none⟩), .pointer (some ⟨BB, 0, none⟩)], .func (.func 149) #[] #[.pointer (some ⟨BA, 0, none⟩), .pointer (some ⟨BB, 0, none⟩)]] 104)).alloc (.cells #[.int .i64 0, .slice none 0 0, .slice none 0 0] 39) := ⟨_, rfl⟩
  have hs0 : Since w y := by rw [hy]; exact ((Since.refl w).alloc _).alloc _
  have hz : y.heap.size = w.heap.size + 2 := by rw [hy]; simp
  have B0 : Hid (Blk y w.heap.size 104 #[.int .i64 s, .int .i64 t, .func (.func 148) #[] #[.pointer (some ⟨BQ, 0, none⟩), .pointer (some ⟨BA, 0, none⟩), .pointer (some ⟨BB, 0, none⟩)], .func (.func 149) #[] #[.pointer (some ⟨BA, 0, none⟩), .pointer (some ⟨BB, 0, none⟩)]]) := by rw [hy]; exact (Blk.new rfl _ _).alloc _
  have B1 : Hid (Blk y (w.heap.size + 1) 39 #[.int .i64 0, .slice none 0 0, .slice none 0 0]) := by rw [hy]; exact Blk.new (by simp) _ _
  have HY := Lib.hid hy
  clear hy
  go_enter Try.func170, Try.ntmps170
  go_upto_region 1 with fail
  rw [← HY.out]
  obtain ⟨p0, p1, p2, p3, _⟩ := B0.out.four
  go_wp2_with fail
  refine (HAU.out _ hs0).mono ?_
  rintro e w2 ⟨v2, rfl, ho2, hs2⟩
  have HA2 := Lib.hid ho2.at
  obtain ⟨r2a, r2b, rfl, i2, o2, n2, q2⟩ := ho2
  obtain ⟨so2, sc2, rfl⟩ := o2.len
  obtain ⟨uo2, uc2, rfl⟩ := q2.len
  have HO2 : Hid (OwnA _ _ _ _ _) := ⟨_, _, rfl, i2, o2, n2, q2⟩
  clear i2 o2 n2 q2
  go_upto_region 2 with fail
  obtain ⟨wz, hwz⟩ : ∃ q, q = w2.alloc (.cells #[.int .i64 Q.st, .slice so2 Q.ac.length sc2, .slice uo2 Q.nx.length uc2] 39) := ⟨_, rfl⟩
  have BZ : Hid (Blk wz w2.heap.size 39 #[.int .i64 Q.st, .slice so2 Q.ac.length sc2, .slice uo2 Q.nx.length uc2]) := by rw [hwz]; exact Blk.new rfl _ _
  have hal : Since w2 wz := by rw [hwz]; exact (Since.refl _).alloc _
  rw [← hwz]
  have HA3 := Lib.hid (HA2.out.since hal)
  have B3 := Lib.hid (B1.out.since (hs2.trans hal))
  have hsz := hs2.size
  have hsz2 := hal.size
  have hs3 := hs0.trans (hs2.trans hal)
  clear p0 p1 p2 p3 hwz HA2 hs0 hs2 hal
  obtain ⟨⟨p0, p1, p2⟩, _⟩ := BZ.out.threeA
  go_wp2_with fail
  refine (HMN.out _ _ HA3.out).mono ?_
  rintro e w4 ⟨v4, rfl, ho4, hs4⟩
  obtain ⟨r4a, r4b, rfl, i4, o4, n4, q4⟩ := ho4
  obtain ⟨so4, sc4, rfl⟩ := o4.len
  obtain ⟨uo4, uc4, rfl⟩ := q4.len
  have HO4 : Hid (OwnA _ _ _ _ _) := ⟨_, _, rfl, i4, o4, n4, q4⟩
  clear i4 o4 n4 q4
  have hsz4 := hs4.size
  obtain ⟨⟨r0, r1, r2⟩, r3, r4, r5⟩ := (B3.out.since hs4).threeA
  have HS4 := Lib.hid (hs3.trans hs4)
  clear hs4 HA3 p0 p1 p2
  go_wp2
  refine bodyPost_ret (v := .tuple #[.agg #[.int .i64 R.st, .slice so4 R.ac.length sc4, .slice uo4 R.nx.length uc4], .bool C]) (by simp [results, Try.results170, go_sem, *]) rfl ?_
  refine ⟨_, rfl, ?_, ?_⟩
  · refine OwnA.wider (lo := wz.heap.size) (hi := w4.heap.size) ?_ (by omega) (by first | (simp; done) | (simp; omega))
    iterate 3 (with_reducible refine OwnA.far1 ?_ (.inl (by omega)) _ _)
    exact HO4.out
  · iterate 3 (with_reducible refine Since.setCell ?_ (by simp <;> omega) _)
    exact HS4.out
set_option maxHeartbeats 4000000 in
set_option maxRecDepth 100000 in
theorem combA_any (op : Bool → Bool → Bool) (fn : Fn) (v u : Value) (A B : Aut) (f : Nat → Bool) (w : World) (h : AutAt w v A) (h2 : AutAt w u B) (hm : MxA A) (hm2 : MxA B) (hf : ∀ s, f s = true ↔ LiveP (pairA op A B) s)
    (hA : ∀ BQ BA BB a b W, InQ A a → InQ B b → PmB A B (.func fn #[] #[]) BQ BA BB W → Calls Try.prog 148 #[.agg #[.int .i64 a, .int .i64 b], .pointer (some ⟨BQ, 0, none⟩), .pointer (some ⟨BA, 0, none⟩), .pointer (some ⟨BB, 0, none⟩)] W fun e w' => e = .returned (.bool (accT op A B [a, b])) ∧ Since W w') :
    Calls Try.prog 124 #[v, u, .func fn #[] #[]] w (ABOut w (cmbA op A B f) (cmbOk op A B f)) := by
  have HVA : Hid (∀ W, Since w W → Calls Try.prog 92 #[v] W fun e w' => e = .returned (.bool (validA A)) ∧ Since W w') := fun W hW => implVA_any v A W (h.since hW) hm
  have HVB : Hid (∀ W, Since w W → Calls Try.prog 92 #[u] W fun e w' => e = .returned (.bool (validA B)) ∧ Since W w') := fun W hW => implVA_any u B W (h2.since hW) hm2
  have HPM : Hid (∀ W, Since w W → Calls Try.prog 94 #[v, u, .func fn #[] #[]] W fun e w' => ∃ BQ BA BB, e = .returned (mchP A.st B.st BQ BA BB) ∧ PmB A B (.func fn #[] #[]) BQ BA BB w' ∧ Since W w') := fun W hW => pairM_any v u fn A B W (h.since hW) (h2.since hW)
  have HMI : Hid (∀ BQ BA BB W, msOk A B = true → PmB A B (.func fn #[] #[]) BQ BA BB W → Calls Try.prog 170 #[mchP A.st B.st BQ BA BB, .int .i64 169] W (ABOut W (cmbA op A B f) (cmbOk op A B f))) := fun BQ BA BB W hok hp => by
    obtain ⟨g1, g2, g3, g4⟩ := msOk_in hok
    have hv : ValidA (pairA op A B) := pairA_v hok
    obtain ⟨e1, e2⟩ := cmb_trim (op := op) hok hf
    rw [← e1, ← e2]
    exact minimalP_any (pairA op A B) f A.st B.st 169 BQ BA BB W hv hf (fun W' hW' => autP_any A B (accT op A B) BQ BA BB A.st B.st 169 g1 g2 (inQ_st g1) (inQ_st g2) (Nat.mul_le_mul (by omega) (by omega) : (A.ac.length + 1) * (B.ac.length + 1) ≤ 13 * 13) (by decide) W'
      (fun a b k W2 h0 h1 h3 h4 => nextP_any A B _ BQ BA BB a b k h0 g1 g2 h1 h3 W2 (hp.since (hW'.trans h4))) (fun a b W2 h1 h3 h4 => hA BQ BA BB a b W2 h1 h3 (hp.since (hW'.trans h4))))
  have HNO : Hid (msOk A B = false → cmbA op A B f = ⟨0, [], []⟩ ∧ cmbOk op A B f = false) := fun hk => ⟨cmbA_no (cmbOk_no hk), cmbOk_no hk⟩
  obtain ⟨R, hR⟩ : ∃ q, q = cmbA op A B f := ⟨_, rfl⟩
  obtain ⟨C, hC⟩ : ∃ q, q = cmbOk op A B f := ⟨_, rfl⟩
  obtain ⟨PB, hPB⟩ : ∃ q : Nat → Nat → Nat → World → Prop, q = fun BQ BA BB W => PmB A B (.func fn #[] #[]) BQ BA BB W := ⟨_, rfl⟩
  have HMJ : Hid (∀ BQ BA BB W, msOk A B = true → PB BQ BA BB W → Calls Try.prog 170 #[mchP A.st B.st BQ BA BB, .int .i64 169] W (ABOut W R C)) := by rw [hPB, hR, hC]; exact HMI.out
  have HPN : Hid (∀ W, Since w W → Calls Try.prog 94 #[v, u, .func fn #[] #[]] W fun e w' => ∃ BQ BA BB, e = .returned (mchP A.st B.st BQ BA BB) ∧ PB BQ BA BB w' ∧ Since W w') := by rw [hPB]; exact HPM.out
  rw [← hR, ← hC] at HNO ⊢
  clear hR hC hPB HMI HPM hA hf
  obtain ⟨a, b, rfl, _, ha, hb⟩ := h
  obtain ⟨ao, ca, rfl⟩ := ha.len
  obtain ⟨bo, cb, rfl⟩ := hb.len
  obtain ⟨a2, b2, rfl, _, ha2, hb2⟩ := h2
  obtain ⟨co, cc1, rfl⟩ := ha2.len
  obtain ⟨dO, cd, rfl⟩ := hb2.len
  clear ha hb ha2 hb2 hm hm2
  obtain ⟨V1, hV1⟩ : ∃ b, b = validA A := ⟨_, rfl⟩
  obtain ⟨V2, hV2⟩ : ∃ b, b = validA B := ⟨_, rfl⟩
  have HOK : Hid (msOk A B = (V1 && V2)) := by unfold Hid msOk; rw [hV1, hV2]
  rw [← hV1] at HVA
  rw [← hV2] at HVB
  clear hV1 hV2
  obtain ⟨n, hn⟩ : ∃ n, n = A.ac.length := ⟨_, rfl⟩
  obtain ⟨m, hmm⟩ : ∃ n, n = A.nx.length := ⟨_, rfl⟩
  obtain ⟨n2, hn2⟩ : ∃ n, n = B.ac.length := ⟨_, rfl⟩
  obtain ⟨m2, hm2⟩ : ∃ n, n = B.nx.length := ⟨_, rfl⟩
  try rw [← hn, ← hmm] at HVA
  try rw [← hn2, ← hm2] at HVA
  try rw [← hn, ← hmm] at HVB
  try rw [← hn2, ← hm2] at HVB
  try rw [← hn, ← hmm] at HPN
  try rw [← hn2, ← hm2] at HPN
  rw [← hn, ← hmm, ← hn2, ← hm2]
  clear hn hmm hn2 hm2
  obtain ⟨y, hy⟩ : ∃ y, y = ((w.alloc (.cells #[.int .i64 A.st, .slice ao n ca, .slice bo m cb] 39)).alloc (.cells #[.int .i64 B.st, .slice co n2 cc1, .slice dO m2 cd] 39)).alloc (.cells #[.int .i64 0, .slice none 0 0, .slice none 0 0] 39) := ⟨_, rfl⟩
  have hs0 : Since w y := by rw [hy]; exact (((Since.refl w).alloc _).alloc _).alloc _
  have hz : y.heap.size = w.heap.size + 3 := by rw [hy]; simp
  have BA0 : Hid (Blk y w.heap.size 39 #[.int .i64 A.st, .slice ao n ca, .slice bo m cb]) := by rw [hy]; exact ((Blk.new rfl _ _).alloc _).alloc _
  have BB0 : Hid (Blk y (w.heap.size + 1) 39 #[.int .i64 B.st, .slice co n2 cc1, .slice dO m2 cd]) := by rw [hy]; exact (Blk.new (by simp) _ _).alloc _
  have BR0 : Hid (Blk y (w.heap.size + 2) 39 #[.int .i64 0, .slice none 0 0, .slice none 0 0]) := by rw [hy]; exact Blk.new (by simp) _ _
  have HY : Hid (y = ((w.alloc (.cells #[.int .i64 A.st, .slice ao n ca, .slice bo m cb] 39)).alloc (.cells #[.int .i64 B.st, .slice co n2 cc1, .slice dO m2 cd] 39)).alloc (.cells #[.int .i64 0, .slice none 0 0, .slice none 0 0] 39)) := hy
  clear hy
  go_enter Try.func124, Try.ntmps124
  go_upto_region 1 with fail
  rw [← HY.out]
  obtain ⟨⟨p0, p1, p2⟩, _⟩ := BA0.out.threeA
  obtain ⟨⟨q0, q1, q2⟩, _⟩ := BB0.out.threeA
  go_wp2_with fail
  refine (HVA.out _ hs0).mono ?_
  rintro e w1 ⟨rfl, hq⟩
  have hsz9 := hq.size
  have hs9 := hs0.trans hq
  have BA9 := Lib.hid (BA0.out.since hq)
  have BB9 := Lib.hid (BB0.out.since hq)
  have BR9 := Lib.hid (BR0.out.since hq)
  clear p0 p1 p2 q0 q1 q2 hq hs0 BA0 BB0 BR0
  have hs0 := hs9
  have BA0 := BA9
  have BB0 := BB9
  have BR0 := BR9
  clear hs9 BA9 BB9 BR9
  obtain ⟨⟨p0, p1, p2⟩, _⟩ := BA0.out.threeA
  obtain ⟨⟨q0, q1, q2⟩, _⟩ := BB0.out.threeA
  cases V1 with
  | false =>
    obtain ⟨rfl, rfl⟩ := HNO.out (by rw [HOK.out]; rfl)
    obtain ⟨⟨r0, r1, r2⟩, r3, r4, r5⟩ := BR0.out.threeA
    go_wp2
    refine bodyPost_ret (v := .tuple #[.agg #[.int .i64 0, nilS, nilS], .bool false]) (by simp [results, Try.results124, go_sem, *]) rfl ?_
    refine ⟨_, rfl, ownA_zero _ _ _, ?_⟩
    iterate 3 (with_reducible refine Since.setCell ?_ (by simp <;> omega) _)
    exact hs0
  | true =>
    go_wp2_with fail
    refine (HVB.out _ hs0).mono ?_
    rintro e w2 ⟨rfl, hq⟩
    have hsz9 := hq.size
    have hs9 := hs0.trans hq
    have BA9 := Lib.hid (BA0.out.since hq)
    have BB9 := Lib.hid (BB0.out.since hq)
    have BR9 := Lib.hid (BR0.out.since hq)
    clear p0 p1 p2 q0 q1 q2 hq hs0 BA0 BB0 BR0
    have hs0 := hs9
    have BA0 := BA9
    have BB0 := BB9
    have BR0 := BR9
    clear hs9 BA9 BB9 BR9
    obtain ⟨⟨p0, p1, p2⟩, _⟩ := BA0.out.threeA
    obtain ⟨⟨q0, q1, q2⟩, _⟩ := BB0.out.threeA
    cases V2 with
    | false =>
      obtain ⟨rfl, rfl⟩ := HNO.out (by rw [HOK.out]; rfl)
      obtain ⟨⟨r0, r1, r2⟩, r3, r4, r5⟩ := BR0.out.threeA
      go_wp2
      refine bodyPost_ret (v := .tuple #[.agg #[.int .i64 0, nilS, nilS], .bool false]) (by simp [results, Try.results124, go_sem, *]) rfl ?_
      refine ⟨_, rfl, ownA_zero _ _ _, ?_⟩
      iterate 3 (with_reducible refine Since.setCell ?_ (by simp <;> omega) _)
      exact hs0
    | true =>
      go_wp2_with fail
      refine (HPN.out _ hs0).mono ?_
      rintro e w3 ⟨BQ, BA, BB, rfl, hpb, hq⟩
      have hsz9 := hq.size
      have hs9 := hs0.trans hq
      have BA9 := Lib.hid (BA0.out.since hq)
      have BB9 := Lib.hid (BB0.out.since hq)
      have BR9 := Lib.hid (BR0.out.since hq)
      clear p0 p1 p2 q0 q1 q2 hq hs0 BA0 BB0 BR0
      have hs0 := hs9
      have BA0 := BA9
      have BB0 := BB9
      have BR0 := BR9
      clear hs9 BA9 BB9 BR9
      obtain ⟨⟨p0, p1, p2⟩, _⟩ := BA0.out.threeA
      obtain ⟨⟨q0, q1, q2⟩, _⟩ := BB0.out.threeA
      have HPB := Lib.hid hpb
      clear hpb
      go_wp2_with fail
      refine (HMJ.out BQ BA BB _ (by rw [HOK.out]; rfl) HPB.out).mono ?_
      rintro e w4 ⟨v4, rfl, ho4, hs4⟩
      obtain ⟨r4a, r4b, rfl, i4, o4, n4, q4⟩ := ho4
      obtain ⟨so4, sc4, rfl⟩ := o4.len
      obtain ⟨uo4, uc4, rfl⟩ := q4.len
      have HO4 : Hid (OwnA _ _ _ _ _) := ⟨_, _, rfl, i4, o4, n4, q4⟩
      clear i4 o4 n4 q4
      have hsz4 := hs4.size
      obtain ⟨⟨r0, r1, r2⟩, r3, r4, r5⟩ := (BR0.out.since hs4).threeA
      have HS4 := Lib.hid (hs0.trans hs4)
      clear hs4 p0 p1 p2 q0 q1 q2
      go_wp2
      refine bodyPost_ret (v := .tuple #[.agg #[.int .i64 R.st, .slice so4 R.ac.length sc4, .slice uo4 R.nx.length uc4], .bool C]) (by simp [results, Try.results124, go_sem, *]) rfl ?_
      refine ⟨_, rfl, ?_, ?_⟩
      · refine OwnA.wider (lo := w3.heap.size) (hi := w4.heap.size) ?_ (by omega) (by first | (simp; done) | (simp; omega))
        iterate 3 (with_reducible refine OwnA.far1 ?_ (.inl (by omega)) _ _)
        exact HO4.out
      · iterate 3 (with_reducible refine Since.setCell ?_ (by simp <;> omega) _)
        exact HS4.out
end Go.Proofs.Ytmaagihfjldgeaa

/- The four operations on two automata, the model's. -/
namespace Go.Proofs.Ytmaagihfjldgeaa
set_option maxRecDepth 100000
open Go.ChangeShapes Go.WideShapes Go.ChangeAt Go.RowKit Go.Maps
set_option linter.unusedVariables false
set_option linter.unusedSimpArgs false

set_option maxHeartbeats 4000000 in
set_option maxRecDepth 100000 in
theorem make13_any (op : Int) (v u : Value) (A B : Aut) (f : Nat → Bool) (w : World) (h : AutAt w v A) (h2 : AutAt w u B) (hm : MxA A) (hm2 : MxA B) (hf : ∀ s, f s = true ↔ LiveP (pairA (opI op) A B) s) :
    Calls Try.prog 122 #[v, u, .int .i64 op] w (ABOut w (cmbA (opI op) A B f) (cmbOk (opI op) A B f)) := by
  have HVA : Hid (∀ W, Since w W → Calls Try.prog 34 #[v] W fun e w' => e = .returned (.bool (validA A)) ∧ Since W w') := fun W hW => specVA_any v A W (h.since hW) hm
  have HVB : Hid (∀ W, Since w W → Calls Try.prog 34 #[u] W fun e w' => e = .returned (.bool (validA B)) ∧ Since W w') := fun W hW => specVA_any u B W (h2.since hW) hm2
  have HPR : Hid (∀ W, Since w W → msOk A B = true → Calls Try.prog 169 #[v, u, .int .i64 op] W (AOut W (pairA (opI op) A B))) := fun W hW hok => by
    obtain ⟨g1, g2, g3, g4⟩ := msOk_in hok
    exact specPR_any v u A B op W (h.since hW) (h2.since hW) g1 g2 (Nat.le_trans (Nat.mul_le_mul (by omega) (by omega) : (A.ac.length + 1) * (B.ac.length + 1) ≤ 13 * 13) (by decide))
  have HMN : Hid (∀ z W, msOk A B = true → AutAt W z (pairA (opI op) A B) → Calls Try.prog 168 #[z] W (AOut W (minN (pairA (opI op) A B) f))) := fun z W hok hz => specMz_any z _ f W hz (pairA_v hok) hf
  have HNO : Hid (cmbOk (opI op) A B f = false → cmbA (opI op) A B f = ⟨0, [], []⟩) := fun hk => cmbA_no hk
  have HNM : Hid (msOk A B = false → cmbOk (opI op) A B f = false) := fun hk => cmbOk_no hk
  obtain ⟨Q, hQ⟩ : ∃ q, q = pairA (opI op) A B := ⟨_, rfl⟩
  obtain ⟨N, hN⟩ : ∃ q, q = minN (pairA (opI op) A B) f := ⟨_, rfl⟩
  have HCK : Hid (msOk A B = true → cmbOk (opI op) A B f = decide (N.ac.length ≤ 12)) := fun hk => by unfold cmbOk; rw [hk, Bool.true_and, hN]
  have HYE : Hid (cmbOk (opI op) A B f = true → cmbA (opI op) A B f = N) := fun hk => by rw [cmbA_yes hk, hN]
  obtain ⟨R, hR⟩ : ∃ q, q = cmbA (opI op) A B f := ⟨_, rfl⟩
  obtain ⟨C, hC⟩ : ∃ q, q = cmbOk (opI op) A B f := ⟨_, rfl⟩
  rw [← hQ] at HPR
  rw [← hN, ← hQ] at HMN
  rw [← hC] at HNM HCK
  rw [← hR, ← hC] at HNO HYE ⊢
  clear hR hC hQ hN hf
  obtain ⟨a, b, rfl, _, ha, hb⟩ := h
  obtain ⟨ao, ca, rfl⟩ := ha.len
  obtain ⟨bo, cb, rfl⟩ := hb.len
  obtain ⟨a2, b2, rfl, _, ha2, hb2⟩ := h2
  obtain ⟨co, cc1, rfl⟩ := ha2.len
  obtain ⟨dO, cd, rfl⟩ := hb2.len
  clear ha hb ha2 hb2 hm hm2
  obtain ⟨V1, hV1⟩ : ∃ b, b = validA A := ⟨_, rfl⟩
  obtain ⟨V2, hV2⟩ : ∃ b, b = validA B := ⟨_, rfl⟩
  have HOK : Hid (msOk A B = (V1 && V2)) := by unfold Hid msOk; rw [hV1, hV2]
  rw [← hV1] at HVA
  rw [← hV2] at HVB
  clear hV1 hV2
  obtain ⟨n, hn⟩ : ∃ n, n = A.ac.length := ⟨_, rfl⟩
  obtain ⟨m, hmm⟩ : ∃ n, n = A.nx.length := ⟨_, rfl⟩
  obtain ⟨n2, hn2⟩ : ∃ n, n = B.ac.length := ⟨_, rfl⟩
  obtain ⟨m2, hm2⟩ : ∃ n, n = B.nx.length := ⟨_, rfl⟩
  try rw [← hn, ← hmm] at HVA
  try rw [← hn2, ← hm2] at HVA
  try rw [← hn, ← hmm] at HVB
  try rw [← hn2, ← hm2] at HVB
  try rw [← hn, ← hmm] at HPR
  try rw [← hn2, ← hm2] at HPR
  rw [← hn, ← hmm, ← hn2, ← hm2]
  clear hn hmm hn2 hm2
  obtain ⟨y, hy⟩ : ∃ y, y = ((w.alloc (.cells #[.int .i64 A.st, .slice ao n ca, .slice bo m cb] 39)).alloc (.cells #[.int .i64 B.st, .slice co n2 cc1, .slice dO m2 cd] 39)).alloc (.cells #[.int .i64 0, .slice none 0 0, .slice none 0 0] 39) := ⟨_, rfl⟩
  have hs0 : Since w y := by rw [hy]; exact (((Since.refl w).alloc _).alloc _).alloc _
  have hz : y.heap.size = w.heap.size + 3 := by rw [hy]; simp
  have BA0 : Hid (Blk y w.heap.size 39 #[.int .i64 A.st, .slice ao n ca, .slice bo m cb]) := by rw [hy]; exact ((Blk.new rfl _ _).alloc _).alloc _
  have BB0 : Hid (Blk y (w.heap.size + 1) 39 #[.int .i64 B.st, .slice co n2 cc1, .slice dO m2 cd]) := by rw [hy]; exact (Blk.new (by simp) _ _).alloc _
  have BR0 : Hid (Blk y (w.heap.size + 2) 39 #[.int .i64 0, .slice none 0 0, .slice none 0 0]) := by rw [hy]; exact Blk.new (by simp) _ _
  have HY : Hid (y = ((w.alloc (.cells #[.int .i64 A.st, .slice ao n ca, .slice bo m cb] 39)).alloc (.cells #[.int .i64 B.st, .slice co n2 cc1, .slice dO m2 cd] 39)).alloc (.cells #[.int .i64 0, .slice none 0 0, .slice none 0 0] 39)) := hy
  clear hy
  go_enter Try.func122, Try.ntmps122
  go_upto_region 1 with fail
  rw [← HY.out]
  obtain ⟨⟨p0, p1, p2⟩, _⟩ := BA0.out.threeA
  obtain ⟨⟨q0, q1, q2⟩, _⟩ := BB0.out.threeA
  go_wp2_with fail
  refine (HVA.out _ hs0).mono ?_
  rintro e w1 ⟨rfl, hq⟩
  have hsz9 := hq.size
  have hs9 := hs0.trans hq
  have BA9 := Lib.hid (BA0.out.since hq)
  have BB9 := Lib.hid (BB0.out.since hq)
  have BR9 := Lib.hid (BR0.out.since hq)
  clear p0 p1 p2 q0 q1 q2 hq hs0 BA0 BB0 BR0
  have hs0 := hs9
  have BA0 := BA9
  have BB0 := BB9
  have BR0 := BR9
  clear hs9 BA9 BB9 BR9
  obtain ⟨⟨p0, p1, p2⟩, _⟩ := BA0.out.threeA
  obtain ⟨⟨q0, q1, q2⟩, _⟩ := BB0.out.threeA
  cases V1 with
  | false =>
    have hC9 := HNM.out (by rw [HOK.out]; rfl)
    have hR9 := HNO.out hC9
    subst hC9 hR9
    obtain ⟨⟨r0, r1, r2⟩, r3, r4, r5⟩ := BR0.out.threeA
    go_wp2
    refine bodyPost_ret (v := .tuple #[.agg #[.int .i64 0, nilS, nilS], .bool false]) (by simp [results, Try.results122, go_sem, *]) rfl ?_
    refine ⟨_, rfl, ownA_zero _ _ _, ?_⟩
    iterate 3 (with_reducible refine Since.setCell ?_ (by simp <;> omega) _)
    exact hs0
  | true =>
    go_wp2_with fail
    refine (HVB.out _ hs0).mono ?_
    rintro e w2 ⟨rfl, hq⟩
    have hsz9 := hq.size
    have hs9 := hs0.trans hq
    have BA9 := Lib.hid (BA0.out.since hq)
    have BB9 := Lib.hid (BB0.out.since hq)
    have BR9 := Lib.hid (BR0.out.since hq)
    clear p0 p1 p2 q0 q1 q2 hq hs0 BA0 BB0 BR0
    have hs0 := hs9
    have BA0 := BA9
    have BB0 := BB9
    have BR0 := BR9
    clear hs9 BA9 BB9 BR9
    obtain ⟨⟨p0, p1, p2⟩, _⟩ := BA0.out.threeA
    obtain ⟨⟨q0, q1, q2⟩, _⟩ := BB0.out.threeA
    cases V2 with
    | false =>
      have hC9 := HNM.out (by rw [HOK.out]; rfl)
      have hR9 := HNO.out hC9
      subst hC9 hR9
      obtain ⟨⟨r0, r1, r2⟩, r3, r4, r5⟩ := BR0.out.threeA
      go_wp2
      refine bodyPost_ret (v := .tuple #[.agg #[.int .i64 0, nilS, nilS], .bool false]) (by simp [results, Try.results122, go_sem, *]) rfl ?_
      refine ⟨_, rfl, ownA_zero _ _ _, ?_⟩
      iterate 3 (with_reducible refine Since.setCell ?_ (by simp <;> omega) _)
      exact hs0
    | true =>
      have hC8 : C = decide (N.ac.length ≤ 12) := HCK.out (by rw [HOK.out]; rfl)
      go_wp2_with fail
      refine (HPR.out _ hs0 (by rw [HOK.out]; rfl)).mono ?_
      rintro e w3 ⟨v3, rfl, ho3, hq3⟩
      have HA3 := Lib.hid ho3.at
      obtain ⟨r3a, r3b, rfl, i3, o3, n3, q3⟩ := ho3
      obtain ⟨so3, sc3, rfl⟩ := o3.len
      obtain ⟨uo3, uc3, rfl⟩ := q3.len
      have HO3 : Hid (OwnA _ _ _ _ _) := ⟨_, _, rfl, i3, o3, n3, q3⟩
      clear i3 o3 n3 q3
      have HMM : Hid (∀ z W, AutAt W z Q → Calls Try.prog 168 #[z] W (AOut W N)) := fun z W hz => HMN.out z W (by rw [HOK.out]; rfl) hz
      go_wp2_with fail
      refine (HMM.out _ _ HA3.out).mono ?_
      rintro e w4 ⟨v4, rfl, ho4, hq4⟩
      obtain ⟨r4a, r4b, rfl, i4, o4, n4, q4⟩ := ho4
      obtain ⟨so4, sc4, rfl⟩ := o4.len
      obtain ⟨uo4, uc4, rfl⟩ := q4.len
      have HO4 : Hid (OwnA _ _ _ _ _) := ⟨_, _, rfl, i4, o4, n4, q4⟩
      clear i4 o4 n4 q4
      have hq34 := hq3.trans hq4
      have hsz4 := hq4.size
      have hsz3 := hq3.size
      have BR4 := Lib.hid (BR0.out.since hq34)
      have hs4 := hs0.trans hq34
      clear hq3 hq4 hq34 p0 p1 p2 q0 q1 q2 HA3
      go_upto_region 4 with fail
      obtain ⟨wz, hwz⟩ : ∃ q, q = w4.alloc (.cells #[.int .i64 N.st, .slice so4 N.ac.length sc4, .slice uo4 N.nx.length uc4] 39) := ⟨_, rfl⟩
      have BZ : Hid (Blk wz w4.heap.size 39 #[.int .i64 N.st, .slice so4 N.ac.length sc4, .slice uo4 N.nx.length uc4]) := by rw [hwz]; exact Blk.new rfl _ _
      have hal : Since w4 wz := by rw [hwz]; exact (Since.refl _).alloc _
      have hzz : wz.heap.size = w4.heap.size + 1 := by rw [hwz]; simp
      rw [← hwz]
      have HO5 := Lib.hid (HO4.out.since hal)
      have BR5 := Lib.hid (BR4.out.since hal)
      have hs5 := hs4.trans hal
      clear hwz hal HO4 BR4 hs4
      obtain ⟨⟨p0, p1, p2⟩, _⟩ := BZ.out.threeA
      obtain ⟨⟨r0, r1, r2⟩, r3, r4, r5⟩ := BR5.out.threeA
      by_cases h12 : N.ac.length ≤ 12
      · have hC9 : C = true := by rw [hC8]; exact decide_eq_true h12
        have hR9 := HYE.out hC9
        have hng : ¬ ((12 : Int) < (N.ac.length : Int)) := by omega
        have hng2 : ¬ ((N.ac.length : Int) > 12) := by omega
        subst hC9 hR9
        clear hC8
        go_wp2
        refine bodyPost_ret (v := .tuple #[.agg #[.int .i64 R.st, .slice so4 R.ac.length sc4, .slice uo4 R.nx.length uc4], .bool true]) (by simp [results, Try.results122, go_sem, *]) rfl ?_
        refine ⟨_, rfl, ?_, ?_⟩
        · refine OwnA.wider (lo := w3.heap.size) (hi := w4.heap.size) ?_ (by omega) (by first | (simp; done) | (simp; omega))
          iterate 3 (with_reducible refine OwnA.far1 ?_ (.inl (by omega)) _ _)
          exact HO5.out
        · iterate 3 (with_reducible refine Since.setCell ?_ (by simp <;> omega) _)
          exact hs5
      · have hC9 : C = false := by rw [hC8]; exact decide_eq_false h12
        have hR9 := HNO.out hC9
        have hgt : ((12 : Int) < (N.ac.length : Int)) := by omega
        subst hC9 hR9
        clear hC8
        go_wp2
        refine bodyPost_ret (v := .tuple #[.agg #[.int .i64 0, nilS, nilS], .bool false]) (by simp [results, Try.results122, go_sem, *]) rfl ?_
        refine ⟨_, rfl, ownA_zero _ _ _, ?_⟩
        iterate 3 (with_reducible refine Since.setCell ?_ (by simp <;> omega) _)
        exact hs5
end Go.Proofs.Ytmaagihfjldgeaa
