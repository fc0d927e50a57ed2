/- MissingWord, IncludesLanguage and AreEquivalent, the model's and the program's. -/
import Derived.Test.YtmaagihfjldgeaaLwG
import Derived.Test.YtmaagihfjldgeaaLwT
import Derived.Test.YtmaagihfjldgeaaPmP
import Derived.Test.YtmaagihfjldgeaaIbo
import Derived.Test.YtmaagihfjldgeaaMsM
import Derived.Test.YtmaagihfjldgeaaA2
import Derived.Test.YtmaagihfjldgeaaK1
namespace Go.Proofs.Ytmaagihfjldgeaa
set_option maxRecDepth 100000
open Go.ChangeShapes Go.WideShapes Go.ChangeAt Go.RowKit Go.Maps
set_option linter.unusedVariables false
set_option linter.unusedSimpArgs false

theorem lwMinus_any (A B : Aut) (BF BA BB : Nat) (W : World) (ha : ValidA A) (hb : ValidA B) (h : PmB B A (.func (.func 105) #[] #[]) BF BA BB W) : Calls Try.prog 97 #[mchP B.st A.st BF BA BB] W (WdOut W (sdR true A B A.st B.st)) :=
  lwordP_any B A (accT opMinus B A) BF BA BB B.st A.st _ W hb ha (inQ_st hb) (inQ_st ha) (fun a b W' h1 h2 h3 => accMinus_any B A BF BA BB a b h1 h2 W' (h.since h3)) (fun a b k W' h0 h1 h2 h3 => nextP_any B A _ BF BA BB a b k h0 hb ha h1 h2 W' (h.since h3)) (ms_run ha hb)
set_option maxHeartbeats 2000000 in
set_option maxRecDepth 100000 in
theorem specMG_any (v u : Value) (A B : Aut) (w : World) (h : AutAt w v A) (h2 : AutAt w u B) (hm : MxA A) (hm2 : MxA B) :
    Calls Try.prog 38 #[v, u] w (IBOut w ((msA A B).getD []) (msA A B).isSome) := by
  have HVA : Hid (∀ W, Since w W → Calls Try.prog 34 #[v] W fun e w' => e = .returned (.bool (validA A)) ∧ Since W w') := fun W hW => specVA_any v A W (h.since hW) hm
  have HVB : Hid (∀ W, Since w W → Calls Try.prog 34 #[u] W fun e w' => e = .returned (.bool (validA B)) ∧ Since W w') := fun W hW => specVA_any u B W (h2.since hW) hm2
  have HDF : Hid (∀ W, Since w W → msOk A B = true → Calls Try.prog 98 #[v, .int .i64 A.st, u, .int .i64 B.st, .bool true] W (WdOut W (msA A B))) := fun W hW hok => by
    obtain ⟨h1, h3, _⟩ := msOk_in hok
    rw [msA_yes hok]
    exact differ_any v u A B A.st B.st true _ W (h.since hW) (h2.since hW) h1 h3 (inQ_st h1) (inQ_st h3) (sdR_spec true h1 h3 (inQ_st h1) (inQ_st h3))
  obtain ⟨a, b, rfl, _, ha, hb⟩ := h
  obtain ⟨ao, ca, rfl⟩ := ha.len
  obtain ⟨bo, cb, rfl⟩ := hb.len
  obtain ⟨a2, b2, rfl, _, ha2, hb2⟩ := h2
  obtain ⟨co, cc1, rfl⟩ := ha2.len
  obtain ⟨dO, cd, rfl⟩ := hb2.len
  clear ha hb ha2 hb2 hm hm2
  obtain ⟨V1, hV1⟩ : ∃ b, b = validA A := ⟨_, rfl⟩
  obtain ⟨V2, hV2⟩ : ∃ b, b = validA B := ⟨_, rfl⟩
  have HOK : Hid (msOk A B = (V1 && V2)) := by unfold Hid msOk; rw [hV1, hV2]
  rw [← hV1] at HVA
  rw [← hV2] at HVB
  clear hV1 hV2
  obtain ⟨R, hR⟩ : ∃ R, R = msA A B := ⟨_, rfl⟩
  have HRN : Hid (msOk A B = false → R = none) := fun h => by rw [hR]; exact msA_no h
  rw [← hR] at HDF ⊢
  clear hR
  obtain ⟨n, hn⟩ : ∃ n, n = A.ac.length := ⟨_, rfl⟩
  obtain ⟨m, hmm⟩ : ∃ n, n = A.nx.length := ⟨_, rfl⟩
  obtain ⟨n2, hn2⟩ : ∃ n, n = B.ac.length := ⟨_, rfl⟩
  obtain ⟨m2, hm2⟩ : ∃ n, n = B.nx.length := ⟨_, rfl⟩
  rw [← hn, ← hmm] at HVA HDF ⊢
  rw [← hn2, ← hm2] at HVB HDF ⊢
  clear hn hmm hn2 hm2
  obtain ⟨y, hy⟩ : ∃ y, y = (w.alloc (.cells #[.int .i64 A.st, .slice ao n ca, .slice bo m cb] 39)).alloc (.cells #[.int .i64 B.st, .slice co n2 cc1, .slice dO m2 cd] 39) := ⟨_, rfl⟩
  have hs0 : Since w y := by rw [hy]; exact ((Since.refl w).alloc _).alloc _
  have BA0 : Hid (Blk y w.heap.size 39 #[.int .i64 A.st, .slice ao n ca, .slice bo m cb]) := by rw [hy]; exact (Blk.new rfl _ _).alloc _
  have BB0 : Hid (Blk y (w.heap.size + 1) 39 #[.int .i64 B.st, .slice co n2 cc1, .slice dO m2 cd]) := by rw [hy]; exact Blk.new (by simp) _ _
  have HY := Lib.hid hy
  clear hy
  go_enter Try.func38, Try.ntmps38
  go_upto_region 1 with fail
  rw [← HY.out]
  obtain ⟨⟨p0, p1, p2⟩, _⟩ := BA0.out.threeA
  obtain ⟨⟨q0, q1, q2⟩, _⟩ := BB0.out.threeA
  go_wp2_with fail
  refine (HVA.out _ hs0).mono ?_
  rintro e w1 ⟨rfl, hq⟩
  have hs9 := hs0.trans hq
  have BA9 := Lib.hid (BA0.out.since hq)
  have BB9 := Lib.hid (BB0.out.since hq)
  clear p0 p1 p2 q0 q1 q2 hq hs0 BA0 BB0
  have hs0 := hs9
  have BA0 := BA9
  have BB0 := BB9
  clear hs9 BA9 BB9
  obtain ⟨⟨p0, p1, p2⟩, _⟩ := BA0.out.threeA
  obtain ⟨⟨q0, q1, q2⟩, _⟩ := BB0.out.threeA
  cases V1 with
  | false =>
    have HF : Hid (R = none) := HRN.out (by rw [HOK.out]; rfl)
    have HOL := Lib.hid (own_lit w w1 hs0 w1.heap.size rfl)
    have hsl := hs0.alloc (.cells #[] 3)
    go_wp2
    go_ret2
    rw [HF.out]
    exact ⟨_, rfl, HOL.out, hsl⟩
  | true =>
    go_wp2_with fail
    refine (HVB.out _ hs0).mono ?_
    rintro e w2 ⟨rfl, hq⟩
    have hs9 := hs0.trans hq
    have BA9 := Lib.hid (BA0.out.since hq)
    have BB9 := Lib.hid (BB0.out.since hq)
    clear p0 p1 p2 q0 q1 q2 hq hs0 BA0 BB0
    have hs0 := hs9
    have BA0 := BA9
    have BB0 := BB9
    clear hs9 BA9 BB9
    obtain ⟨⟨p0, p1, p2⟩, _⟩ := BA0.out.threeA
    obtain ⟨⟨q0, q1, q2⟩, _⟩ := BB0.out.threeA
    cases V2 with
    | false =>
      have HF : Hid (R = none) := HRN.out (by rw [HOK.out]; rfl)
      have HOL := Lib.hid (own_lit w w2 hs0 w2.heap.size rfl)
      have hsl := hs0.alloc (.cells #[] 3)
      go_wp2
      go_ret2
      rw [HF.out]
      exact ⟨_, rfl, HOL.out, hsl⟩
    | true =>
      go_wp2_with fail
      refine (HDF.out _ hs0 (by rw [HOK.out]; rfl)).mono ?_
      rintro e w3 ⟨z, rfl, hoz, hq⟩
      have HOZ := Lib.hid (hoz.mono hs0.size)
      have hs9 := hs0.trans hq
      clear hoz
      go_wp2
      go_ret2
      exact ⟨z, rfl, HOZ.out, hs9⟩
set_option maxHeartbeats 2000000 in
set_option maxRecDepth 100000 in
theorem implMG_any (v u : Value) (A B : Aut) (w : World) (h : AutAt w v A) (h2 : AutAt w u B) (hm : MxA A) (hm2 : MxA B) :
    Calls Try.prog 37 #[v, u] w (IBOut w ((msA A B).getD []) (msA A B).isSome) := by
  have HVA : Hid (∀ W, Since w W → Calls Try.prog 92 #[v] W fun e w' => e = .returned (.bool (validA A)) ∧ Since W w') := fun W hW => implVA_any v A W (h.since hW) hm
  have HVB : Hid (∀ W, Since w W → Calls Try.prog 92 #[u] W fun e w' => e = .returned (.bool (validA B)) ∧ Since W w') := fun W hW => implVA_any u B W (h2.since hW) hm2
  have HPM : Hid (∀ W, Since w W → Calls Try.prog 94 #[u, v, (.func (.func 105) #[] #[])] W fun e w' => ∃ BF BA BB, e = .returned (mchP B.st A.st BF BA BB) ∧ PmB B A (.func (.func 105) #[] #[]) BF BA BB w' ∧ Since W w') := fun W hW => pairM_any u v _ B A W (h2.since hW) (h.since hW)
  have HLR : Hid (∀ BF BA BB W, msOk A B = true → PmB B A (.func (.func 105) #[] #[]) BF BA BB W → Calls Try.prog 97 #[mchP B.st A.st BF BA BB] W (WdOut W (msA A B))) := fun BF BA BB W hok hd => by
    obtain ⟨h1, h3, _⟩ := msOk_in hok
    rw [msA_yes hok]
    exact lwMinus_any A B BF BA BB W h1 h3 hd
  obtain ⟨a, b, rfl, _, ha, hb⟩ := h
  obtain ⟨ao, ca, rfl⟩ := ha.len
  obtain ⟨bo, cb, rfl⟩ := hb.len
  obtain ⟨a2, b2, rfl, _, ha2, hb2⟩ := h2
  obtain ⟨co, cc1, rfl⟩ := ha2.len
  obtain ⟨dO, cd, rfl⟩ := hb2.len
  clear ha hb ha2 hb2 hm hm2
  obtain ⟨V1, hV1⟩ : ∃ b, b = validA A := ⟨_, rfl⟩
  obtain ⟨V2, hV2⟩ : ∃ b, b = validA B := ⟨_, rfl⟩
  have HOK : Hid (msOk A B = (V1 && V2)) := by unfold Hid msOk; rw [hV1, hV2]
  rw [← hV1] at HVA
  rw [← hV2] at HVB
  clear hV1 hV2
  obtain ⟨R, hR⟩ : ∃ R, R = msA A B := ⟨_, rfl⟩
  have HRN : Hid (msOk A B = false → R = none) := fun h => by rw [hR]; exact msA_no h
  rw [← hR] at HLR ⊢
  clear hR
  obtain ⟨PB, hPB⟩ : ∃ Q : Nat → Nat → Nat → World → Prop, Q = fun BF BA BB W => PmB B A (.func (.func 105) #[] #[]) BF BA BB W := ⟨_, rfl⟩
  have HPM2 : Hid (∀ W, Since w W → Calls Try.prog 94 #[.agg #[.int .i64 B.st, .slice co B.ac.length cc1, .slice dO B.nx.length cd], .agg #[.int .i64 A.st, .slice ao A.ac.length ca, .slice bo A.nx.length cb], (.func (.func 105) #[] #[])] W fun e w' => ∃ BF BA BB, e = .returned (mchP B.st A.st BF BA BB) ∧ PB BF BA BB w' ∧ Since W w') := by rw [hPB]; exact HPM.out
  have HLR2 : Hid (∀ BF BA BB W, msOk A B = true → PB BF BA BB W → Calls Try.prog 97 #[mchP B.st A.st BF BA BB] W (WdOut W R)) := by rw [hPB]; exact HLR.out
  clear HPM HLR hPB
  have HPM := HPM2
  have HLR := HLR2
  clear HPM2 HLR2
  obtain ⟨n, hn⟩ : ∃ n, n = A.ac.length := ⟨_, rfl⟩
  obtain ⟨m, hmm⟩ : ∃ n, n = A.nx.length := ⟨_, rfl⟩
  obtain ⟨n2, hn2⟩ : ∃ n, n = B.ac.length := ⟨_, rfl⟩
  obtain ⟨m2, hm2⟩ : ∃ n, n = B.nx.length := ⟨_, rfl⟩
  rw [← hn, ← hmm] at HVA HPM ⊢
  rw [← hn2, ← hm2] at HVB HPM ⊢
  clear hn hmm hn2 hm2
  obtain ⟨y, hy⟩ : ∃ y, y = (w.alloc (.cells #[.int .i64 A.st, .slice ao n ca, .slice bo m cb] 39)).alloc (.cells #[.int .i64 B.st, .slice co n2 cc1, .slice dO m2 cd] 39) := ⟨_, rfl⟩
  have hs0 : Since w y := by rw [hy]; exact ((Since.refl w).alloc _).alloc _
  have BA0 : Hid (Blk y w.heap.size 39 #[.int .i64 A.st, .slice ao n ca, .slice bo m cb]) := by rw [hy]; exact (Blk.new rfl _ _).alloc _
  have BB0 : Hid (Blk y (w.heap.size + 1) 39 #[.int .i64 B.st, .slice co n2 cc1, .slice dO m2 cd]) := by rw [hy]; exact Blk.new (by simp) _ _
  have HY := Lib.hid hy
  clear hy
  go_enter Try.func37, Try.ntmps37
  go_upto_region 1 with fail
  rw [← HY.out]
  obtain ⟨⟨p0, p1, p2⟩, _⟩ := BA0.out.threeA
  obtain ⟨⟨q0, q1, q2⟩, _⟩ := BB0.out.threeA
  go_wp2_with fail
  refine (HVA.out _ hs0).mono ?_
  rintro e w1 ⟨rfl, hq⟩
  have hs9 := hs0.trans hq
  have BA9 := Lib.hid (BA0.out.since hq)
  have BB9 := Lib.hid (BB0.out.since hq)
  clear p0 p1 p2 q0 q1 q2 hq hs0 BA0 BB0
  have hs0 := hs9
  have BA0 := BA9
  have BB0 := BB9
  clear hs9 BA9 BB9
  obtain ⟨⟨p0, p1, p2⟩, _⟩ := BA0.out.threeA
  obtain ⟨⟨q0, q1, q2⟩, _⟩ := BB0.out.threeA
  cases V1 with
  | false =>
    have HF : Hid (R = none) := HRN.out (by rw [HOK.out]; rfl)
    go_wp2
    go_ret2
    rw [HF.out]
    exact ⟨_, rfl, ⟨fun x hx => by simp at hx, World.ownsRow_nil _ _ _ _⟩, hs0⟩
  | true =>
    go_wp2_with fail
    refine (HVB.out _ hs0).mono ?_
    rintro e w2 ⟨rfl, hq⟩
    have hs9 := hs0.trans hq
    have BA9 := Lib.hid (BA0.out.since hq)
    have BB9 := Lib.hid (BB0.out.since hq)
    clear p0 p1 p2 q0 q1 q2 hq hs0 BA0 BB0
    have hs0 := hs9
    have BA0 := BA9
    have BB0 := BB9
    clear hs9 BA9 BB9
    obtain ⟨⟨p0, p1, p2⟩, _⟩ := BA0.out.threeA
    obtain ⟨⟨q0, q1, q2⟩, _⟩ := BB0.out.threeA
    cases V2 with
    | false =>
      have HF : Hid (R = none) := HRN.out (by rw [HOK.out]; rfl)
      go_wp2
      go_ret2
      rw [HF.out]
      exact ⟨_, rfl, ⟨fun x hx => by simp at hx, World.ownsRow_nil _ _ _ _⟩, hs0⟩
    | true =>
      go_wp2_with fail
      refine (HPM.out _ hs0).mono ?_
      rintro e w3 ⟨BF, BA, BB, rfl, hpm, hq⟩
      have hs9 := hs0.trans hq
      have BA9 := Lib.hid (BA0.out.since hq)
      have BB9 := Lib.hid (BB0.out.since hq)
      clear p0 p1 p2 q0 q1 q2 hq hs0 BA0 BB0
      have hs0 := hs9
      have BA0 := BA9
      have BB0 := BB9
      clear hs9 BA9 BB9
      obtain ⟨⟨p0, p1, p2⟩, _⟩ := BA0.out.threeA
      obtain ⟨⟨q0, q1, q2⟩, _⟩ := BB0.out.threeA
      have HPB := Lib.hid hpm
      clear hpm
      go_wp2_with fail
      refine (HLR.out BF BA BB _ (by rw [HOK.out]; rfl) HPB.out).mono ?_
      rintro e w4 ⟨z, rfl, hoz, hq⟩
      have HOZ := Lib.hid (hoz.mono hs0.size)
      have hs9 := hs0.trans hq
      clear hoz
      go_wp2
      go_ret2
      exact ⟨z, rfl, HOZ.out, hs9⟩
set_option maxHeartbeats 2000000 in
set_option maxRecDepth 100000 in
theorem specIN_any (v u : Value) (A B : Aut) (w : World) (h : AutAt w v A) (h2 : AutAt w u B) (hm : MxA A) (hm2 : MxA B) :
    Calls Try.prog 68 #[v, u] w fun e w' => e = .returned (.bool (incB A B)) ∧ Since w w' := by
  have HVA : Hid (∀ W, Since w W → Calls Try.prog 34 #[v] W fun e w' => e = .returned (.bool (validA A)) ∧ Since W w') := fun W hW => specVA_any v A W (h.since hW) hm
  have HVB : Hid (∀ W, Since w W → Calls Try.prog 34 #[u] W fun e w' => e = .returned (.bool (validA B)) ∧ Since W w') := fun W hW => specVA_any u B W (h2.since hW) hm2
  have HMG : Hid (∀ W, Since w W → Calls Try.prog 38 #[v, u] W (IBOut W ((msA A B).getD []) (msA A B).isSome)) := fun W hW => specMG_any v u A B W (h.since hW) (h2.since hW) hm hm2
  obtain ⟨a, b, rfl, _, ha, hb⟩ := h
  obtain ⟨ao, ca, rfl⟩ := ha.len
  obtain ⟨bo, cb, rfl⟩ := hb.len
  obtain ⟨a2, b2, rfl, _, ha2, hb2⟩ := h2
  obtain ⟨co, cc1, rfl⟩ := ha2.len
  obtain ⟨dO, cd, rfl⟩ := hb2.len
  clear ha hb ha2 hb2 hm hm2
  obtain ⟨V1, hV1⟩ : ∃ b, b = validA A := ⟨_, rfl⟩
  obtain ⟨V2, hV2⟩ : ∃ b, b = validA B := ⟨_, rfl⟩
  have HOK : Hid (msOk A B = (V1 && V2)) := by unfold Hid msOk; rw [hV1, hV2]
  rw [← hV1] at HVA
  rw [← hV2] at HVB
  clear hV1 hV2
  obtain ⟨RL, hRL⟩ : ∃ R, R = (msA A B).getD [] := ⟨_, rfl⟩
  obtain ⟨RB, hRB⟩ : ∃ R, R = (msA A B).isSome := ⟨_, rfl⟩
  obtain ⟨X, hX⟩ : ∃ R, R = incB A B := ⟨_, rfl⟩
  have HX : Hid (X = (V1 && V2 && !RB)) := by unfold Hid; rw [hX, hRB]; unfold incB; rw [HOK.out]
  rw [← hRL, ← hRB] at HMG
  rw [← hX]
  clear hRL hRB hX HOK
  obtain ⟨n, hn⟩ : ∃ n, n = A.ac.length := ⟨_, rfl⟩
  obtain ⟨m, hmm⟩ : ∃ n, n = A.nx.length := ⟨_, rfl⟩
  obtain ⟨n2, hn2⟩ : ∃ n, n = B.ac.length := ⟨_, rfl⟩
  obtain ⟨m2, hm2⟩ : ∃ n, n = B.nx.length := ⟨_, rfl⟩
  rw [← hn, ← hmm] at HVA HMG ⊢
  rw [← hn2, ← hm2] at HVB HMG ⊢
  clear hn hmm hn2 hm2
  obtain ⟨y, hy⟩ : ∃ y, y = (w.alloc (.cells #[.int .i64 A.st, .slice ao n ca, .slice bo m cb] 39)).alloc (.cells #[.int .i64 B.st, .slice co n2 cc1, .slice dO m2 cd] 39) := ⟨_, rfl⟩
  have hs0 : Since w y := by rw [hy]; exact ((Since.refl w).alloc _).alloc _
  have BA0 : Hid (Blk y w.heap.size 39 #[.int .i64 A.st, .slice ao n ca, .slice bo m cb]) := by rw [hy]; exact (Blk.new rfl _ _).alloc _
  have BB0 : Hid (Blk y (w.heap.size + 1) 39 #[.int .i64 B.st, .slice co n2 cc1, .slice dO m2 cd]) := by rw [hy]; exact Blk.new (by simp) _ _
  have HY := Lib.hid hy
  clear hy
  go_enter Try.func68, Try.ntmps68
  go_upto_region 1 with fail
  rw [← HY.out]
  obtain ⟨⟨p0, p1, p2⟩, _⟩ := BA0.out.threeA
  obtain ⟨⟨q0, q1, q2⟩, _⟩ := BB0.out.threeA
  go_wp2_with fail
  refine (HMG.out _ hs0).mono ?_
  rintro e w0 ⟨z, rfl, hoz, hq⟩
  have hs9 := hs0.trans hq
  have BA9 := Lib.hid (BA0.out.since hq)
  have BB9 := Lib.hid (BB0.out.since hq)
  clear p0 p1 p2 q0 q1 q2 hq hs0 BA0 BB0
  have hs0 := hs9
  have BA0 := BA9
  have BB0 := BB9
  clear hs9 BA9 BB9
  obtain ⟨⟨p0, p1, p2⟩, _⟩ := BA0.out.threeA
  obtain ⟨⟨q0, q1, q2⟩, _⟩ := BB0.out.threeA
  obtain ⟨zo, zc, rfl⟩ := Own.len hoz
  clear hoz
  go_wp2_with fail
  refine (HVA.out _ hs0).mono ?_
  rintro e w1 ⟨rfl, hq⟩
  have hs9 := hs0.trans hq
  have BA9 := Lib.hid (BA0.out.since hq)
  have BB9 := Lib.hid (BB0.out.since hq)
  clear p0 p1 p2 q0 q1 q2 hq hs0 BA0 BB0
  have hs0 := hs9
  have BA0 := BA9
  have BB0 := BB9
  clear hs9 BA9 BB9
  obtain ⟨⟨p0, p1, p2⟩, _⟩ := BA0.out.threeA
  obtain ⟨⟨q0, q1, q2⟩, _⟩ := BB0.out.threeA
  cases V1 with
  | false =>
    go_wp2
    go_ret
    exact ⟨ret_bool (by rw [HX.out]; cases RB <;> rfl), hs0⟩
  | true =>
    go_wp2_with fail
    refine (HVB.out _ hs0).mono ?_
    rintro e w2 ⟨rfl, hq⟩
    have hs9 := hs0.trans hq
    have BA9 := Lib.hid (BA0.out.since hq)
    have BB9 := Lib.hid (BB0.out.since hq)
    clear p0 p1 p2 q0 q1 q2 hq hs0 BA0 BB0
    have hs0 := hs9
    have BA0 := BA9
    have BB0 := BB9
    clear hs9 BA9 BB9
    obtain ⟨⟨p0, p1, p2⟩, _⟩ := BA0.out.threeA
    obtain ⟨⟨q0, q1, q2⟩, _⟩ := BB0.out.threeA
    cases V2 with
    | false =>
      go_wp2
      go_ret
      exact ⟨ret_bool (by rw [HX.out]; cases RB <;> rfl), hs0⟩
    | true =>
      cases RB with
      | false =>
        go_wp2
        go_ret
        exact ⟨ret_bool (by rw [HX.out]; rfl), hs0⟩
      | true =>
        go_wp2
        go_ret
        exact ⟨ret_bool (by rw [HX.out]; rfl), hs0⟩
set_option maxHeartbeats 2000000 in
set_option maxRecDepth 100000 in
theorem implIN_any (v u : Value) (A B : Aut) (w : World) (h : AutAt w v A) (h2 : AutAt w u B) (hm : MxA A) (hm2 : MxA B) :
    Calls Try.prog 39 #[v, u] w fun e w' => e = .returned (.bool (incB A B)) ∧ Since w w' := by
  have HVA : Hid (∀ W, Since w W → Calls Try.prog 92 #[v] W fun e w' => e = .returned (.bool (validA A)) ∧ Since W w') := fun W hW => implVA_any v A W (h.since hW) hm
  have HVB : Hid (∀ W, Since w W → Calls Try.prog 92 #[u] W fun e w' => e = .returned (.bool (validA B)) ∧ Since W w') := fun W hW => implVA_any u B W (h2.since hW) hm2
  have HMG : Hid (∀ W, Since w W → Calls Try.prog 37 #[v, u] W (IBOut W ((msA A B).getD []) (msA A B).isSome)) := fun W hW => implMG_any v u A B W (h.since hW) (h2.since hW) hm hm2
  obtain ⟨a, b, rfl, _, ha, hb⟩ := h
  obtain ⟨ao, ca, rfl⟩ := ha.len
  obtain ⟨bo, cb, rfl⟩ := hb.len
  obtain ⟨a2, b2, rfl, _, ha2, hb2⟩ := h2
  obtain ⟨co, cc1, rfl⟩ := ha2.len
  obtain ⟨dO, cd, rfl⟩ := hb2.len
  clear ha hb ha2 hb2 hm hm2
  obtain ⟨V1, hV1⟩ : ∃ b, b = validA A := ⟨_, rfl⟩
  obtain ⟨V2, hV2⟩ : ∃ b, b = validA B := ⟨_, rfl⟩
  have HOK : Hid (msOk A B = (V1 && V2)) := by unfold Hid msOk; rw [hV1, hV2]
  rw [← hV1] at HVA
  rw [← hV2] at HVB
  clear hV1 hV2
  obtain ⟨RL, hRL⟩ : ∃ R, R = (msA A B).getD [] := ⟨_, rfl⟩
  obtain ⟨RB, hRB⟩ : ∃ R, R = (msA A B).isSome := ⟨_, rfl⟩
  obtain ⟨X, hX⟩ : ∃ R, R = incB A B := ⟨_, rfl⟩
  have HX : Hid (X = (V1 && V2 && !RB)) := by unfold Hid; rw [hX, hRB]; unfold incB; rw [HOK.out]
  rw [← hRL, ← hRB] at HMG
  rw [← hX]
  clear hRL hRB hX HOK
  obtain ⟨n, hn⟩ : ∃ n, n = A.ac.length := ⟨_, rfl⟩
  obtain ⟨m, hmm⟩ : ∃ n, n = A.nx.length := ⟨_, rfl⟩
  obtain ⟨n2, hn2⟩ : ∃ n, n = B.ac.length := ⟨_, rfl⟩
  obtain ⟨m2, hm2⟩ : ∃ n, n = B.nx.length := ⟨_, rfl⟩
  rw [← hn, ← hmm] at HVA HMG ⊢
  rw [← hn2, ← hm2] at HVB HMG ⊢
  clear hn hmm hn2 hm2
  obtain ⟨y, hy⟩ : ∃ y, y = (w.alloc (.cells #[.int .i64 A.st, .slice ao n ca, .slice bo m cb] 39)).alloc (.cells #[.int .i64 B.st, .slice co n2 cc1, .slice dO m2 cd] 39) := ⟨_, rfl⟩
  have hs0 : Since w y := by rw [hy]; exact ((Since.refl w).alloc _).alloc _
  have BA0 : Hid (Blk y w.heap.size 39 #[.int .i64 A.st, .slice ao n ca, .slice bo m cb]) := by rw [hy]; exact (Blk.new rfl _ _).alloc _
  have BB0 : Hid (Blk y (w.heap.size + 1) 39 #[.int .i64 B.st, .slice co n2 cc1, .slice dO m2 cd]) := by rw [hy]; exact Blk.new (by simp) _ _
  have HY := Lib.hid hy
  clear hy
  go_enter Try.func39, Try.ntmps39
  go_upto_region 1 with fail
  rw [← HY.out]
  obtain ⟨⟨p0, p1, p2⟩, _⟩ := BA0.out.threeA
  obtain ⟨⟨q0, q1, q2⟩, _⟩ := BB0.out.threeA
  go_wp2_with fail
  refine (HMG.out _ hs0).mono ?_
  rintro e w0 ⟨z, rfl, hoz, hq⟩
  have hs9 := hs0.trans hq
  have BA9 := Lib.hid (BA0.out.since hq)
  have BB9 := Lib.hid (BB0.out.since hq)
  clear p0 p1 p2 q0 q1 q2 hq hs0 BA0 BB0
  have hs0 := hs9
  have BA0 := BA9
  have BB0 := BB9
  clear hs9 BA9 BB9
  obtain ⟨⟨p0, p1, p2⟩, _⟩ := BA0.out.threeA
  obtain ⟨⟨q0, q1, q2⟩, _⟩ := BB0.out.threeA
  obtain ⟨zo, zc, rfl⟩ := Own.len hoz
  clear hoz
  go_wp2_with fail
  refine (HVA.out _ hs0).mono ?_
  rintro e w1 ⟨rfl, hq⟩
  have hs9 := hs0.trans hq
  have BA9 := Lib.hid (BA0.out.since hq)
  have BB9 := Lib.hid (BB0.out.since hq)
  clear p0 p1 p2 q0 q1 q2 hq hs0 BA0 BB0
  have hs0 := hs9
  have BA0 := BA9
  have BB0 := BB9
  clear hs9 BA9 BB9
  obtain ⟨⟨p0, p1, p2⟩, _⟩ := BA0.out.threeA
  obtain ⟨⟨q0, q1, q2⟩, _⟩ := BB0.out.threeA
  cases V1 with
  | false =>
    go_wp2
    go_ret
    exact ⟨ret_bool (by rw [HX.out]; cases RB <;> rfl), hs0⟩
  | true =>
    go_wp2_with fail
    refine (HVB.out _ hs0).mono ?_
    rintro e w2 ⟨rfl, hq⟩
    have hs9 := hs0.trans hq
    have BA9 := Lib.hid (BA0.out.since hq)
    have BB9 := Lib.hid (BB0.out.since hq)
    clear p0 p1 p2 q0 q1 q2 hq hs0 BA0 BB0
    have hs0 := hs9
    have BA0 := BA9
    have BB0 := BB9
    clear hs9 BA9 BB9
    obtain ⟨⟨p0, p1, p2⟩, _⟩ := BA0.out.threeA
    obtain ⟨⟨q0, q1, q2⟩, _⟩ := BB0.out.threeA
    cases V2 with
    | false =>
      go_wp2
      go_ret
      exact ⟨ret_bool (by rw [HX.out]; cases RB <;> rfl), hs0⟩
    | true =>
      cases RB with
      | false =>
        go_wp2
        go_ret
        exact ⟨ret_bool (by rw [HX.out]; rfl), hs0⟩
      | true =>
        go_wp2
        go_ret
        exact ⟨ret_bool (by rw [HX.out]; rfl), hs0⟩
set_option maxHeartbeats 2000000 in
set_option maxRecDepth 100000 in
theorem specEV_any (v u : Value) (A B : Aut) (w : World) (h : AutAt w v A) (h2 : AutAt w u B) (hm : MxA A) (hm2 : MxA B) :
    Calls Try.prog 45 #[v, u] w fun e w' => e = .returned (.bool (eqvB A B)) ∧ Since w w' := by
  have HVA : Hid (∀ W, Since w W → Calls Try.prog 68 #[v, u] W fun e w' => e = .returned (.bool (incB A B)) ∧ Since W w') := fun W hW => specIN_any v u A B W (h.since hW) (h2.since hW) hm hm2
  have HVB : Hid (∀ W, Since w W → Calls Try.prog 68 #[u, v] W fun e w' => e = .returned (.bool (incB B A)) ∧ Since W w') := fun W hW => specIN_any u v B A W (h2.since hW) (h.since hW) hm2 hm
  obtain ⟨a, b, rfl, _, ha, hb⟩ := h
  obtain ⟨ao, ca, rfl⟩ := ha.len
  obtain ⟨bo, cb, rfl⟩ := hb.len
  obtain ⟨a2, b2, rfl, _, ha2, hb2⟩ := h2
  obtain ⟨co, cc1, rfl⟩ := ha2.len
  obtain ⟨dO, cd, rfl⟩ := hb2.len
  clear ha hb ha2 hb2 hm hm2
  obtain ⟨V1, hV1⟩ : ∃ b, b = incB A B := ⟨_, rfl⟩
  obtain ⟨V2, hV2⟩ : ∃ b, b = incB B A := ⟨_, rfl⟩
  have HX : Hid (eqvB A B = (V1 && V2)) := by unfold Hid eqvB; rw [hV1, hV2]
  rw [← hV1] at HVA
  rw [← hV2] at HVB
  clear hV1 hV2
  obtain ⟨n, hn⟩ : ∃ n, n = A.ac.length := ⟨_, rfl⟩
  obtain ⟨m, hmm⟩ : ∃ n, n = A.nx.length := ⟨_, rfl⟩
  obtain ⟨n2, hn2⟩ : ∃ n, n = B.ac.length := ⟨_, rfl⟩
  obtain ⟨m2, hm2⟩ : ∃ n, n = B.nx.length := ⟨_, rfl⟩
  rw [← hn, ← hmm] at HVA HVB ⊢
  rw [← hn2, ← hm2] at HVA HVB ⊢
  clear hn hmm hn2 hm2
  obtain ⟨y, hy⟩ : ∃ y, y = (w.alloc (.cells #[.int .i64 A.st, .slice ao n ca, .slice bo m cb] 39)).alloc (.cells #[.int .i64 B.st, .slice co n2 cc1, .slice dO m2 cd] 39) := ⟨_, rfl⟩
  have hs0 : Since w y := by rw [hy]; exact ((Since.refl w).alloc _).alloc _
  have BA0 : Hid (Blk y w.heap.size 39 #[.int .i64 A.st, .slice ao n ca, .slice bo m cb]) := by rw [hy]; exact (Blk.new rfl _ _).alloc _
  have BB0 : Hid (Blk y (w.heap.size + 1) 39 #[.int .i64 B.st, .slice co n2 cc1, .slice dO m2 cd]) := by rw [hy]; exact Blk.new (by simp) _ _
  have HY := Lib.hid hy
  clear hy
  go_enter Try.func45, Try.ntmps45
  go_upto_region 1 with fail
  rw [← HY.out]
  obtain ⟨⟨p0, p1, p2⟩, _⟩ := BA0.out.threeA
  obtain ⟨⟨q0, q1, q2⟩, _⟩ := BB0.out.threeA
  go_wp2_with fail
  refine (HVA.out _ hs0).mono ?_
  rintro e w1 ⟨rfl, hq⟩
  have hs9 := hs0.trans hq
  have BA9 := Lib.hid (BA0.out.since hq)
  have BB9 := Lib.hid (BB0.out.since hq)
  clear p0 p1 p2 q0 q1 q2 hq hs0 BA0 BB0
  have hs0 := hs9
  have BA0 := BA9
  have BB0 := BB9
  clear hs9 BA9 BB9
  obtain ⟨⟨p0, p1, p2⟩, _⟩ := BA0.out.threeA
  obtain ⟨⟨q0, q1, q2⟩, _⟩ := BB0.out.threeA
  cases V1 with
  | false =>
    go_wp2
    go_ret
    exact ⟨ret_bool (by rw [HX.out]; rfl), hs0⟩
  | true =>
    go_wp2_with fail
    refine (HVB.out _ hs0).mono ?_
    rintro e w2 ⟨rfl, hq⟩
    have hs9 := hs0.trans hq
    have BA9 := Lib.hid (BA0.out.since hq)
    have BB9 := Lib.hid (BB0.out.since hq)
    clear p0 p1 p2 q0 q1 q2 hq hs0 BA0 BB0
    have hs0 := hs9
    have BA0 := BA9
    have BB0 := BB9
    clear hs9 BA9 BB9
    obtain ⟨⟨p0, p1, p2⟩, _⟩ := BA0.out.threeA
    obtain ⟨⟨q0, q1, q2⟩, _⟩ := BB0.out.threeA
    cases V2 with
    | false =>
      go_wp2
      go_ret
      exact ⟨ret_bool (by rw [HX.out]; rfl), hs0⟩
    | true =>
      go_wp2
      go_ret
      exact ⟨ret_bool (by rw [HX.out]; rfl), hs0⟩
set_option maxHeartbeats 2000000 in
set_option maxRecDepth 100000 in
theorem implEV_any (v u : Value) (A B : Aut) (w : World) (h : AutAt w v A) (h2 : AutAt w u B) (hm : MxA A) (hm2 : MxA B) :
    Calls Try.prog 44 #[v, u] w fun e w' => e = .returned (.bool (eqvB A B)) ∧ Since w w' := by
  have HVA : Hid (∀ W, Since w W → Calls Try.prog 39 #[v, u] W fun e w' => e = .returned (.bool (incB A B)) ∧ Since W w') := fun W hW => implIN_any v u A B W (h.since hW) (h2.since hW) hm hm2
  have HVB : Hid (∀ W, Since w W → Calls Try.prog 39 #[u, v] W fun e w' => e = .returned (.bool (incB B A)) ∧ Since W w') := fun W hW => implIN_any u v B A W (h2.since hW) (h.since hW) hm2 hm
  obtain ⟨a, b, rfl, _, ha, hb⟩ := h
  obtain ⟨ao, ca, rfl⟩ := ha.len
  obtain ⟨bo, cb, rfl⟩ := hb.len
  obtain ⟨a2, b2, rfl, _, ha2, hb2⟩ := h2
  obtain ⟨co, cc1, rfl⟩ := ha2.len
  obtain ⟨dO, cd, rfl⟩ := hb2.len
  clear ha hb ha2 hb2 hm hm2
  obtain ⟨V1, hV1⟩ : ∃ b, b = incB A B := ⟨_, rfl⟩
  obtain ⟨V2, hV2⟩ : ∃ b, b = incB B A := ⟨_, rfl⟩
  have HX : Hid (eqvB A B = (V1 && V2)) := by unfold Hid eqvB; rw [hV1, hV2]
  rw [← hV1] at HVA
  rw [← hV2] at HVB
  clear hV1 hV2
  obtain ⟨n, hn⟩ : ∃ n, n = A.ac.length := ⟨_, rfl⟩
  obtain ⟨m, hmm⟩ : ∃ n, n = A.nx.length := ⟨_, rfl⟩
  obtain ⟨n2, hn2⟩ : ∃ n, n = B.ac.length := ⟨_, rfl⟩
  obtain ⟨m2, hm2⟩ : ∃ n, n = B.nx.length := ⟨_, rfl⟩
  rw [← hn, ← hmm] at HVA HVB ⊢
  rw [← hn2, ← hm2] at HVA HVB ⊢
  clear hn hmm hn2 hm2
  obtain ⟨y, hy⟩ : ∃ y, y = (w.alloc (.cells #[.int .i64 A.st, .slice ao n ca, .slice bo m cb] 39)).alloc (.cells #[.int .i64 B.st, .slice co n2 cc1, .slice dO m2 cd] 39) := ⟨_, rfl⟩
  have hs0 : Since w y := by rw [hy]; exact ((Since.refl w).alloc _).alloc _
  have BA0 : Hid (Blk y w.heap.size 39 #[.int .i64 A.st, .slice ao n ca, .slice bo m cb]) := by rw [hy]; exact (Blk.new rfl _ _).alloc _
  have BB0 : Hid (Blk y (w.heap.size + 1) 39 #[.int .i64 B.st, .slice co n2 cc1, .slice dO m2 cd]) := by rw [hy]; exact Blk.new (by simp) _ _
  have HY := Lib.hid hy
  clear hy
  go_enter Try.func44, Try.ntmps44
  go_upto_region 1 with fail
  rw [← HY.out]
  obtain ⟨⟨p0, p1, p2⟩, _⟩ := BA0.out.threeA
  obtain ⟨⟨q0, q1, q2⟩, _⟩ := BB0.out.threeA
  go_wp2_with fail
  refine (HVA.out _ hs0).mono ?_
  rintro e w1 ⟨rfl, hq⟩
  have hs9 := hs0.trans hq
  have BA9 := Lib.hid (BA0.out.since hq)
  have BB9 := Lib.hid (BB0.out.since hq)
  clear p0 p1 p2 q0 q1 q2 hq hs0 BA0 BB0
  have hs0 := hs9
  have BA0 := BA9
  have BB0 := BB9
  clear hs9 BA9 BB9
  obtain ⟨⟨p0, p1, p2⟩, _⟩ := BA0.out.threeA
  obtain ⟨⟨q0, q1, q2⟩, _⟩ := BB0.out.threeA
  cases V1 with
  | false =>
    go_wp2
    go_ret
    exact ⟨ret_bool (by rw [HX.out]; rfl), hs0⟩
  | true =>
    go_wp2_with fail
    refine (HVB.out _ hs0).mono ?_
    rintro e w2 ⟨rfl, hq⟩
    have hs9 := hs0.trans hq
    have BA9 := Lib.hid (BA0.out.since hq)
    have BB9 := Lib.hid (BB0.out.since hq)
    clear p0 p1 p2 q0 q1 q2 hq hs0 BA0 BB0
    have hs0 := hs9
    have BA0 := BA9
    have BB0 := BB9
    clear hs9 BA9 BB9
    obtain ⟨⟨p0, p1, p2⟩, _⟩ := BA0.out.threeA
    obtain ⟨⟨q0, q1, q2⟩, _⟩ := BB0.out.threeA
    cases V2 with
    | false =>
      go_wp2
      go_ret
      exact ⟨ret_bool (by rw [HX.out]; rfl), hs0⟩
    | true =>
      go_wp2
      go_ret
      exact ⟨ret_bool (by rw [HX.out]; rfl), hs0⟩
end Go.Proofs.Ytmaagihfjldgeaa
