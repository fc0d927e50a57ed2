/- DistinguishingWord, MissingWord, IncludesLanguage and AreEquivalent, the model's and the program's. -/
import Derived.Test.YtmaagihfjldgeaaLwG
import Derived.Test.YtmaagihfjldgeaaLwT
import Derived.Test.YtmaagihfjldgeaaPmP
import Derived.Test.YtmaagihfjldgeaaIbo
import Derived.Test.YtmaagihfjldgeaaMsM
import Derived.Test.YtmaagihfjldgeaaA2
import Derived.Test.YtmaagihfjldgeaaK1
namespace Go.Proofs.Ytmaagihfjldgeaa
set_option maxRecDepth 100000
open Go.ChangeShapes Go.WideShapes Go.ChangeAt Go.RowKit Go.Maps
set_option linter.unusedVariables false
set_option linter.unusedSimpArgs false

theorem dwA_yes {A : Aut} {s t : Int} (h : dwOk A s t = true) : dwA A s t = dwR A s t := by unfold dwA; rw [if_pos h]
theorem dwA_no {A : Aut} {s t : Int} (h : dwOk A s t = false) : dwA A s t = none := by unfold dwA; rw [if_neg (by rw [h]; decide)]
set_option maxHeartbeats 2000000 in
set_option maxRecDepth 100000 in
theorem specDG_any (v : Value) (A : Aut) (s t : Int) (w : World) (h : AutAt w v A) (hm : MxA A) :
    Calls Try.prog 31 #[v, .int .i64 s, .int .i64 t] w (IBOut w ((dwA A s t).getD []) (dwA A s t).isSome) := by
  have HVA : Hid (∀ W, Since w W → Calls Try.prog 34 #[v] W fun e w' => e = .returned (.bool (validA A)) ∧ Since W w') := fun W hW => specVA_any v A W (h.since hW) hm
  have HDF : Hid (∀ W, Since w W → dwOk A s t = true → Calls Try.prog 98 #[v, .int .i64 s, v, .int .i64 t, .bool false] W (WdOut W (dwR A s t))) := fun W hW hok => by
    obtain ⟨h1, h2, h3⟩ := dwOk_in hok
    exact differ_any v v A A s t false _ W (h.since hW) (h.since hW) h1 h1 h2 h3 (dwR_spec h1 h2 h3)
  have hmx := hm.1
  obtain ⟨a, b, rfl, _, ha, hb⟩ := h
  obtain ⟨ao, ca, rfl⟩ := ha.len
  obtain ⟨bo, cb, rfl⟩ := hb.len
  clear ha hb hm
  obtain ⟨V, hV⟩ : ∃ b, b = validA A := ⟨_, rfl⟩
  obtain ⟨S, hS⟩ : ∃ b, b = inB s 0 ((A.ac.length : Int) - 1) := ⟨_, rfl⟩
  obtain ⟨T, hT⟩ : ∃ b, b = inB t 0 ((A.ac.length : Int) - 1) := ⟨_, rfl⟩
  have HOK : Hid (dwOk A s t = (V && S && T)) := by
    unfold Hid dwOk
    rw [hV, hS, hT]
    congr 1
    · congr 1
      unfold inB; exact decide_eq_decide.2 ⟨fun h => by omega, fun h => by omega⟩
    · unfold inB; exact decide_eq_decide.2 ⟨fun h => by omega, fun h => by omega⟩
  rw [← hV] at HVA
  have HS := Lib.hid hS
  have HT := Lib.hid hT
  obtain ⟨R, hR⟩ : ∃ R, R = dwA A s t := ⟨_, rfl⟩
  rw [← hR]
  have HRN : Hid (dwOk A s t = false → R = none) := fun h => by rw [hR]; exact dwA_no h
  have HDR : Hid (∀ W, Since w W → dwOk A s t = true → Calls Try.prog 98 #[.agg #[.int .i64 A.st, .slice ao A.ac.length ca, .slice bo A.nx.length cb], .int .i64 s, .agg #[.int .i64 A.st, .slice ao A.ac.length ca, .slice bo A.nx.length cb], .int .i64 t, .bool false] W (WdOut W R)) := fun W hW hok => by
    rw [hR, dwA_yes hok]; exact HDF.out W hW hok
  obtain ⟨n, hn⟩ : ∃ n, n = A.ac.length := ⟨_, rfl⟩
  obtain ⟨m, hmm⟩ : ∃ n, n = A.nx.length := ⟨_, rfl⟩
  rw [← hn, ← hmm] at HVA HDR ⊢
  rw [← hn] at HS HT hmx
  have hw1 : IntKind.i64.wrap ((n : Int) - 1) = (n : Int) - 1 := by rw [IntKind.wrap_i64]; unfold maxLen at hmx; omega
  clear hn hmm hV hS hT hR HDF
  obtain ⟨y, hy⟩ : ∃ y, y = w.alloc (.cells #[.int .i64 A.st, .slice ao n ca, .slice bo m cb] 39) := ⟨_, rfl⟩
  have hs0 : Since w y := by rw [hy]; exact (Since.refl w).alloc _
  have B0 : Hid (Blk y w.heap.size 39 #[.int .i64 A.st, .slice ao n ca, .slice bo m cb]) := by rw [hy]; exact Blk.new rfl _ _
  have HY := Lib.hid hy
  clear hy
  go_enter Try.func31, Try.ntmps31
  go_upto_region 1 with fail
  rw [← HY.out]
  obtain ⟨⟨p0, p1, p2⟩, _⟩ := B0.out.threeA
  go_wp2_with fail
  refine (HVA.out _ hs0).mono ?_
  rintro e w1 ⟨rfl, hs1⟩
  have HS1 := Lib.hid (hs0.trans hs1)
  have B1 := Lib.hid (B0.out.since hs1)
  clear p0 p1 p2
  obtain ⟨⟨p0, p1, p2⟩, _⟩ := B1.out.threeA
  cases V with
  | false =>
    have HF : Hid (R = none) := HRN.out (by rw [HOK.out]; rfl)
    have HOL := Lib.hid (own_lit w w1 HS1.out w1.heap.size rfl)
    have hsl := HS1.out.alloc (.cells #[] 3)
    go_wp2
    go_ret2
    rw [HF.out]
    exact ⟨_, rfl, HOL.out, hsl⟩
  | true =>
    go_wp2_with fail
    refine (l1In_any s 0 ((n : Int) - 1) _).mono ?_
    rintro e w2 ⟨rfl, rfl⟩
    rw [← HS.out]
    cases S with
    | false =>
      have HF : Hid (R = none) := HRN.out (by rw [HOK.out]; rfl)
      have HOL := Lib.hid (own_lit w w1 HS1.out w1.heap.size rfl)
      have hsl := HS1.out.alloc (.cells #[] 3)
      go_wp2
      go_ret2
      rw [HF.out]
      exact ⟨_, rfl, HOL.out, hsl⟩
    | true =>
      go_wp2_with fail
      refine (l1In_any t 0 ((n : Int) - 1) _).mono ?_
      rintro e w3 ⟨rfl, rfl⟩
      rw [← HT.out]
      cases T with
      | false =>
        have HF : Hid (R = none) := HRN.out (by rw [HOK.out]; rfl)
        have HOL := Lib.hid (own_lit w w1 HS1.out w1.heap.size rfl)
        have hsl := HS1.out.alloc (.cells #[] 3)
        go_wp2
        go_ret2
        rw [HF.out]
        exact ⟨_, rfl, HOL.out, hsl⟩
      | true =>
        go_wp2_with fail
        refine (HDR.out _ HS1.out (by rw [HOK.out]; rfl)).mono ?_
        rintro e w4 ⟨u, rfl, hou, hs4⟩
        have HOU := Lib.hid (hou.mono HS1.out.size)
        have hs5 := HS1.out.trans hs4
        clear hou
        go_wp2
        go_ret2
        exact ⟨u, rfl, HOU.out, hs5⟩

theorem inQ_inJ {A : Aut} (hv : ValidA A) {s : Int} (h : InQ A s) : InI s := by
  have := hv.1
  unfold InQ at h
  unfold InI; omega
theorem lwOne_any (A : Aut) (s t : Int) (BF BA BB : Nat) (W : World) (hv : ValidA A) (hs : 0 ≤ s ∧ s < (A.ac.length : Int)) (ht : 0 ≤ t ∧ t < (A.ac.length : Int)) (h : PmB ⟨s, A.ac, A.nx⟩ ⟨t, A.ac, A.nx⟩ (.func (.func 96) #[] #[]) BF BA BB W) : Calls Try.prog 97 #[mchP s t BF BA BB] W (WdOut W (dwR A s t)) := by
  have ha : ValidA ⟨s, A.ac, A.nx⟩ := ⟨hv.1, hv.2.1, hs, hv.2.2.2⟩
  have hb : ValidA ⟨t, A.ac, A.nx⟩ := ⟨hv.1, hv.2.1, ht, hv.2.2.2⟩
  have hqs : InQ A s := ⟨by omega, hs.2⟩
  have hqt : InQ A t := ⟨by omega, ht.2⟩
  exact lwordP_any ⟨s, A.ac, A.nx⟩ ⟨t, A.ac, A.nx⟩ (accQ A) BF BA BB s t _ W ha hb hqs hqt (fun a b W' h1 h2 h3 => accOne_any _ _ BF BA BB a b h1 h2 W' (h.since h3)) (fun a b k W' h0 h1 h2 h3 => nextP_any _ _ _ BF BA BB a b k h0 ha hb h1 h2 W' (h.since h3)) (dwR_impl2 hv hqs hqt)
set_option maxRecDepth 100000 in
theorem startAt_any (A : Aut) (s : Int) (ao bo : Option Addr) (n m ca cb : Nat) (w : World) :
    Calls Try.prog 95 #[.agg #[.int .i64 A.st, .slice ao n ca, .slice bo m cb], .int .i64 s] w fun e w' => e = .returned (.agg #[.int .i64 s, .slice ao n ca, .slice bo m cb]) ∧ Since w w' := by
  obtain ⟨y, hy⟩ : ∃ y, y = (w.alloc (.cells #[.int .i64 A.st, .slice ao n ca, .slice bo m cb] 39)).alloc (.cells #[.int .i64 0, .slice none 0 0, .slice none 0 0] 39) := ⟨_, rfl⟩
  have hs0 : Since w y := by rw [hy]; exact ((Since.refl w).alloc _).alloc _
  have B0 : Hid (Blk y w.heap.size 39 #[.int .i64 A.st, .slice ao n ca, .slice bo m cb]) := by rw [hy]; exact (Blk.new rfl _ _).alloc _
  have B1 : Hid (Blk y (w.heap.size + 1) 39 #[.int .i64 0, .slice none 0 0, .slice none 0 0]) := by rw [hy]; exact Blk.new (by simp) _ _
  have HY := Lib.hid hy
  clear hy
  go_enter Try.func95, Try.ntmps95
  go_upto_region 1 with fail
  rw [← HY.out]
  obtain ⟨⟨p0, p1, p2⟩, p3, p4, p5⟩ := B0.out.threeA
  go_upto_region 2 with fail
  obtain ⟨w1, hw1⟩ : ∃ q, q = y.setCell ⟨w.heap.size, 0, none⟩ (.int .i64 s) := ⟨_, rfl⟩
  have BC : Hid (Blk w1 w.heap.size 39 #[.int .i64 s, .slice ao n ca, .slice bo m cb]) := by rw [hw1]; exact B0.out.set 0 _
  have BD : Hid (Blk w1 (w.heap.size + 1) 39 #[.int .i64 0, .slice none 0 0, .slice none 0 0]) := by rw [hw1]; exact B1.out.far (by simp) _
  have hs1 : Since w w1 := by rw [hw1]; exact hs0.setCell (Nat.le_refl _) _
  rw [← hw1]
  clear hw1 p0 p1 p2 p3 p4 p5
  obtain ⟨⟨p0, p1, p2⟩, _⟩ := BC.out.threeA
  obtain ⟨⟨r0, r1, r2⟩, r3, r4, r5⟩ := BD.out.threeA
  go_wp2
  refine bodyPost_ret (v := .agg #[.int .i64 s, .slice ao n ca, .slice bo m cb]) (by simp [results, Try.results95, go_sem, *]) rfl ?_
  refine ⟨rfl, ?_⟩
  iterate 3 (with_reducible refine Since.setCell ?_ (by simp <;> omega) _)
  exact hs1
set_option maxHeartbeats 2000000 in
set_option maxRecDepth 100000 in
theorem implDG_any (v : Value) (A : Aut) (s t : Int) (w : World) (h : AutAt w v A) (hm : MxA A) :
    Calls Try.prog 30 #[v, .int .i64 s, .int .i64 t] w (IBOut w ((dwA A s t).getD []) (dwA A s t).isSome) := by
  have HVA : Hid (∀ W, Since w W → Calls Try.prog 92 #[v] W fun e w' => e = .returned (.bool (validA A)) ∧ Since W w') := fun W hW => implVA_any v A W (h.since hW) hm
  have HST : Hid (∀ (x : Int) W, Since w W → Calls Try.prog 93 #[v, .int .i64 x] W fun e w' => e = .returned (.bool (stB A.ac.length x)) ∧ Since W w') := fun x W hW => isState_any v A x W (h.since hW) hm.1
  have HLW : Hid (∀ BF BA BB W, dwOk A s t = true → PmB ⟨s, A.ac, A.nx⟩ ⟨t, A.ac, A.nx⟩ (.func (.func 96) #[] #[]) BF BA BB W → Calls Try.prog 97 #[mchP s t BF BA BB] W (WdOut W (dwR A s t))) := fun BF BA BB W hok hd => by
    have h1 := (dwOk_in hok).1
    unfold dwOk at hok
    simp only [Bool.and_eq_true, decide_eq_true_eq] at hok
    exact lwOne_any A s t BF BA BB W h1 hok.1.2 hok.2 hd
  obtain ⟨a, b, rfl, h9, ha, hb⟩ := h
  obtain ⟨ao, ca, rfl⟩ := ha.len
  obtain ⟨bo, cb, rfl⟩ := hb.len
  have HPM : Hid (∀ W, Since w W → dwOk A s t = true → Calls Try.prog 94 #[.agg #[.int .i64 s, .slice ao A.ac.length ca, .slice bo A.nx.length cb], .agg #[.int .i64 t, .slice ao A.ac.length ca, .slice bo A.nx.length cb], (.func (.func 96) #[] #[])] W fun e w' => ∃ BF BA BB, e = .returned (mchP s t BF BA BB) ∧ PmB ⟨s, A.ac, A.nx⟩ ⟨t, A.ac, A.nx⟩ (.func (.func 96) #[] #[]) BF BA BB w' ∧ Since W w') := fun W hW hok => by
    obtain ⟨h1, h3, h5⟩ := dwOk_in hok
    exact pairM_any _ _ _ ⟨s, A.ac, A.nx⟩ ⟨t, A.ac, A.nx⟩ W ⟨_, _, rfl, inQ_inJ h1 h3, ha.since hW, hb.since hW⟩ ⟨_, _, rfl, inQ_inJ h1 h5, ha.since hW, hb.since hW⟩
  have HSA : Hid (∀ (x : Int) W, Calls Try.prog 95 #[.agg #[.int .i64 A.st, .slice ao A.ac.length ca, .slice bo A.nx.length cb], .int .i64 x] W fun e w' => e = .returned (.agg #[.int .i64 x, .slice ao A.ac.length ca, .slice bo A.nx.length cb]) ∧ Since W w') := fun x W => startAt_any A x ao bo _ _ ca cb W
  clear ha hb hm
  obtain ⟨V, hV⟩ : ∃ b, b = validA A := ⟨_, rfl⟩
  obtain ⟨S, hS⟩ : ∃ b, b = stB A.ac.length s := ⟨_, rfl⟩
  obtain ⟨T, hT⟩ : ∃ b, b = stB A.ac.length t := ⟨_, rfl⟩
  have HOK : Hid (dwOk A s t = (V && S && T)) := by
    unfold Hid dwOk
    rw [hV, hS, hT]
    rfl
  rw [← hV] at HVA
  have HSs : Hid (∀ W, Since w W → Calls Try.prog 93 #[.agg #[.int .i64 A.st, .slice ao A.ac.length ca, .slice bo A.nx.length cb], .int .i64 s] W fun e w' => e = .returned (.bool S) ∧ Since W w') := fun W hW => by rw [hS]; exact HST.out s W hW
  have HTt : Hid (∀ W, Since w W → Calls Try.prog 93 #[.agg #[.int .i64 A.st, .slice ao A.ac.length ca, .slice bo A.nx.length cb], .int .i64 t] W fun e w' => e = .returned (.bool T) ∧ Since W w') := fun W hW => by rw [hT]; exact HST.out t W hW
  obtain ⟨R, hR⟩ : ∃ R, R = dwA A s t := ⟨_, rfl⟩
  rw [← hR]
  have HRN : Hid (dwOk A s t = false → R = none) := fun h => by rw [hR]; exact dwA_no h
  obtain ⟨PB, hPB⟩ : ∃ Q : Nat → Nat → Nat → World → Prop, Q = fun BF BA BB W => PmB ⟨s, A.ac, A.nx⟩ ⟨t, A.ac, A.nx⟩ (.func (.func 96) #[] #[]) BF BA BB W := ⟨_, rfl⟩
  have HLR : Hid (∀ BF BA BB W, dwOk A s t = true → PB BF BA BB W → Calls Try.prog 97 #[mchP s t BF BA BB] W (WdOut W R)) := fun BF BA BB W hok hd => by
    rw [hPB] at hd
    rw [hR, dwA_yes hok]; exact HLW.out BF BA BB W hok hd
  have HPM2 : Hid (∀ W, Since w W → dwOk A s t = true → Calls Try.prog 94 #[.agg #[.int .i64 s, .slice ao A.ac.length ca, .slice bo A.nx.length cb], .agg #[.int .i64 t, .slice ao A.ac.length ca, .slice bo A.nx.length cb], (.func (.func 96) #[] #[])] W fun e w' => ∃ BF BA BB, e = .returned (mchP s t BF BA BB) ∧ PB BF BA BB w' ∧ Since W w') := by rw [hPB]; exact HPM.out
  clear HST HPM
  have HPM := HPM2
  clear HPM2
  obtain ⟨n, hn⟩ : ∃ n, n = A.ac.length := ⟨_, rfl⟩
  obtain ⟨m, hmm⟩ : ∃ n, n = A.nx.length := ⟨_, rfl⟩
  rw [← hn, ← hmm] at HVA HSs HTt HPM HSA ⊢
  clear hn hmm hV hS hT hR HLW hPB
  obtain ⟨y, hy⟩ : ∃ y, y = w.alloc (.cells #[.int .i64 A.st, .slice ao n ca, .slice bo m cb] 39) := ⟨_, rfl⟩
  have hs0 : Since w y := by rw [hy]; exact (Since.refl w).alloc _
  have B0 : Hid (Blk y w.heap.size 39 #[.int .i64 A.st, .slice ao n ca, .slice bo m cb]) := by rw [hy]; exact Blk.new rfl _ _
  have HNIL : Hid (∀ W, Own w.heap.size W (.slice none 0 0) []) := fun W => ⟨fun x hx => by simp at hx, World.ownsRow_nil _ _ _ _⟩
  have HY := Lib.hid hy
  clear hy
  go_enter Try.func30, Try.ntmps30
  go_upto_region 1 with fail
  rw [← HY.out]
  obtain ⟨⟨p0, p1, p2⟩, _⟩ := B0.out.threeA
  go_wp2_with fail
  refine (HVA.out _ hs0).mono ?_
  rintro e w1 ⟨rfl, hs1⟩
  have hs01 := hs0.trans hs1
  have B1 := Lib.hid (B0.out.since hs1)
  clear p0 p1 p2 hs1 hs0
  cases V with
  | false =>
    have HF : Hid (R = none) := HRN.out (by rw [HOK.out]; rfl)
    go_wp2
    go_ret2
    rw [HF.out]
    exact ⟨_, rfl, HNIL.out _, hs01⟩
  | true =>
    obtain ⟨⟨p0, p1, p2⟩, _⟩ := B1.out.threeA
    go_wp2_with fail
    refine (HSs.out _ hs01).mono ?_
    rintro e w2 ⟨rfl, hs2⟩
    have hs02 := hs01.trans hs2
    have B2 := Lib.hid (B1.out.since hs2)
    clear p0 p1 p2 hs2 hs01
    cases S with
    | false =>
      have HF : Hid (R = none) := HRN.out (by rw [HOK.out]; rfl)
      go_wp2
      go_ret2
      rw [HF.out]
      exact ⟨_, rfl, HNIL.out _, hs02⟩
    | true =>
      obtain ⟨⟨p0, p1, p2⟩, _⟩ := B2.out.threeA
      go_wp2_with fail
      refine (HTt.out _ hs02).mono ?_
      rintro e w3 ⟨rfl, hs3⟩
      have hs03 := hs02.trans hs3
      have B3 := Lib.hid (B2.out.since hs3)
      clear p0 p1 p2 hs3 hs02
      cases T with
      | false =>
        have HF : Hid (R = none) := HRN.out (by rw [HOK.out]; rfl)
        go_wp2
        go_ret2
        rw [HF.out]
        exact ⟨_, rfl, HNIL.out _, hs03⟩
      | true =>
        go_upto_region 3 with fail
        obtain ⟨y3, hy3⟩ : ∃ q, q = w3 := ⟨_, rfl⟩
        rw [← hy3] at hs03 B3 ⊢
        clear hy3
        have hs0 := hs03
        clear hs03
        have HKC : Hid (∀ w', Since y3 w' → w'.cell? ⟨w.heap.size, 0, none⟩ = some (.int .i64 A.st) ∧ w'.cell? ⟨w.heap.size, 1, none⟩ = some (.slice ao n ca) ∧ w'.cell? ⟨w.heap.size, 2, none⟩ = some (.slice bo m cb)) := by
          intro w' hs
          obtain ⟨⟨r2, r3, r4⟩, _⟩ := (B3.out.since hs).threeA
          exact ⟨r2, r3, r4⟩
        go_wp2_with fail
        refine wp_region_held_drew (S := (fun w' => w'.cell? ⟨w.heap.size, 0, none⟩ = some (.int .i64 A.st) ∧ w'.cell? ⟨w.heap.size, 1, none⟩ = some (.slice ao n ca) ∧ w'.cell? ⟨w.heap.size, 2, none⟩ = some (.slice bo m cb))) (by kernel_rfl) (HKC.out _ (Since.refl _).drew) (fun hHeld => ?_)
        refine take_yes 0 (some 23) (v := ?_) rfl (by kernel_rfl) (by kernel_rfl) (by kernel_rfl) (by kernel_rfl) (fun _ _ _ h => h) (by rfl) (by assumption) ?_ ?_
        rotate_left
        · (intro w' hSw; (try dsimp only at hSw); go_simp; try with_reducible rfl)
        try simp only [Act.put, List.setIfInBounds_toArray, List.set_cons_zero, List.set_cons_succ]
        refine take_yes 1 (some 24) (v := ?_) rfl (by kernel_rfl) (by kernel_rfl) (by kernel_rfl) (by kernel_rfl) (fun _ _ _ h => h) (by rfl) (by assumption) ?_ ?_
        rotate_left
        · (intro w' hSw; (try dsimp only at hSw); go_simp; try with_reducible rfl)
        try simp only [Act.put, List.setIfInBounds_toArray, List.set_cons_zero, List.set_cons_succ]
        refine take_yes 3 (some 26) (v := ?_) rfl (by kernel_rfl) (by kernel_rfl) (by kernel_rfl) (by kernel_rfl) (fun _ _ _ h => h) (by rfl) (by assumption) ?_ ?_
        rotate_left
        · (intro w' hSw; (try dsimp only at hSw); go_simp; try with_reducible rfl)
        try simp only [Act.put, List.setIfInBounds_toArray, List.set_cons_zero, List.set_cons_succ]
        refine take_yes 4 (some 27) (v := ?_) rfl (by kernel_rfl) (by kernel_rfl) (by kernel_rfl) (by kernel_rfl) (fun _ _ _ h => h) (by rfl) (by assumption) ?_ ?_
        rotate_left
        · (intro w' hSw; (try dsimp only at hSw); go_simp; try with_reducible rfl)
        try simp only [Act.put, List.setIfInBounds_toArray, List.set_cons_zero, List.set_cons_succ]
        refine take_run 2 rfl (by kernel_rfl) (by rfl) (fun K hK => ?_)
        go_simp
        refine (HSA.out s _).mono ?_
        rintro en wq2 ⟨rfl, hq⟩
        have hc3 := ((Since.refl y3).drew).trans hq
        refine hK.out _ _ (HKC.out _ hc3) (fun hHeld1 => ?_)
        clear hK K hHeld hq
        try simp only [Act.put, List.setIfInBounds_toArray, List.set_cons_zero, List.set_cons_succ]
        refine take_run 5 rfl (by kernel_rfl) (by rfl) (fun K hK => ?_)
        go_simp
        refine (HSA.out t _).mono ?_
        rintro en wq5 ⟨rfl, hq⟩
        have hc6 := (hc3).trans hq
        refine hK.out _ _ (HKC.out _ hc6) (fun hHeld4 => ?_)
        clear hK K hHeld1 hq
        try simp only [Act.put, List.setIfInBounds_toArray, List.set_cons_zero, List.set_cons_succ]
        refine take_run 6 rfl (by kernel_rfl) (by rfl) (fun K hK => ?_)
        go_simp
        refine (HPM.out _ (hs0.trans (hc6)) (by rw [HOK.out]; rfl)).mono ?_
        rintro en wq8 ⟨BF, BA, BB, rfl, hpm, hq⟩
        have hc9 := (hc6).trans hq
        have HPB := Lib.hid hpm
        clear hpm
        refine hK.out _ _ (HKC.out _ hc9) (fun hHeld7 => ?_)
        clear hK K hHeld4 hq
        try simp only [Act.put, List.setIfInBounds_toArray, List.set_cons_zero, List.set_cons_succ]
        refine take_run 7 rfl (by kernel_rfl) (by rfl) (fun K hK => ?_)
        go_simp
        refine (HLR.out BF BA BB _ (by rw [HOK.out]; rfl) HPB.out).mono ?_
        rintro en wq11 ⟨u, rfl, hou, hq⟩
        have hc12 := (hc9).trans hq
        have HOU := Lib.hid (hou.mono (hs0.trans (hc9)).size)
        clear hou
        refine hK.out _ _ (HKC.out _ hc12) (fun hHeld10 => ?_)
        clear hK K hHeld7 hq
        try simp only [Act.put, List.setIfInBounds_toArray, List.set_cons_zero, List.set_cons_succ]
        refine take_yes 8 (some 31) (v := ?_) rfl (by kernel_rfl) (by kernel_rfl) (by kernel_rfl) (by kernel_rfl) (fun _ _ _ h => h) (by rfl) (by assumption) ?_ ?_
        rotate_left
        · (intro w' hSw; (try dsimp only at hSw); go_simp; try with_reducible rfl)
        try simp only [Act.put, List.setIfInBounds_toArray, List.set_cons_zero, List.set_cons_succ]
        refine take_yes 9 (some 32) (v := ?_) rfl (by kernel_rfl) (by kernel_rfl) (by kernel_rfl) (by kernel_rfl) (fun _ _ _ h => h) (by rfl) (by assumption) ?_ ?_
        rotate_left
        · (intro w' hSw; (try dsimp only at hSw); go_simp; try with_reducible rfl)
        try simp only [Act.put, List.setIfInBounds_toArray, List.set_cons_zero, List.set_cons_succ]
        refine take_yes 10 (some 6) (v := ?_) rfl (by kernel_rfl) (by kernel_rfl) (by kernel_rfl) (by kernel_rfl) (fun _ _ _ h => h) (by rfl) (by assumption) ?_ ?_
        rotate_left
        · (intro w' hSw; (try dsimp only at hSw); go_simp; try with_reducible rfl)
        try simp only [Act.put, List.setIfInBounds_toArray, List.set_cons_zero, List.set_cons_succ]
        refine take_yes 11 (some 7) (v := ?_) rfl (by kernel_rfl) (by kernel_rfl) (by kernel_rfl) (by kernel_rfl) (fun _ _ _ h => h) (by rfl) (by assumption) ?_ ?_
        rotate_left
        · (intro w' hSw; (try dsimp only at hSw); go_simp; try with_reducible rfl)
        try simp only [Act.put, List.setIfInBounds_toArray, List.set_cons_zero, List.set_cons_succ]
        refine wpAnyH_done (by kernel_rfl) ?_ _
        clear hHeld10
        have hcE := hc12
        go_wp2_with fail
        go_ret2
        exact ⟨u, rfl, HOU.out, hs0.trans hcE⟩
end Go.Proofs.Ytmaagihfjldgeaa
