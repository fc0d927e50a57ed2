/- UsefulStates, the model's and the program's. -/
import Derived.Test.YtmaagihfjldgeaaAuZ
namespace Go.Proofs.Ytmaagihfjldgeaa
set_option maxRecDepth 100000
open Go.ChangeShapes Go.WideShapes Go.ChangeAt Go.RowKit Go.Maps
set_option linter.unusedVariables false
set_option linter.unusedSimpArgs false

def usL (f g : Nat → Bool) (A : Aut) : List Int := if validA A = true then usefulL f g A.ac.length else []
theorem usL_no {f g : Nat → Bool} {A : Aut} (h : validA A = false) : usL f g A = [] := by unfold usL; rw [if_neg (by rw [h]; decide)]
theorem usL_yes {f g : Nat → Bool} {A : Aut} (h : validA A = true) : usL f g A = usefulL f g A.ac.length := by unfold usL; rw [if_pos h]
theorem usL_len (f g : Nat → Bool) (A : Aut) : (usL f g A).length ≤ A.ac.length := by
  cases h : validA A with
  | false => rw [usL_no h]; exact Nat.zero_le _
  | true => rw [usL_yes h]; exact usefulL_len f g _
set_option maxHeartbeats 4000000 in
set_option maxRecDepth 100000 in
theorem implUS_any (v : Value) (A : Aut) (f g : Nat → Bool) (w : World) (h : AutAt w v A) (hm : MxA A) (hf : ∀ s, f s = true ↔ LiveP A s) (hg : ∀ s, g s = true ↔ RchP A s) :
    Calls Try.prog 110 #[v] w (OwnOut w (usL f g A)) := by
  have HVA : Hid (∀ W, Since w W → Calls Try.prog 92 #[v] W fun e w' => e = .returned (.bool (validA A)) ∧ Since W w') := fun W hW => implVA_any v A W (h.since hW) hm
  have HLV : Hid (∀ W, Since w W → ValidA A → Calls Try.prog 107 #[v] W (BoOut W (boL f A.ac.length))) := fun W hW hv => implLive_any v A f W (h.since hW) hv hf
  have HMC : Hid (∀ W u, Since w W → BosAt W u (boL f A.ac.length) → Calls Try.prog 106 #[v, u] W (MchOut A f W)) := fun W u hW hu => liveM_any v u A f W (h.since hW) hu
  have HF := Lib.hid hf
  have HG := Lib.hid hg
  obtain ⟨a, b, rfl, _, ha, hb⟩ := h
  obtain ⟨ao, ca, rfl⟩ := ha.len
  obtain ⟨bo, cb, rfl⟩ := hb.len
  clear ha hb hm hf hg
  obtain ⟨n, hn⟩ : ∃ n, n = A.ac.length := ⟨_, rfl⟩
  obtain ⟨m, hm⟩ : ∃ n, n = A.nx.length := ⟨_, rfl⟩
  rw [← hn, ← hm] at HVA HLV HMC ⊢
  have HN := Lib.hid hn
  clear hn hm
  obtain ⟨y, hy⟩ : ∃ y, y = w.alloc (.cells #[.int .i64 A.st, .slice ao n ca, .slice bo m cb] 39) := ⟨_, rfl⟩
  have hs0 : Since w y := by rw [hy]; exact (Since.refl w).alloc _
  have B0 : Hid (Blk y w.heap.size 39 #[.int .i64 A.st, .slice ao n ca, .slice bo m cb]) := by rw [hy]; exact Blk.new rfl _ _
  have HY := Lib.hid hy
  clear hy
  cases e : validA A with
  | false =>
    have HB := Lib.hid e
    have HE := Lib.hid (usL_no (f := f) (g := g) e)
    clear e
    go_enter Try.func110, Try.ntmps110
    go_wp2_with fail
    rw [← HY.out]
    refine (HVA.out _ hs0).mono ?_
    rintro e w1 ⟨rfl, hs1⟩
    rw [HB.out]
    have hs01 := hs0.trans hs1
    go_wp2
    go_ret
    rw [HE.out]
    exact ⟨_, rfl, ⟨fun x hx => by simp at hx, World.ownsRow_nil _ _ _ _⟩, hs01⟩
  | true =>
    have HB := Lib.hid e
    have HV : Hid (ValidA A) := (validA_iff A).1 e
    have HE := Lib.hid (usL_yes (f := f) (g := g) e)
    have hn12 : n ≤ 1000 := by rw [HN.out]; exact HV.out.1
    have hst := HV.out.2.2.1
    rw [← HN.out] at hst
    have hn1 : 1 ≤ n := by omega
    obtain ⟨fs, hfs, hfsI, hs0in, hcl⟩ := numN_all (found_rch HV.out (f := f)) A.st ⟨HV.out.2.2.1, LeastP.base (by rw [startL_at (by have := HV.out.2.2.1; omega)]; simp)⟩
    rw [← HN.out] at hfs
    have HUS : Hid (∀ s, s < n → (decide ((s : Int) ∈ fs) && f s) = (g s && f s)) := fun s hs => useful_iff HV.out HF.out HG.out hs0in (fun x hx => (hfsI.2 x hx).1) hcl (fun x hx => (hfsI.2 x hx).2) s (by rw [← HN.out]; exact hs)
    have HFS := Lib.hid hfs
    have HSI : Hid (InA A A.st) := HV.out.2.2.1
    have hQ : Hid (∀ s x k, k < 9 → InA A s → stepF A f s k = some x → InA A x) := fun s x k hk hs hx => (numH_live HV.out f (Nat.le_refl _)).step s k x hk hs hx
    have hQi : Hid (∀ s, InA A s → InI s) := fun s hs => by have := HV.out.1; unfold InA at hs; unfold InI; omega
    clear e hfs hfsI hs0in hcl hst
    go_enter Try.func110, Try.ntmps110
    go_wp2_with fail
    rw [← HY.out]
    refine (HVA.out _ hs0).mono ?_
    rintro e w1 ⟨rfl, hs1⟩
    rw [HB.out]
    have hs01 := hs0.trans hs1
    have B1 := Lib.hid (B0.out.since hs1)
    clear B0
    obtain ⟨⟨p0, p1, p2⟩, _⟩ := B1.out.threeA
    go_wp2_with fail
    refine (HLV.out _ hs01 HV.out).mono ?_
    rintro e w2 ⟨v2, rfl, ho2, hs2⟩
    have hs02 := hs01.trans hs2
    have B2 := Lib.hid (B1.out.since hs2)
    obtain ⟨lo, lc, rfl⟩ := ho2.len
    rw [boL_length] at ho2
    rw [boL_length]
    have HL2 := Lib.hid ho2.at
    clear B1 p0 p1 p2 ho2
    obtain ⟨⟨p0, p1, p2⟩, _⟩ := B2.out.threeA
    go_wp2_with fail
    refine (HMC.out _ _ hs02 (by have := HL2.out; exact this)).mono ?_
    rintro e w3 ⟨BA, BL, rfl, hBA, hBL, hM, hs3⟩
    have HM := Lib.hid hM
    have hs03 := hs02.trans hs3
    have B3 := Lib.hid (B2.out.since hs3)
    have HL3 := Lib.hid (HL2.out.since hs3)
    clear B2 p0 p1 p2 hM HL2
    go_wp2_with fail
    refine (numbersI_any _ BA BL (stepF A f) (InA A) hQ.out hQi.out A.st HSI.out n hn1 (by omega) _ (fun s k W hW hs hk => nextF_any A f BA BL HV.out s k hs hk W (HM.out.since hW))).mono ?_
    rw [HFS.out]
    rintro e w4 ⟨hs4, mb, mn, D, rfl, hmb, hmap, hD, hmn⟩
    have hs04 := hs03.trans hs4
    have HMP := Lib.hid hmap
    have HD := Lib.hid hD
    have HL4 := Lib.hid (HL3.out.since hs4)
    clear hmap hD HL3
    go_wp2
    go_loopw [6, 26] (fun q i wr => ∃ k : Nat, k ≤ n ∧ i = .int .i64 k ∧ Hid (Own w4.heap.size wr q (usefulL f g k)) ∧ Hid (Since w4 wr)) (fun _ i _ => n - (intOf i).toNat)
    case atStart => exact ⟨0, Nat.zero_le _, rfl, ⟨fun x hx => by simp [usefulL] at hx, World.ownsRow_nil _ _ _ _⟩, Since.refl _⟩
    case round =>
      rename_i q i
      obtain ⟨k, hk, rfl, HO, HS⟩ := hrel
      by_cases hlt : k < n
      · have hki : (k : Int) < (n : Int) := by omega
        have hk0 : (0 : Int) ≤ (k : Int) := by omega
        have hus := HUS.out k hlt
        obtain ⟨b1, off1, rfl, hb1, d1⟩ := boL_cells HL4.out k hlt
        have d2 : wr.cell? ⟨b1, off1 + k, none⟩ = some (.bool (f k)) := (Below.cell HS.out (p := ⟨b1, off1 + k, none⟩) hb1).trans d1
        have hmr := Since.keptMap HMP.out HS.out
        have hkx := keyOf_int_mk (k := 3) Try.underlying3 (wf_in (x := (k : Int)) (by unfold InI; omega))
        have hkin : InI (k : Int) := by unfold InI; omega
        have hlen := usefulL_len f g k
        have hlen4 : (usefulL f g k).length ≤ 4194304 := by omega
        clear d1
        by_cases hin : (k : Int) ∈ fs
        · have hh : Maps.has D (KY (k : Int)) = true := by rw [HD.out.has]; simpa using hin
          rw [decide_eq_true hin] at hus
          cases hfk : f k with
          | true =>
            rw [hfk] at hus d2
            have HU : Hid (usefulL f g (k + 1) = usefulL f g k ++ [(k : Int)]) := by
              unfold Hid; rw [usefulL_step, hfk, if_pos (by simpa using hus.symm)]
            clear hus hfk hin
            go_wp2_with (first
              | (at_lookup; refine wpList_lookup_own_ok_int _ rfl (.tmp 30) (.tmp 31) 159 rfl 3 3 .i64 lawI Try.underlying159 Try.underlying3 (zeroI _) mb mn D rfl hmr (.int .i64 (k : Int)) (KY (k : Int)) rfl hkx ?_; intro c hat hwc; rw [hh])
              | (at_builtin; go_must (refine wpList_append_int rfl (.tmp 42) (.tmp 44) rfl _ (usefulL f g k) (by first | rfl | simp [Act.eval]) HO.out (k : Int) (by first | rfl | simp [Act.eval]) hkin hlen4 HS.out ?_); intro v5 w5 ho5 hs5; rw [← HU.out] at ho5; have HO5 := Lib.hid ho5; clear ho5))
            go_roundw
            case rel => exact ⟨k + 1, by omega, by go_num, HO5.out, hs5⟩
            case measure => simp [intOf]; omega
          | false =>
            rw [hfk] at hus d2
            have HU : Hid (usefulL f g (k + 1) = usefulL f g k) := by
              unfold Hid; rw [usefulL_step, hfk]; simp
            clear hus hfk hin
            go_wp2_with (at_lookup; refine wpList_lookup_own_ok_int _ rfl (.tmp 30) (.tmp 31) 159 rfl 3 3 .i64 lawI Try.underlying159 Try.underlying3 (zeroI _) mb mn D rfl hmr (.int .i64 (k : Int)) (KY (k : Int)) rfl hkx ?_; intro c hat hwc; rw [hh])
            go_roundw
            case rel => exact ⟨k + 1, by omega, by go_num, by rw [HU.out]; exact HO.out, HS.out⟩
            case measure => simp [intOf]; omega
        · have hh : Maps.has D (KY (k : Int)) = false := by rw [HD.out.has]; simpa using hin
          rw [decide_eq_false hin, Bool.false_and] at hus
          have HU : Hid (usefulL f g (k + 1) = usefulL f g k) := by
            unfold Hid; rw [usefulL_step, if_neg (by rw [← hus]; decide)]; simp
          clear hus hin
          go_wp2_with (at_lookup; refine wpList_lookup_own_ok_int _ rfl (.tmp 30) (.tmp 31) 159 rfl 3 3 .i64 lawI Try.underlying159 Try.underlying3 (zeroI _) mb mn D rfl hmr (.int .i64 (k : Int)) (KY (k : Int)) rfl hkx ?_; intro c hat hwc; rw [hh])
          go_roundw
          case rel => exact ⟨k + 1, by omega, by go_num, by rw [HU.out]; exact HO.out, HS.out⟩
          case measure => simp [intOf]; omega
      · obtain rfl : k = n := by omega
        have HEE : Hid (usL f g A = usefulL f g k) := by rw [HE.out, ← HN.out]; rfl
        have hz4 := hs04.size
        go_wp2
        go_ret
        rw [HEE.out]
        exact ⟨_, rfl, HO.out.mono hz4, hs04.trans HS.out⟩
set_option maxHeartbeats 4000000 in
set_option maxRecDepth 100000 in
theorem specUS_any (v : Value) (A : Aut) (f g : Nat → Bool) (w : World) (h : AutAt w v A) (hm : MxA A) (hf : ∀ s, f s = true ↔ LiveP A s) (hg : ∀ s, g s = true ↔ RchP A s) :
    Calls Try.prog 131 #[v] w (OwnOut w (usL f g A)) := by
  have HVA : Hid (∀ W, Since w W → Calls Try.prog 34 #[v] W fun e w' => e = .returned (.bool (validA A)) ∧ Since W w') := fun W hW => specVA_any v A W (h.since hW) hm
  have HLV : Hid (∀ W, Since w W → ValidA A → Calls Try.prog 109 #[v] W (BoOut W (boL f A.ac.length))) := fun W hW hv => specLive_any v A f W (h.since hW) hv hf
  have HRC : Hid (∀ W, Since w W → ValidA A → Calls Try.prog 171 #[v] W (BoOut W (boL g A.ac.length))) := fun W hW hv => specReach_any v A g W (h.since hW) hv hg
  obtain ⟨a, b, rfl, _, ha, hb⟩ := h
  obtain ⟨ao, ca, rfl⟩ := ha.len
  obtain ⟨bo, cb, rfl⟩ := hb.len
  clear ha hb hf hg
  have hm1 := hm.1
  unfold maxLen at hm1
  obtain ⟨n, hn⟩ : ∃ n, n = A.ac.length := ⟨_, rfl⟩
  obtain ⟨m, hmm⟩ : ∃ n, n = A.nx.length := ⟨_, rfl⟩
  rw [← hn, ← hmm] at HVA HLV HRC ⊢
  rw [← hn] at hm1
  have HN := Lib.hid hn
  clear hn hmm hm
  obtain ⟨y, hy⟩ : ∃ y, y = ((w.alloc (.cells #[.int .i64 A.st, .slice ao n ca, .slice bo m cb] 39)).alloc (.cells #[] 3)) := ⟨_, rfl⟩
  have hs0 : Since w y := by rw [hy]; exact ((Since.refl w).alloc _).alloc _
  have B0 : Hid (Blk y w.heap.size 39 #[.int .i64 A.st, .slice ao n ca, .slice bo m cb]) := by rw [hy]; exact (Blk.new rfl _ _).alloc _
  have HL0 : Hid (Own (w.heap.size + 1) y (.slice (some ⟨w.heap.size + 1, 0, none⟩) 0 0) []) := by
    have h1 := own_lit (w.alloc (.cells #[.int .i64 A.st, .slice ao n ca, .slice bo m cb] 39)) _ (Since.refl _) (w.heap.size + 1) (by simp)
    rw [hy]; unfold Hid; simpa using h1
  obtain ⟨⟨p0, p1, p2⟩, _⟩ := B0.out.threeA
  rw [hy] at p0 p1 p2
  have HY := Lib.hid hy
  clear hy
  cases e : validA A with
  | false =>
    have HB := Lib.hid e
    have HE := Lib.hid (usL_no (f := f) (g := g) e)
    clear e
    go_enter Try.func131, Try.ntmps131
    go_wp2_with fail
    rw [← HY.out]
    refine (HVA.out _ hs0).mono ?_
    rintro e w1 ⟨rfl, hs1⟩
    rw [HB.out]
    have hs01 := hs0.trans hs1
    have HO1 := Lib.hid (HL0.out.since hs1)
    go_wp2
    go_ret
    rw [HE.out]
    exact ⟨_, rfl, HO1.out.mono (Nat.le_succ _), hs01⟩
  | true =>
    have HB := Lib.hid e
    have HV : Hid (ValidA A) := (validA_iff A).1 e
    have HE := Lib.hid (usL_yes (f := f) (g := g) e)
    have hn12 : n ≤ 1000 := by rw [HN.out]; exact HV.out.1
    clear e
    go_enter Try.func131, Try.ntmps131
    go_wp2_with fail
    rw [← HY.out]
    refine (HVA.out _ hs0).mono ?_
    rintro e w1 ⟨rfl, hs1⟩
    rw [HB.out]
    have hs01 := hs0.trans hs1
    have B1 := Lib.hid (B0.out.since hs1)
    have O1 := Lib.hid (HL0.out.since hs1)
    clear B0 HL0 p0 p1 p2
    obtain ⟨⟨p0, p1, p2⟩, _⟩ := B1.out.threeA
    go_wp2_with fail
    refine (HRC.out _ hs01 HV.out).mono ?_
    rintro e w2 ⟨v2, rfl, ho2, hs2⟩
    have hs02 := hs01.trans hs2
    have B2 := Lib.hid (B1.out.since hs2)
    have O2 := Lib.hid (O1.out.since hs2)
    obtain ⟨ro, rc, rfl⟩ := ho2.len
    rw [boL_length] at ho2
    rw [boL_length]
    have HR2 := Lib.hid ho2
    clear B1 O1 p0 p1 p2 ho2
    obtain ⟨⟨p0, p1, p2⟩, _⟩ := B2.out.threeA
    go_wp2_with fail
    refine (HLV.out _ hs02 HV.out).mono ?_
    rintro e w3 ⟨v3, rfl, ho3, hs3⟩
    have hs03 := hs02.trans hs3
    have B3 := Lib.hid (B2.out.since hs3)
    have O3 := Lib.hid (O2.out.since hs3)
    obtain ⟨lo, lc, rfl⟩ := ho3.len
    rw [boL_length] at ho3
    rw [boL_length]
    have HL3 := Lib.hid ho3
    have HR3 := Lib.hid (HR2.out.since hs3)
    clear B2 O2 HR2 p0 p1 p2 ho3
    go_wp2
    go_loopw [3, 6] (fun q i wr => ∃ (k : Nat) (v1 : Value), k ≤ n ∧ i = .int .i64 k ∧ v1 = q ∧ Hid (Own (w.heap.size + 1) wr v1 (usefulL f g k)) ∧ Hid (Since w wr) ∧ Hid (Blk wr w.heap.size 39 #[.int .i64 A.st, .slice ao n ca, .slice bo m cb]) ∧ Hid (OwnBo w1.heap.size wr (.slice ro n rc) (boL g n)) ∧ Hid (OwnBo w2.heap.size wr (.slice lo n lc) (boL f n))) (fun _ i _ => n - (intOf i).toNat)
    case atStart => exact ⟨0, _, Nat.zero_le _, rfl, rfl, O3.out, hs03, B3.out, HR3.out, HL3.out⟩
    case round =>
      obtain ⟨k, v1, hk, rfl, rfl, HO, HS, HBx, HRr, HLr⟩ := hrel
      obtain ⟨⟨p0, p1, p2⟩, _⟩ := HBx.out.threeA
      by_cases hlt : k < n
      · have hki : (k : Int) < (n : Int) := by omega
        have hk0 : (0 : Int) ≤ (k : Int) := by omega
        obtain ⟨b1, off1, rfl, hb1, d1⟩ := boL_cells HRr.out.at k hlt
        obtain ⟨b2, off2, rfl, hb2, d2⟩ := boL_cells HLr.out.at k hlt
        have hkin : InI (k : Int) := by unfold InI; omega
        have hlen := usefulL_len f g k
        have hlen4 : (usefulL f g k).length ≤ 4194304 := by omega
        cases hgk : g k with
        | false =>
          rw [hgk] at d1
          have HU : Hid (usefulL f g (k + 1) = usefulL f g k) := by
            unfold Hid; rw [usefulL_step, hgk]; simp
          clear hgk
          go_wp2
          go_roundw
          case rel => exact ⟨k + 1, v1, by omega, by go_num, rfl, by rw [HU.out]; exact HO.out, HS.out, HBx.out, HRr.out, HLr.out⟩
          case measure => simp [intOf]; omega
        | true =>
          rw [hgk] at d1
          cases hfk : f k with
          | false =>
            rw [hfk] at d2
            have HU : Hid (usefulL f g (k + 1) = usefulL f g k) := by
              unfold Hid; rw [usefulL_step, hfk]; simp
            clear hgk hfk
            go_wp2
            go_roundw
            case rel => exact ⟨k + 1, v1, by omega, by go_num, rfl, by rw [HU.out]; exact HO.out, HS.out, HBx.out, HRr.out, HLr.out⟩
            case measure => simp [intOf]; omega
          | true =>
            rw [hfk] at d2
            have HU : Hid (usefulL f g (k + 1) = usefulL f g k ++ [(k : Int)]) := by
              unfold Hid; rw [usefulL_step, hgk, hfk]; rfl
            have hbz : w.heap.size + 1 ≤ wr.heap.size := by have := HBx.out.lt; omega
            have hOT : OwnNt 3 (w.heap.size + 1) wr v1 (usefulL f g k) := HO.out
            clear hgk hfk
            go_wp2_with (at_builtin; go_must (refine wpList_append_T rfl (.tmp 33) (.tmp 35) 24 3 rfl Try.underlying24 infoI (w.heap.size + 1) v1 (usefulL f g k) (by first | rfl | simp [Act.eval]) hOT (k : Int) (by first | rfl | simp [Act.eval]) hkin hlen4 hbz ?_); intro v5 w5 ho5 hg5; rw [← HU.out] at ho5)
            have HO5 : Hid (Own (w.heap.size + 1) w5 v5 (usefulL f g (k + 1))) := ho5
            have HS5 : Hid (Since w w5) := HS.out.grown hg5 (fun j hj => by have := (HO.out.2.lt j hj).1; omega)
            have HB5 : Hid (Blk w5 w.heap.size 39 #[.int .i64 A.st, .slice ao n ca, .slice bo m cb]) := (hg5.block _ HBx.out.lt (by intro e; have := (HO.out.2.lt _ e.symm).1; omega)).trans HBx.out
            have HR5 : Hid (OwnBo w1.heap.size w5 (.slice (some ⟨b1, off1, none⟩) n rc) (boL g n)) := by
              have h := HRr.out
              exact h.kept hg5 (apart_types h HO.out.2 (by decide))
            have HL5 : Hid (OwnBo w2.heap.size w5 (.slice (some ⟨b2, off2, none⟩) n lc) (boL f n)) := by
              have h := HLr.out
              exact h.kept hg5 (apart_types h HO.out.2 (by decide))
            clear ho5 hg5 hOT
            go_roundw
            case rel => exact ⟨k + 1, v5, by omega, by go_num, rfl, HO5.out, HS5.out, HB5.out, HR5.out, HL5.out⟩
            case measure => simp [intOf]; omega
      · obtain rfl : k = n := by omega
        have HEE : Hid (usL f g A = usefulL f g k) := by rw [HE.out, ← HN.out]; rfl
        go_wp2
        go_ret
        rw [HEE.out]
        exact ⟨_, rfl, HO.out.mono (Nat.le_succ _), HS.out⟩
end Go.Proofs.Ytmaagihfjldgeaa
