/- IsFiniteLanguage, the program's and the model's. -/
import Derived.Test.YtmaagihfjldgeaaFnI
import Derived.Test.YtmaagihfjldgeaaFnO
import Derived.Test.YtmaagihfjldgeaaK1
namespace Go.Proofs.Ytmaagihfjldgeaa
set_option maxRecDepth 100000
open Go.ChangeShapes Go.WideShapes Go.ChangeAt Go.RowKit Go.Maps
set_option linter.unusedVariables false
set_option linter.unusedSimpArgs false

/-- A useful state that comes back to itself. -/
def LoopP (A : Aut) (f g : Nat → Bool) : Prop := ∃ s, s < A.ac.length ∧ g s = true ∧ f s = true ∧ PlusT A s s
open Classical in
/-- What IsFiniteLanguage answers. -/
noncomputable def finB (A : Aut) (f g : Nat → Bool) : Bool := validA A && !decide (LoopP A f g)
open Classical in
theorem finB_no {A : Aut} {f g : Nat → Bool} (h : validA A = false) : finB A f g = false := by unfold finB; rw [h]; rfl
open Classical in
theorem finB_yes {A : Aut} {f g : Nat → Bool} (h : validA A = true) (hn : ¬ LoopP A f g) : finB A f g = true := by unfold finB; rw [h, decide_eq_false hn]; rfl
open Classical in
theorem finB_loop {A : Aut} {f g : Nat → Bool} (hn : LoopP A f g) : finB A f g = false := by unfold finB; rw [decide_eq_true hn]; simp
set_option maxHeartbeats 4000000 in
set_option maxRecDepth 100000 in
theorem implFI_any (v : Value) (A : Aut) (f g : Nat → Bool) (w : World) (h : AutAt w v A) (hm : MxA A) (hf : ∀ s, f s = true ↔ LiveP A s) (hg : ∀ s, g s = true ↔ RchP A s) :
    Calls Try.prog 70 #[v] w fun e w' => e = .returned (.bool (finB A f g)) ∧ Since w w' := by
  have HVA : Hid (∀ W, Since w W → Calls Try.prog 92 #[v] W fun e w' => e = .returned (.bool (validA A)) ∧ Since W w') := fun W hW => implVA_any v A W (h.since hW) hm
  have HTA : Hid (∀ W, Since w W → Calls Try.prog 133 #[v] W (AOut W (trimA A f))) := fun W hW => implTA_any v A f W (h.since hW) hm hf
  have HF := Lib.hid hf
  have HG := Lib.hid hg
  obtain ⟨a, b, rfl, _, ha, hb⟩ := h
  obtain ⟨ao, ca, rfl⟩ := ha.len
  obtain ⟨bo, cb, rfl⟩ := hb.len
  clear ha hb hm hf hg
  obtain ⟨V, hV⟩ : ∃ b, b = validA A := ⟨_, rfl⟩
  rw [← hV] at HVA
  have HVE := Lib.hid hV
  obtain ⟨X, hX⟩ : ∃ q, q = finB A f g := ⟨_, rfl⟩
  rw [← hX]
  have HX := Lib.hid hX
  obtain ⟨n, hn⟩ : ∃ n, n = A.ac.length := ⟨_, rfl⟩
  obtain ⟨m, hmm⟩ : ∃ n, n = A.nx.length := ⟨_, rfl⟩
  rw [← hn, ← hmm] at HVA HTA ⊢
  clear hn hmm hV hX
  obtain ⟨y, hy⟩ : ∃ y, y = w.alloc (.cells #[.int .i64 A.st, .slice ao n ca, .slice bo m cb] 39) := ⟨_, rfl⟩
  have hs0 : Since w y := by rw [hy]; exact (Since.refl w).alloc _
  have B0 : Hid (Blk y w.heap.size 39 #[.int .i64 A.st, .slice ao n ca, .slice bo m cb]) := by rw [hy]; exact Blk.new rfl _ _
  have HY := Lib.hid hy
  clear hy
  go_enter Try.func70, Try.ntmps70
  go_upto_region 1 with fail
  rw [← HY.out]
  obtain ⟨⟨p0, p1, p2⟩, _⟩ := B0.out.threeA
  go_wp2_with fail
  refine (HVA.out _ hs0).mono ?_
  rintro e w1 ⟨rfl, hq⟩
  have hs1 := hs0.trans hq
  have B1 := Lib.hid (B0.out.since hq)
  clear p0 p1 p2 hq hs0
  obtain ⟨⟨p0, p1, p2⟩, _⟩ := B1.out.threeA
  cases V with
  | false =>
    have HE : Hid (X = false) := HX.out.trans (finB_no HVE.out.symm)
    go_wp2
    go_ret
    exact ⟨ret_bool HE.out.symm, hs1⟩
  | true =>
    have hva : validA A = true := HVE.out.symm
    have hv := (validA_iff A).1 hva
    obtain ⟨fs, hnum, hin, hc, hl12⟩ := numF hv ((validA_iff A).2 hva) f
    have hst0 := inA_st hv
    obtain ⟨t0, ht0⟩ := num_first (Q := InA A) (fun s k x hk hs hx => stepF_in hv f s k x hk hs hx) (by decide) hst0 hnum
    obtain ⟨⟨hnd, _⟩, hstm, _, _⟩ := numN_some (Q := InA A) (fun s k x hk hs hx => stepF_in hv f s k x hk hs hx) (by decide) hst0 hnum
    have hlen0 : 0 < fs.length := List.length_pos_of_mem hstm
    have hTA : trimA A f = autN (stepF A f) (accZ1 A) fs := by
      rw [trimA_yes hva]
      unfold trimN autR
      rw [hnum]
    have HTV : Hid (ValidA (autN (stepF A f) (accZ1 A) fs)) := autN_valid hc hlen0 (by omega)
    have HND := Lib.hid hnd
    have HCL := Lib.hid hc
    have HST0 := Lib.hid hstm
    have HSB : Hid (StB (stepF A f) A.st fs 0 1) := by
      unfold Hid
      have h9 := hnd
      rw [ht0] at h9 ⊢
      exact StB.start h9
    have HFI : Hid ((∃ x, StpsP (stepF A f) A.st fs.length x) ↔ LoopP A f g) := fin_iff hv HF.out HG.out (by decide) hnum
    rw [hTA] at HTA
    obtain ⟨T, hT⟩ : ∃ q, q = autN (stepF A f) (accZ1 A) fs := ⟨_, rfl⟩
    have HTL : Hid (T.ac.length = fs.length) := by unfold Hid; rw [hT]; simp [autN]
    have HTE := Lib.hid hT
    have HTS : Hid (T.st = 0) := by unfold Hid; rw [hT]; rfl
    rw [← hT] at HTA HTV
    clear hT hTA hva hv hnum hin hc ht0 hnd hstm hst0
    go_wp2_with fail
    refine (HTA.out _ hs1).mono ?_
    rintro e w2 ⟨v2, rfl, ho2, hq2⟩
    have HA2 := Lib.hid ho2.at
    obtain ⟨r2a, r2b, rfl, i2, o2, n2, q2⟩ := ho2
    obtain ⟨so, sc, rfl⟩ := o2.len
    obtain ⟨uo, uc, rfl⟩ := q2.len
    clear i2 o2 n2 q2 p0 p1 p2
    go_upto_region 4 with fail
    obtain ⟨wz, hwz⟩ : ∃ q, q = w2.alloc (.cells #[.int .i64 T.st, .slice so T.ac.length sc, .slice uo T.nx.length uc] 39) := ⟨_, rfl⟩
    obtain ⟨G, hG⟩ : ∃ q, q = w2.heap.size := ⟨_, rfl⟩
    have hal : Since w2 wz := by rw [hwz]; exact (Since.refl _).alloc _
    have BZ : Hid (Blk wz G 39 #[.int .i64 T.st, .slice so T.ac.length sc, .slice uo T.nx.length uc]) := by rw [hwz]; exact Blk.new hG _ _
    rw [← hwz, ← hG]
    have HA3 := Lib.hid (HA2.out.since hal)
    have hs3 := hs1.trans (hq2.trans hal)
    clear hwz hG hal hq2 HA2 hs1
    obtain ⟨N, hN⟩ : ∃ q, q = T.ac.length := ⟨_, rfl⟩
    obtain ⟨M, hM⟩ : ∃ q, q = T.nx.length := ⟨_, rfl⟩
    rw [← hN, ← hM] at BZ HA3 ⊢
    have HN := Lib.hid hN
    have hNf : N = fs.length := by rw [hN]; exact HTL.out
    have hN12 : N ≤ 12 := by omega
    have HNF := Lib.hid hNf
    have HAF : Hid (∀ (S : Nat) W, S < 4096 → Since wz W → Calls Try.prog 134 #[.agg #[.int .i64 T.st, .slice so N sc, .slice uo M uc], .int .i64 (S : Int)] W fun e w' => (∃ R : Nat, e = .returned (.int .i64 (R : Int)) ∧ AftI T S T.ac.length 0 R ∧ R < 4096) ∧ Since W w') := fun S W hS hW => aftL_any _ T S W (HA3.out.since hW) HTV.out (by rw [← HN.out]; exact hN12) hS
    rw [HTS.out] at BZ HAF
    clear hN hM hNf
    obtain ⟨⟨p0, p1, p2⟩, _⟩ := BZ.out.threeA
    go_wp2_with fail
    refine (setOf_any 0 _ (by decide)).mono ?_
    rintro e w5 ⟨rfl, rfl⟩
    go_wp2
    clear p0 p1 p2
    go_loopw [4, 16] (fun r i wr => ∃ (k S : Nat), k ≤ N ∧ i = .int .i64 k ∧ r = .int .i64 (S : Int) ∧ S < 4096 ∧ Hid (StB (stepF A f) A.st fs k S) ∧ Hid (Since wz wr)) (fun _ i _ => N - (intOf i).toNat)
    case atStart => exact ⟨0, 1, Nat.zero_le _, rfl, rfl, by decide, HSB.out, Since.refl _⟩
    case round =>
      obtain ⟨k, S, hk, rfl, rfl, hS, HS, HSW⟩ := hrel
      by_cases hlt : k < N
      · have hki : (k : Int) < (N : Int) := by omega
        obtain ⟨⟨p0, p1, p2⟩, _⟩ := (BZ.out.since HSW.out).threeA
        go_wp2_with fail
        refine (HAF.out S _ hS HSW.out).mono ?_
        rintro e w6 ⟨⟨R, rfl, hr, hR⟩, hq⟩
        have HS2 : Hid (StB (stepF A f) A.st fs (k + 1) R) := by
          refine StB.next (acc := accZ1 A) HS.out HST0.out HND.out HCL.out ?_
          rw [← HTE.out, ← HTL.out]; exact hr
        have HSW2 := Lib.hid (HSW.out.trans hq)
        clear hr hq p0 p1 p2
        go_wp2
        go_roundw
        case rel => exact ⟨k + 1, R, by omega, by go_num, rfl, hR, HS2.out, HSW2.out⟩
        case measure => simp [intOf]; omega
      · have hkn : k = N := by omega
        have HE : Hid (X = ((S : Int) == 0)) := by
          unfold Hid
          have hsb := HS.out
          rw [hkn, HNF.out] at hsb
          by_cases h0 : S = 0
          · have hno : ¬ LoopP A f g := by
              rw [← HFI.out]
              rintro ⟨x, hx⟩
              obtain ⟨p, hp, e⟩ := List.getElem_of_mem (stps_in HST0.out HCL.out _ x hx)
              have := (hsb p).2 ⟨hp, by rw [e]; exact hx⟩
              rw [h0, Nat.zero_testBit] at this; cases this
            rw [HX.out, finB_yes HVE.out.symm hno, h0]; rfl
          · have hlp : LoopP A f g := by
              rw [← HFI.out]
              obtain ⟨p, hp⟩ := Nat.exists_testBit_of_ne_zero h0
              obtain ⟨h1, h2⟩ := (hsb p).1 hp
              exact ⟨_, h2⟩
            rw [HX.out, finB_loop hlp]
            exact (beq_eq_false_iff_ne.2 (by omega)).symm
        have HSE := Lib.hid (hs3.trans HSW.out)
        have hnl : ¬ ((k : Int) < (N : Int)) := by omega
        clear hkn hlt
        go_wp2
        go_ret
        exact ⟨ret_bool HE.out.symm, HSE.out⟩
set_option maxHeartbeats 4000000 in
set_option maxRecDepth 100000 in
theorem specFI_any (v : Value) (A : Aut) (f g : Nat → Bool) (w : World) (h : AutAt w v A) (hm : MxA A) (hf : ∀ s, f s = true ↔ LiveP A s) (hg : ∀ s, g s = true ↔ RchP A s) :
    Calls Try.prog 69 #[v] w fun e w' => e = .returned (.bool (finB A f g)) ∧ Since w w' := by
  have HVA : Hid (∀ W, Since w W → Calls Try.prog 34 #[v] W fun e w' => e = .returned (.bool (validA A)) ∧ Since W w') := fun W hW => specVA_any v A W (h.since hW) hm
  have HUS : Hid (∀ W, Since w W → Calls Try.prog 131 #[v] W (OwnOut W (usL f g A))) := fun W hW => specUS_any v A f g W (h.since hW) hm hf hg
  obtain ⟨po, hpo⟩ : ∃ po : Nat → Nat → Bool, ∀ s t, po s t = true ↔ LeastP (rchR A) A.ac.length (boL (succB A s) A.ac.length) t :=
    ⟨fun s => (pred_bool (LeastP (rchR A) A.ac.length (boL (succB A s) A.ac.length))).choose, fun s => (pred_bool (LeastP (rchR A) A.ac.length (boL (succB A s) A.ac.length))).choose_spec⟩
  have HOW : Hid (∀ (s : Nat) W, validA A = true → s < A.ac.length → Since w W → Calls Try.prog 132 #[v, .int .i64 (s : Int)] W (BoOut W (boL (po s) A.ac.length))) := fun s W hv hs hW => specOW_any v A s (po s) W (h.since hW) ((validA_iff A).1 hv) hs (hpo s)
  have HPO : Hid (∀ s, s < A.ac.length → (po s s = true ↔ PlusT A s s)) := fun s hs => (hpo s s).trans (onw_plus (boL_length _ _) (fun t => by
    by_cases ht : t < A.ac.length
    · rw [boL_at _ _ _ ht]
    · constructor
      · intro h9; have := at0_lt h9; rw [boL_length] at this; exact absurd this ht
      · intro h9
        obtain ⟨k, _, h8⟩ := succB_iff.1 h9
        exact absurd (tgt_lt h8).2.1 ht) hs)
  obtain ⟨a, b, rfl, _, ha, hb⟩ := h
  obtain ⟨ao, ca, rfl⟩ := ha.len
  obtain ⟨bo, cb, rfl⟩ := hb.len
  clear ha hb hm hf hg hpo
  obtain ⟨V, hV⟩ : ∃ b, b = validA A := ⟨_, rfl⟩
  have HVE := Lib.hid hV
  obtain ⟨X, hX⟩ : ∃ q, q = finB A f g := ⟨_, rfl⟩
  rw [← hV] at HVA HOW
  rw [← hX]
  have HX := Lib.hid hX
  obtain ⟨n, hn⟩ : ∃ n, n = A.ac.length := ⟨_, rfl⟩
  obtain ⟨m, hmm⟩ : ∃ n, n = A.nx.length := ⟨_, rfl⟩
  have HN := Lib.hid hn
  rw [← hn, ← hmm] at HVA HUS HOW ⊢
  rw [← hn] at HPO
  clear hn hmm hV hX
  obtain ⟨y, hy⟩ : ∃ y, y = w.alloc (.cells #[.int .i64 A.st, .slice ao n ca, .slice bo m cb] 39) := ⟨_, rfl⟩
  have hs0 : Since w y := by rw [hy]; exact (Since.refl w).alloc _
  have B0 : Hid (Blk y w.heap.size 39 #[.int .i64 A.st, .slice ao n ca, .slice bo m cb]) := by rw [hy]; exact Blk.new rfl _ _
  have HY := Lib.hid hy
  clear hy
  go_enter Try.func69, Try.ntmps69
  go_upto_region 1 with fail
  rw [← HY.out]
  obtain ⟨⟨p0, p1, p2⟩, _⟩ := B0.out.threeA
  go_wp2_with fail
  refine (HVA.out _ hs0).mono ?_
  rintro e w1 ⟨rfl, hq⟩
  have hs1 := hs0.trans hq
  have B1 := Lib.hid (B0.out.since hq)
  clear p0 p1 p2 hq hs0
  obtain ⟨⟨p0, p1, p2⟩, _⟩ := B1.out.threeA
  cases V with
  | false =>
    have HE : Hid (X = false) := HX.out.trans (finB_no HVE.out.symm)
    go_wp2
    go_ret
    exact ⟨ret_bool HE.out.symm, hs1⟩
  | true =>
    have hva : validA A = true := HVE.out.symm
    have hn12 : n ≤ 12 := by rw [HN.out]; exact (validA_iff A).2 hva
    have HOX : Hid (∀ (s : Nat) W, s < n → Since w W → Calls Try.prog 132 #[.agg #[.int .i64 A.st, .slice ao n ca, .slice bo m cb], .int .i64 (s : Int)] W (BoOut W (boL (po s) n))) := fun s W hs hW => HOW.out s W rfl hs hW
    have hus : usL f g A = usefulL f g n := by rw [HN.out]; exact usL_yes hva
    rw [hus] at HUS
    obtain ⟨L, hL⟩ : ∃ q, q = usefulL f g n := ⟨_, rfl⟩
    have HLM : Hid (∀ z, z ∈ L ↔ ∃ s : Nat, z = (s : Int) ∧ s < n ∧ g s = true ∧ f s = true) := fun z => by
      rw [hL]
      unfold usefulL
      rw [List.mem_map]
      constructor
      · rintro ⟨s, hs, rfl⟩
        rw [List.mem_filter, List.mem_range, Bool.and_eq_true] at hs
        exact ⟨s, rfl, hs.1, hs.2⟩
      · rintro ⟨s, rfl, h1, h2⟩
        exact ⟨s, by rw [List.mem_filter, List.mem_range, Bool.and_eq_true]; exact ⟨h1, h2⟩, rfl⟩
    have HLL : Hid (L.length ≤ 12) := by
      have := usefulL_len f g n
      rw [← hL] at this
      unfold Hid; omega
    have HLP : Hid ((∀ z ∈ L, po z.toNat z.toNat = false) → X = true) := fun hall => by
      rw [HX.out]
      refine finB_yes hva ?_
      rintro ⟨s, h1, h2, h3, h4⟩
      rw [← HN.out] at h1
      have h5 := hall (s : Int) ((HLM.out _).2 ⟨s, rfl, h1, h2, h3⟩)
      rw [Int.toNat_natCast, (HPO.out s h1).2 h4] at h5
      cases h5
    have HLQ : Hid (∀ s : Nat, (s : Int) ∈ L → po s s = true → X = false) := fun s hs hp => by
      rw [HX.out]
      obtain ⟨t, e, h1, h2, h3⟩ := (HLM.out _).1 hs
      have e2 : s = t := by omega
      subst e2
      exact finB_loop ⟨s, by rw [← HN.out]; exact h1, h2, h3, (HPO.out s h1).1 hp⟩
    rw [← hL] at HUS
    clear hus hL hva HOW
    go_wp2_with fail
    refine (HUS.out _ hs1).mono ?_
    rintro e w2 ⟨vl, rfl, hol, hq2⟩
    have hs2 := hs1.trans hq2
    have B2 := Lib.hid (B1.out.since hq2)
    obtain ⟨lo, lc, rfl, HLC⟩ := hol.at.row
    clear hq2 p0 p1 p2 hol hs1
    obtain ⟨N, hNL⟩ : ∃ q, q = L.length := ⟨_, rfl⟩
    rw [← hNL]
    have HNL := Lib.hid hNL
    have hN12 : N ≤ 12 := by rw [hNL]; exact HLL.out
    clear hNL
    go_wp2
    go_loopw [4] (fun i wr => ∃ k : Nat, k ≤ N ∧ i = .int .i64 k ∧ Hid (∀ z ∈ L.take k, po z.toNat z.toNat = false) ∧ Hid (Since w2 wr)) (fun i _ => N - (intOf i).toNat)
    case atStart => exact ⟨0, Nat.zero_le _, rfl, fun z hz => by simp at hz, Since.refl _⟩
    case round =>
      obtain ⟨k, hk, rfl, HNO, HSW⟩ := hrel
      by_cases hlt : k < N
      · have hki : (k : Int) < (N : Int) := by omega
        have hk0 : (0 : Int) ≤ (k : Int) := by omega
        have hkL : k < L.length := by rw [← HNL.out]; exact hlt
        obtain ⟨s, hse, hsn, _, _⟩ := (HLM.out L[k]).1 (List.getElem_mem hkL)
        have HSM : Hid ((s : Int) ∈ L) := by unfold Hid; rw [← hse]; exact List.getElem_mem hkL
        obtain ⟨lb, loff, rfl, hlb, hlcell⟩ := HLC.out k hkL
        rw [hse] at hlcell
        have hsi : (s : Int) < (n : Int) := by omega
        have hs0i : (0 : Int) ≤ (s : Int) := by omega
        obtain ⟨q0, hq0⟩ : ∃ q, q = po s s := ⟨_, rfl⟩
        have HQ0 := Lib.hid hq0
        have HTK : Hid (q0 = false → ∀ z ∈ L.take (k + 1), po z.toNat z.toNat = false) := fun hq z hz => by
          rw [List.take_succ_eq_append_getElem hkL, List.mem_append] at hz
          rcases hz with hz | hz
          · exact HNO.out z hz
          · simp at hz
            subst hz
            rw [hse, Int.toNat_natCast, ← HQ0.out]; exact hq
        have HKC : Hid (∀ w', Since wr w' → w'.cell? ⟨w.heap.size, 0, none⟩ = some (.int .i64 A.st) ∧ w'.cell? ⟨w.heap.size, 1, none⟩ = some (.slice ao n ca) ∧ w'.cell? ⟨w.heap.size, 2, none⟩ = some (.slice bo m cb) ∧ w'.cell? ⟨lb, loff + k, none⟩ = some (.int .i64 (s : Int))) := by
          intro w' hs
          obtain ⟨⟨r0, r1, r2⟩, _⟩ := (B2.out.since (HSW.out.trans hs)).threeA
          exact ⟨r0, r1, r2, (Below.cell (HSW.out.trans hs) (p := ⟨lb, loff + k, none⟩) hlb).trans hlcell⟩
        clear hq0 hse hlcell
        go_upto_region 7 with fail
        go_wp2_with fail
        refine wp_region_held_drew (S := (fun w' => w'.cell? ⟨w.heap.size, 0, none⟩ = some (.int .i64 A.st) ∧ w'.cell? ⟨w.heap.size, 1, none⟩ = some (.slice ao n ca) ∧ w'.cell? ⟨w.heap.size, 2, none⟩ = some (.slice bo m cb) ∧ w'.cell? ⟨lb, loff + k, none⟩ = some (.int .i64 (s : Int)))) (by kernel_rfl) (HKC.out _ (Since.refl _).drew) (fun hHeld => ?_)
        refine take_yes 0 (some 16) (v := ?_) rfl (by kernel_rfl) (by kernel_rfl) (by kernel_rfl) (by kernel_rfl) (fun _ _ _ h => h) (by rfl) (by assumption) ?_ ?_
        rotate_left
        · (intro w' hSw; (try dsimp only at hSw); go_simp; try with_reducible rfl)
        try simp only [Act.put, List.setIfInBounds_toArray, List.set_cons_zero, List.set_cons_succ]
        refine take_yes 1 (some 17) (v := ?_) rfl (by kernel_rfl) (by kernel_rfl) (by kernel_rfl) (by kernel_rfl) (fun _ _ _ h => h) (by rfl) (by assumption) ?_ ?_
        rotate_left
        · (intro w' hSw; (try dsimp only at hSw); go_simp; try with_reducible rfl)
        try simp only [Act.put, List.setIfInBounds_toArray, List.set_cons_zero, List.set_cons_succ]
        refine take_yes 2 (some 18) (v := ?_) rfl (by kernel_rfl) (by kernel_rfl) (by kernel_rfl) (by kernel_rfl) (fun _ _ _ h => h) (by rfl) (by assumption) ?_ ?_
        rotate_left
        · (intro w' hSw; (try dsimp only at hSw); go_simp; try with_reducible rfl)
        try simp only [Act.put, List.setIfInBounds_toArray, List.set_cons_zero, List.set_cons_succ]
        refine take_yes 3 (some 19) (v := ?_) rfl (by kernel_rfl) (by kernel_rfl) (by kernel_rfl) (by kernel_rfl) (fun _ _ _ h => h) (by rfl) (by assumption) ?_ ?_
        rotate_left
        · (intro w' hSw; (try dsimp only at hSw); go_simp; try with_reducible rfl)
        try simp only [Act.put, List.setIfInBounds_toArray, List.set_cons_zero, List.set_cons_succ]
        refine take_yes 4 (some 20) (v := ?_) rfl (by kernel_rfl) (by kernel_rfl) (by kernel_rfl) (by kernel_rfl) (fun _ _ _ h => h) (by rfl) (by assumption) ?_ ?_
        rotate_left
        · (intro w' hSw; (try dsimp only at hSw); go_simp; try with_reducible rfl)
        try simp only [Act.put, List.setIfInBounds_toArray, List.set_cons_zero, List.set_cons_succ]
        refine take_yes 6 (some 22) (v := ?_) rfl (by kernel_rfl) (by kernel_rfl) (by kernel_rfl) (by kernel_rfl) (fun _ _ _ h => h) (by rfl) (by assumption) ?_ ?_
        rotate_left
        · (intro w' hSw; (try dsimp only at hSw); go_simp; try with_reducible rfl)
        try simp only [Act.put, List.setIfInBounds_toArray, List.set_cons_zero, List.set_cons_succ]
        refine take_yes 7 (some 23) (v := ?_) rfl (by kernel_rfl) (by kernel_rfl) (by kernel_rfl) (by kernel_rfl) (fun _ _ _ h => h) (by rfl) (by assumption) ?_ ?_
        rotate_left
        · (intro w' hSw; (try dsimp only at hSw); go_simp; try with_reducible rfl)
        try simp only [Act.put, List.setIfInBounds_toArray, List.set_cons_zero, List.set_cons_succ]
        refine take_yes 8 (some 24) (v := ?_) rfl (by kernel_rfl) (by kernel_rfl) (by kernel_rfl) (by kernel_rfl) (fun _ _ _ h => h) (by rfl) (by assumption) ?_ ?_
        rotate_left
        · (intro w' hSw; (try dsimp only at hSw); go_simp; try with_reducible rfl)
        try simp only [Act.put, List.setIfInBounds_toArray, List.set_cons_zero, List.set_cons_succ]
        refine take_yes 9 (some 25) (v := ?_) rfl (by kernel_rfl) (by kernel_rfl) (by kernel_rfl) (by kernel_rfl) (fun _ _ _ h => h) (by rfl) (by assumption) ?_ ?_
        rotate_left
        · (intro w' hSw; (try dsimp only at hSw); go_simp; try with_reducible rfl)
        try simp only [Act.put, List.setIfInBounds_toArray, List.set_cons_zero, List.set_cons_succ]
        refine take_run 5 rfl (by kernel_rfl) (by rfl) (fun K hK => ?_)
        go_simp
        refine (HOX.out s _ hsn ((hs2.trans HSW.out).trans (Since.refl _).drew)).mono ?_
        rintro e w3 ⟨z, rfl, hoz, hq⟩
        have hc1 := Since.of_drew hq
        obtain ⟨zo, zc, rfl⟩ := OwnBo.len hoz
        have hcz : ∃ b off, zo = some ⟨b, off, none⟩ ∧ w3.cell? ⟨b, off + s, none⟩ = some (.bool q0) := by
          have hz9 := hoz.at
          rw [boL_length] at hz9
          obtain ⟨b, off, e1, _, h3⟩ := boL_cells hz9 s hsn
          exact ⟨b, off, e1, by rw [HQ0.out]; exact h3⟩
        obtain ⟨zb, zoff, rfl, hcz2⟩ := hcz
        rw [boL_length]
        refine hK.out _ _ (HKC.out _ hc1) (fun hHeld3 => ?_)
        clear hK K hHeld hoz hq
        try simp only [Act.put, List.setIfInBounds_toArray, List.set_cons_zero, List.set_cons_succ]
        refine take_yes 10 (some 26) (v := ?_) rfl (by kernel_rfl) (by kernel_rfl) (by kernel_rfl) (by kernel_rfl) (fun _ _ _ h => h) (by rfl) (by assumption) ?_ ?_
        rotate_left
        · (intro w' hSw; (try dsimp only at hSw); go_simp; try with_reducible rfl)
        try simp only [Act.put, List.setIfInBounds_toArray, List.set_cons_zero, List.set_cons_succ]
        refine take_run 11 rfl (by kernel_rfl) (by rfl) (fun K hK => ?_)
        go_simp
        refine hK.out _ _ (HKC.out _ hc1) (fun hHeld4 => ?_)
        clear hK K hHeld3
        try simp only [Act.put, List.setIfInBounds_toArray, List.set_cons_zero, List.set_cons_succ]
        refine wpAnyH_done (by kernel_rfl) ?_ _
        have HSW2 := Lib.hid (HSW.out.trans hc1)
        clear hHeld4 HKC hcz2 hc1
        cases q0 with
        | true =>
          have HE := Lib.hid (HLQ.out s HSM.out HQ0.out.symm)
          have HSE := Lib.hid (hs2.trans HSW2.out)
          go_wp2
          go_ret
          exact ⟨ret_bool HE.out.symm, HSE.out⟩
        | false =>
          have HT2 := Lib.hid (HTK.out rfl)
          clear HTK
          go_wp2
          go_roundw
          case rel => exact ⟨k + 1, by omega, by go_num, HT2.out, HSW2.out⟩
          case measure => simp [intOf]; omega
      · have HE : Hid (X = true) := HLP.out (fun z hz => HNO.out z (by rw [List.take_of_length_le (by rw [← HNL.out]; omega)]; exact hz))
        have HSE := Lib.hid (hs2.trans HSW.out)
        have hnl : ¬ ((k : Int) < (N : Int)) := by omega
        go_wp2
        go_ret
        exact ⟨ret_bool HE.out.symm, HSE.out⟩
end Go.Proofs.Ytmaagihfjldgeaa
