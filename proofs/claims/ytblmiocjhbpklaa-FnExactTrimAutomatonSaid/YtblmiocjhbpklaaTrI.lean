/- TrimAutomaton, the program's. -/
import Derived.Test.YtblmiocjhbpklaaMaI
import Derived.Test.YtblmiocjhbpklaaAuZ
namespace Go.Proofs.Ytblmiocjhbpklaa
set_option maxRecDepth 100000
open Go.ChangeShapes Go.WideShapes Go.ChangeAt Go.RowKit Go.Maps
set_option linter.unusedVariables false
set_option linter.unusedSimpArgs false

def accZ1 (A : Aut) (s : Int) : Bool := at0 A.ac s.toNat
set_option maxRecDepth 100000 in
theorem accF_any (A : Aut) (f : Nat → Bool) (BA BL : Nat) (s : Int) (hs : InA A s) (W : World) (h : MchA A f BA BL W) :
    Calls Try.prog 117 #[.int .i64 s, .pointer (some ⟨BA, 0, none⟩)] W fun e w' => e = .returned (.bool (accZ1 A s)) ∧ Since W w' := by
  obtain ⟨ao, ca, bo, cb, h1, h2, h3⟩ := h.box
  obtain ⟨t, rfl⟩ : ∃ t : Nat, s = t := ⟨s.toNat, by unfold InA at hs; omega⟩
  have htn : t < A.ac.length := by unfold InA at hs; omega
  obtain ⟨ao', ca', e, HC⟩ := h2
  injection e with e1 e2 e3
  subst e1
  obtain ⟨b, off, rfl, hb, d⟩ := HC.out t htn
  have HE : Hid (accZ1 A (t : Int) = A.ac[t]) := by
    unfold Hid accZ1
    rw [Int.toNat_natCast, at0_get A.ac t htn]
  obtain ⟨x, hx⟩ : ∃ x, x = A.ac[t] := ⟨_, rfl⟩
  rw [← hx] at d HE
  rw [HE.out]
  obtain ⟨n, hn⟩ : ∃ n, n = A.ac.length := ⟨_, rfl⟩
  rw [← hn] at h1 htn
  have hti : (t : Int) < (n : Int) := by omega
  have ht0 : (0 : Int) ≤ (t : Int) := by omega
  obtain ⟨⟨p0, p1, p2⟩, _⟩ := h1.threeA
  clear HC h h1 h3 hx hn hs e2 e3
  go_enter Try.func117, Try.ntmps117
  go_wp2
  go_ret
  exact ⟨rfl, Since.refl W⟩
/-- What trimming leaves. -/
def trimN (A : Aut) (f : Nat → Bool) : Aut := autR (stepF A f) (accZ1 A) (numN (stepF A f) 12 A.st)
def trimA (A : Aut) (f : Nat → Bool) : Aut := if validA A = true then trimN A f else ⟨0, [], []⟩
theorem trimA_no {A : Aut} {f : Nat → Bool} (h : validA A = false) : trimA A f = ⟨0, [], []⟩ := by unfold trimA; rw [if_neg (by rw [h]; decide)]
theorem trimA_yes {A : Aut} {f : Nat → Bool} (h : validA A = true) : trimA A f = trimN A f := by unfold trimA; rw [if_pos h]
theorem inA_st {A : Aut} (h : ValidA A) : InA A A.st := by have := h.2.2.1; unfold InA; omega
theorem inA_in {A : Aut} (h : ValidA A) (s : Int) (hs : InA A s) : InI s := by have := h.1; unfold InA at hs; unfold InI; omega
theorem numF {A : Aut} (h : ValidA A) (f : Nat → Bool) : ∃ fs, numN (stepF A f) 12 A.st = some fs ∧ (∀ x ∈ fs, InA A x) ∧ (∀ s ∈ fs, ∀ k x, k < 9 → stepF A f s k = some x → x ∈ fs) ∧ fs.length ≤ 12 := by
  obtain ⟨fs, e, hf, _, hc⟩ := numN_all (numH_live h f (lim := 12) h.1) A.st (inA_st h)
  exact ⟨fs, e, hf.2, hc, Nat.le_trans (pigeon_le hf.1 hf.2) h.1⟩
theorem liveA_any (A : Aut) (f : Nat → Bool) (hv : ValidA A) (BA BL : Nat) (W : World) (h : MchA A f BA BL W) : Calls Try.prog 95 #[mchV A BA BL, .int .i64 12] W (ABOut W (trimN A f) true) := by
  obtain ⟨fs, e, h1, h2, h3⟩ := numF hv f
  have H := numH_live hv f (lim := 12) hv.1
  have k := autI_any BA BL (stepF A f) (accZ1 A) (InA A) (fun s x k hk hs hx => H.step s k x hk hs hx) (fun s hs => inA_in hv s hs) A.st (inA_st hv) 12 (by decide) (by decide) W
    (fun gs hg => by rw [e] at hg; injection hg with hg; subst hg; exact ⟨h1, h2, by omega⟩)
    (fun s k W' hW hs hk => nextF_any A f BA BL hv s k hs hk W' (h.since hW)) (fun s W' hW hs => accF_any A f BA BL s hs W' (h.since hW))
  have e2 : (numN (stepF A f) 12 A.st).isSome = true := by rw [e]; rfl
  rw [e2] at k
  exact k
set_option maxHeartbeats 8000000 in
set_option maxRecDepth 100000 in
theorem implTA_any (v : Value) (A : Aut) (f : Nat → Bool) (w : World) (h : AutAt w v A) (hm : MxA A) (hf : ∀ s, f s = true ↔ LiveP A s) :
    Calls Try.prog 48 #[v] w (AOut w (trimA A f)) := by
  have HVA : Hid (∀ W, Since w W → Calls Try.prog 34 #[v] W fun e w' => e = .returned (.bool (validA A)) ∧ Since W w') := fun W hW => implVA_any v A W (h.since hW) hm
  have HLV0 : Hid (∀ W, Since w W → ValidA A → Calls Try.prog 91 #[v] W (BoOut W (boL f A.ac.length))) := fun W hW hv => implLive_any v A f W (h.since hW) hv hf
  have HMC0 : Hid (∀ u W, Since w W → BosAt W u (boL f A.ac.length) → Calls Try.prog 92 #[v, u] W (MchOut A f W)) := fun u W hW hu => liveM_any v u A f W (h.since hW) hu
  obtain ⟨a, b, rfl, _, ha, hb⟩ := h
  obtain ⟨ao, ca, rfl⟩ := ha.len
  obtain ⟨bo, cb, rfl⟩ := hb.len
  clear ha hb hm hf
  obtain ⟨n, hn⟩ : ∃ n, n = A.ac.length := ⟨_, rfl⟩
  obtain ⟨m, hmm⟩ : ∃ n, n = A.nx.length := ⟨_, rfl⟩
  rw [← hn, ← hmm] at HVA HLV0 HMC0 ⊢
  clear hn hmm
  obtain ⟨y, hy⟩ : ∃ y, y = (w.alloc (.cells #[.int .i64 A.st, .slice ao n ca, .slice bo m cb] 49)).alloc (.cells #[.int .i64 0, .slice none 0 0, .slice none 0 0] 49) := ⟨_, rfl⟩
  have hs0 : Since w y := by rw [hy]; exact ((Since.refl w).alloc _).alloc _
  have hz : y.heap.size = w.heap.size + 1 + 1 := by rw [hy]; simp
  have B0 : Hid (Blk y w.heap.size 49 #[.int .i64 A.st, .slice ao n ca, .slice bo m cb]) := by rw [hy]; exact (Blk.new rfl _ _).alloc _
  have B1 : Hid (Blk y (w.heap.size + 1) 49 #[.int .i64 0, .slice none 0 0, .slice none 0 0]) := by rw [hy]; exact Blk.new (by simp) _ _
  have HY := Lib.hid hy
  have HZ := Lib.hid hz
  clear hy hz
  cases e : validA A with
  | false =>
    have HB := Lib.hid e
    have HF := Lib.hid (trimA_no (f := f) e)
    clear e
    go_enter Try.func48, Try.ntmps48
    go_upto_region 1 with fail
    rw [← HY.out]
    obtain ⟨⟨p0, p1, p2⟩, _⟩ := B0.out.threeA
    go_wp2_with fail
    refine (HVA.out _ hs0).mono ?_
    rintro e w1 ⟨rfl, hs1⟩
    rw [HB.out]
    have HS1 := Lib.hid (hs0.trans hs1)
    obtain ⟨⟨r0, r1, r2⟩, r3, r4, r5⟩ := (B1.out.since hs1).threeA
    clear p0 p1 p2
    go_wp2
    refine bodyPost_ret (v := .agg #[.int .i64 0, nilS, nilS]) (by simp [results, Try.results48, go_sem, *]) rfl ?_
    rw [HF.out]
    refine ⟨_, rfl, ownA_zero _ _ _, ?_⟩
    repeat' (first | exact HS1.out | with_reducible refine Since.setCell ?_ (by simp <;> omega) _)
  | true =>
    have HB := Lib.hid e
    have HV : Hid (ValidA A) := (validA_iff A).1 e
    have HF := Lib.hid (trimA_yes (f := f) e)
    have HAU0 : Hid (∀ BA BL W, MchA A f BA BL W → Calls Try.prog 95 #[mchV A BA BL, .int .i64 12] W (ABOut W (trimN A f) true)) := fun BA BL W hw => liveA_any A f HV.out BA BL W hw
    obtain ⟨R, hR⟩ : ∃ R, R = trimN A f := ⟨_, rfl⟩
    rw [← hR] at HAU0 HF
    have HAU := HAU0
    have HLV : Hid (∀ W, Since w W → Calls Try.prog 91 #[.agg #[.int .i64 A.st, .slice ao n ca, .slice bo m cb]] W (BoOut W (boL f n))) := fun W hW => HLV0.out W hW HV.out
    have HMC := HMC0
    rw [HF.out]
    clear e hR HAU0 HLV0 HMC0 HF
    go_enter Try.func48, Try.ntmps48
    go_upto_region 1 with fail
    rw [← HY.out]
    obtain ⟨⟨p0, p1, p2⟩, _⟩ := B0.out.threeA
    go_wp2_with fail
    refine (HVA.out _ hs0).mono ?_
    rintro e w1 ⟨rfl, hs01⟩
    rw [HB.out]
    have hW1b := hs0.trans hs01
    have C0 := Lib.hid (B0.out.since hs01)
    have C1 := Lib.hid (B1.out.since hs01)
    have hz1 : w.heap.size + 2 ≤ w1.heap.size := by have := hs01.size; have := HZ.out; omega
    clear p0 p1 p2 B0 B1 HVA hs0 hs01
    go_upto_region 3 with fail
    go_cut [3] (fun p wx => BoxA w1 wx p R)
    case first =>
      have HKC : Hid (∀ w', Since w1 w' → w'.cell? ⟨w.heap.size, 0, none⟩ = some (.int .i64 A.st) ∧ w'.cell? ⟨w.heap.size, 1, none⟩ = some (.slice ao n ca) ∧ w'.cell? ⟨w.heap.size, 2, none⟩ = some (.slice bo m cb)) := by
        intro w' hs
        obtain ⟨⟨r0, r1, r2⟩, _⟩ := (C0.out.since hs).threeA
        exact ⟨r0, r1, r2⟩
      go_wp2_with fail
      refine wp_region_held_drew (S := (fun w' => w'.cell? ⟨w.heap.size, 0, none⟩ = some (.int .i64 A.st) ∧ w'.cell? ⟨w.heap.size, 1, none⟩ = some (.slice ao n ca) ∧ w'.cell? ⟨w.heap.size, 2, none⟩ = some (.slice bo m cb))) (by kernel_rfl) (HKC.out _ (Since.refl _).drew) (fun hHeld => ?_)
      refine take_yes 0 (some 10) (v := ?_) rfl (by kernel_rfl) (by kernel_rfl) (by kernel_rfl) (by kernel_rfl) (fun _ _ _ h => h) (by rfl) (by assumption) ?_ ?_
      rotate_left
      · (intro w' hSw; (try dsimp only at hSw); go_simp; try with_reducible rfl)
      try simp only [Act.put, List.setIfInBounds_toArray, List.set_cons_zero, List.set_cons_succ]
      refine take_yes 1 (some 11) (v := ?_) rfl (by kernel_rfl) (by kernel_rfl) (by kernel_rfl) (by kernel_rfl) (fun _ _ _ h => h) (by rfl) (by assumption) ?_ ?_
      rotate_left
      · (intro w' hSw; (try dsimp only at hSw); go_simp; try with_reducible rfl)
      try simp only [Act.put, List.setIfInBounds_toArray, List.set_cons_zero, List.set_cons_succ]
      refine take_two 2 8 rfl rfl (by kernel_rfl) (by rfl) (by rfl) (fun K hK => ?_) (fun K hK => ?_)
      · skip
        go_simp
        refine (HLV.out _ (hW1b.trans (Since.refl w1).drew)).mono ?_
        rintro en q1 ⟨v1, rfl, ho1, hs1⟩
        have hc1 := Since.trans (Since.refl w1).drew hs1
        have LV1 := Lib.hid ho1.at
        clear ho1
        refine hK.out _ _ (HKC.out _ hc1) (fun hHeld1 => ?_)
        clear hK K hHeld
        try simp only [Act.put, List.setIfInBounds_toArray, List.set_cons_zero, List.set_cons_succ]
        refine take_two 3 8 rfl rfl (by kernel_rfl) (by rfl) (by rfl) (fun K hK => ?_) (fun K hK => ?_)
        · skip
          go_simp
          refine (HMC.out _ _ (hW1b.trans hc1) LV1.out).mono ?_
          rintro en q2 ⟨BA, BL, rfl, _, _, hm2, hs2⟩
          have hc2 := Since.trans hc1 hs2
          have MC2 := Lib.hid hm2
          clear hm2
          refine hK.out _ _ (HKC.out _ hc2) (fun hHeld2 => ?_)
          clear hK K hHeld1
          try simp only [Act.put, List.setIfInBounds_toArray, List.set_cons_zero, List.set_cons_succ]
          refine take_two 4 8 rfl rfl (by kernel_rfl) (by rfl) (by rfl) (fun K hK => ?_) (fun K hK => ?_)
          · skip
            go_simp
            refine (HAU.out _ _ _ MC2.out).mono ?_
            rintro en q3 ⟨v3, rfl, ho3, hs3⟩
            obtain ⟨rs3, ru3, rfl, i03, ka3, ia3, kb3⟩ := ho3
            obtain ⟨rso, rsc, rfl⟩ := ka3.len
            obtain ⟨ruo, ruc, rfl⟩ := kb3.len
            have OR : Hid (OwnA _ _ _ _ _) := ⟨_, _, rfl, i03, ka3, ia3, kb3⟩
            clear i03 ka3 ia3 kb3
            have hlo := Since.lt hc2
            have hhi := hs3.size
            have hc3 := Since.trans hc2 hs3
            refine hK.out _ _ (HKC.out _ hc3) (fun hHeld3 => ?_)
            clear hK K hHeld2
            try simp only [Act.put, List.setIfInBounds_toArray, List.set_cons_zero, List.set_cons_succ]
            refine take_yes 5 (some 9) (v := ?_) rfl (by kernel_rfl) (by kernel_rfl) (by kernel_rfl) (by kernel_rfl) (fun _ _ _ h => h) (by rfl) (by assumption) ?_ ?_
            rotate_left
            · (intro w' hSw; (try dsimp only at hSw); go_simp; try with_reducible rfl)
            try simp only [Act.put, List.setIfInBounds_toArray, List.set_cons_zero, List.set_cons_succ]
            refine take_yes 6 (some 15) (v := ?_) rfl (by kernel_rfl) (by kernel_rfl) (by kernel_rfl) (by kernel_rfl) (fun _ _ _ h => h) (by rfl) (by assumption) ?_ ?_
            rotate_left
            · (intro w' hSw; (try dsimp only at hSw); go_simp; try with_reducible rfl)
            try simp only [Act.put, List.setIfInBounds_toArray, List.set_cons_zero, List.set_cons_succ]
            refine take_yes 7 (some 16) (v := ?_) rfl (by kernel_rfl) (by kernel_rfl) (by kernel_rfl) (by kernel_rfl) (fun _ _ _ h => h) (by rfl) (by assumption) ?_ ?_
            rotate_left
            · (intro w' hSw; (try dsimp only at hSw); go_simp; try with_reducible rfl)
            try simp only [Act.put, List.setIfInBounds_toArray, List.set_cons_zero, List.set_cons_succ]
            refine take_run 8 rfl (by kernel_rfl) (by rfl) (fun K hK => ?_)
            go_simp
            have hc4 := Since.alloc hc3 (.cells #[.int .i64 0, .slice none 0 0, .slice none 0 0] 49)
            have hal4 : Since q3 (q3.alloc (.cells #[.int .i64 0, .slice none 0 0, .slice none 0 0] 49)) := (Since.refl _).alloc _
            have B4 : Hid (Blk (q3.alloc (.cells #[.int .i64 0, .slice none 0 0, .slice none 0 0] 49)) (q3.heap.size) 49 #[.int .i64 0, .slice none 0 0, .slice none 0 0]) := Blk.new (by simp) _ _
            have hB4 : w1.heap.size ≤ q3.heap.size := by have := Since.lt hc3; first | exact this | simpa using this
            have OO_1 := Lib.hid ((OR.out).since hal4)
            refine hK.out _ _ (HKC.out _ hc4) (fun hHeld4 => ?_)
            clear hK K hHeld3
            try simp only [Act.put, List.setIfInBounds_toArray, List.set_cons_zero, List.set_cons_succ]
            refine take_run 9 rfl (by kernel_rfl) (by rfl) (fun K hK => ?_)
            obtain ⟨⟨s0, s1, s2⟩, s5, s6, s7⟩ := (B4.out).threeA
            go_simp
            clear s0 s1 s2 s5 s6 s7
            have hcf := Since.alloc hc3 (.cells #[.int .i64 R.st, .slice rso R.ac.length rsc, .slice ruo R.nx.length ruc] 49)
            refine hK.out _ _ (HKC.out _ hcf) (fun hHeldz => ?_)
            clear hK K hHeld4
            try simp only [Act.put, List.setIfInBounds_toArray, List.set_cons_zero, List.set_cons_succ]
            refine take_yes 10 (some 4) (v := ?_) rfl (by kernel_rfl) (by kernel_rfl) (by kernel_rfl) (by kernel_rfl) (fun _ _ _ h => h) (by rfl) (by assumption) ?_ ?_
            rotate_left
            · (intro w' hSw; (try dsimp only at hSw); go_simp; try with_reducible rfl)
            try simp only [Act.put, List.setIfInBounds_toArray, List.set_cons_zero, List.set_cons_succ]
            refine wpAnyH_done (by kernel_rfl) ?_ _
            clear hHeldz
            go_wp2_with fail
            go_meet
            all_goals
              refine boxA_mk (q3.heap.size) hB4 ?_ ?_ ((OR.out).since ((Since.refl _).alloc (.cells #[.int .i64 R.st, .slice rso R.ac.length rsc, .slice ruo R.nx.length ruc] 49))) (Blk.new (by simp) _ _) hcf
              all_goals (first | omega | (simp; omega) | simp)
          · skip
            go_simp
            have hc3 := Since.alloc hc2 (.cells #[.int .i64 0, .slice none 0 0, .slice none 0 0] 49)
            have hal3 : Since q2 (q2.alloc (.cells #[.int .i64 0, .slice none 0 0, .slice none 0 0] 49)) := (Since.refl _).alloc _
            have B3 : Hid (Blk (q2.alloc (.cells #[.int .i64 0, .slice none 0 0, .slice none 0 0] 49)) (q2.heap.size) 49 #[.int .i64 0, .slice none 0 0, .slice none 0 0]) := Blk.new (by simp) _ _
            have hB3 : w1.heap.size ≤ q2.heap.size := by have := Since.lt hc2; first | exact this | simpa using this
            have MM_1 := Lib.hid ((MC2.out).since hal3)
            refine hK.out _ _ (HKC.out _ hc3) (fun hHeld3 => ?_)
            clear hK K hHeld2
            try simp only [Act.put, List.setIfInBounds_toArray, List.set_cons_zero, List.set_cons_succ]
            refine take_run 4 rfl (by kernel_rfl) (by rfl) (fun K hK => ?_)
            go_simp
            refine (HAU.out _ _ _ MM_1.out).mono ?_
            rintro en q4 ⟨v4, rfl, ho4, hs4⟩
            obtain ⟨rs4, ru4, rfl, i04, ka4, ia4, kb4⟩ := ho4
            obtain ⟨rso, rsc, rfl⟩ := ka4.len
            obtain ⟨ruo, ruc, rfl⟩ := kb4.len
            have OR : Hid (OwnA _ _ _ _ _) := ⟨_, _, rfl, i04, ka4, ia4, kb4⟩
            clear i04 ka4 ia4 kb4
            have hlo := Since.lt hc3
            have hhi := hs4.size
            have hc4 := Since.trans hc3 hs4
            have hBl := (B3.out).lt
            have BB_2 := Lib.hid ((B3.out).since hs4)
            refine hK.out _ _ (HKC.out _ hc4) (fun hHeld4 => ?_)
            clear hK K hHeld3
            try simp only [Act.put, List.setIfInBounds_toArray, List.set_cons_zero, List.set_cons_succ]
            refine take_yes 5 (some 9) (v := ?_) rfl (by kernel_rfl) (by kernel_rfl) (by kernel_rfl) (by kernel_rfl) (fun _ _ _ h => h) (by rfl) (by assumption) ?_ ?_
            rotate_left
            · (intro w' hSw; (try dsimp only at hSw); go_simp; try with_reducible rfl)
            try simp only [Act.put, List.setIfInBounds_toArray, List.set_cons_zero, List.set_cons_succ]
            refine take_yes 6 (some 15) (v := ?_) rfl (by kernel_rfl) (by kernel_rfl) (by kernel_rfl) (by kernel_rfl) (fun _ _ _ h => h) (by rfl) (by assumption) ?_ ?_
            rotate_left
            · (intro w' hSw; (try dsimp only at hSw); go_simp; try with_reducible rfl)
            try simp only [Act.put, List.setIfInBounds_toArray, List.set_cons_zero, List.set_cons_succ]
            refine take_yes 7 (some 16) (v := ?_) rfl (by kernel_rfl) (by kernel_rfl) (by kernel_rfl) (by kernel_rfl) (fun _ _ _ h => h) (by rfl) (by assumption) ?_ ?_
            rotate_left
            · (intro w' hSw; (try dsimp only at hSw); go_simp; try with_reducible rfl)
            try simp only [Act.put, List.setIfInBounds_toArray, List.set_cons_zero, List.set_cons_succ]
            refine take_run 9 rfl (by kernel_rfl) (by rfl) (fun K hK => ?_)
            obtain ⟨⟨s0, s1, s2⟩, s5, s6, s7⟩ := (BB_2.out).threeA
            go_simp
            clear s0 s1 s2 s5 s6 s7
            have hcf := (Since.setCell (Since.setCell (Since.setCell hc4 (a := ⟨q2.heap.size, 0, none⟩) hB3 (.int .i64 R.st)) (a := ⟨q2.heap.size, 1, none⟩) hB3 (.slice rso R.ac.length rsc)) (a := ⟨q2.heap.size, 2, none⟩) hB3 (.slice ruo R.nx.length ruc))
            refine hK.out _ _ (HKC.out _ hcf) (fun hHeldz => ?_)
            clear hK K hHeld4
            try simp only [Act.put, List.setIfInBounds_toArray, List.set_cons_zero, List.set_cons_succ]
            refine take_yes 10 (some 4) (v := ?_) rfl (by kernel_rfl) (by kernel_rfl) (by kernel_rfl) (by kernel_rfl) (fun _ _ _ h => h) (by rfl) (by assumption) ?_ ?_
            rotate_left
            · (intro w' hSw; (try dsimp only at hSw); go_simp; try with_reducible rfl)
            try simp only [Act.put, List.setIfInBounds_toArray, List.set_cons_zero, List.set_cons_succ]
            refine wpAnyH_done (by kernel_rfl) ?_ _
            clear hHeldz
            go_wp2_with fail
            go_meet
            all_goals
              refine boxA_mk (q2.heap.size) hB3 ?_ ?_ ((OR.out).far3 ?_) ((((BB_2.out).set 0 (.int .i64 R.st)).set 1 (.slice rso R.ac.length rsc)).set 2 (.slice ruo R.nx.length ruc)) hcf
              all_goals (first | omega | (simp; omega) | simp)
        · skip
          go_simp
          have hc2 := Since.alloc hc1 (.cells #[.int .i64 0, .slice none 0 0, .slice none 0 0] 49)
          have hal2 : Since q1 (q1.alloc (.cells #[.int .i64 0, .slice none 0 0, .slice none 0 0] 49)) := (Since.refl _).alloc _
          have B2 : Hid (Blk (q1.alloc (.cells #[.int .i64 0, .slice none 0 0, .slice none 0 0] 49)) (q1.heap.size) 49 #[.int .i64 0, .slice none 0 0, .slice none 0 0]) := Blk.new (by simp) _ _
          have hB2 : w1.heap.size ≤ q1.heap.size := by have := Since.lt hc1; first | exact this | simpa using this
          have LL_1 := Lib.hid ((LV1.out).since hal2)
          refine hK.out _ _ (HKC.out _ hc2) (fun hHeld2 => ?_)
          clear hK K hHeld1
          try simp only [Act.put, List.setIfInBounds_toArray, List.set_cons_zero, List.set_cons_succ]
          refine take_run 3 rfl (by kernel_rfl) (by rfl) (fun K hK => ?_)
          go_simp
          refine (HMC.out _ _ (hW1b.trans hc2) LL_1.out).mono ?_
          rintro en q3 ⟨BA, BL, rfl, _, _, hm3, hs3⟩
          have hc3 := Since.trans hc2 hs3
          have BB_2 := Lib.hid ((B2.out).since hs3)
          have MC3 := Lib.hid hm3
          clear hm3
          refine hK.out _ _ (HKC.out _ hc3) (fun hHeld3 => ?_)
          clear hK K hHeld2
          try simp only [Act.put, List.setIfInBounds_toArray, List.set_cons_zero, List.set_cons_succ]
          refine take_run 4 rfl (by kernel_rfl) (by rfl) (fun K hK => ?_)
          go_simp
          refine (HAU.out _ _ _ MC3.out).mono ?_
          rintro en q4 ⟨v4, rfl, ho4, hs4⟩
          obtain ⟨rs4, ru4, rfl, i04, ka4, ia4, kb4⟩ := ho4
          obtain ⟨rso, rsc, rfl⟩ := ka4.len
          obtain ⟨ruo, ruc, rfl⟩ := kb4.len
          have OR : Hid (OwnA _ _ _ _ _) := ⟨_, _, rfl, i04, ka4, ia4, kb4⟩
          clear i04 ka4 ia4 kb4
          have hlo := Since.lt hc3
          have hhi := hs4.size
          have hc4 := Since.trans hc3 hs4
          have hBl := (BB_2.out).lt
          have BB_3 := Lib.hid ((BB_2.out).since hs4)
          refine hK.out _ _ (HKC.out _ hc4) (fun hHeld4 => ?_)
          clear hK K hHeld3
          try simp only [Act.put, List.setIfInBounds_toArray, List.set_cons_zero, List.set_cons_succ]
          refine take_yes 5 (some 9) (v := ?_) rfl (by kernel_rfl) (by kernel_rfl) (by kernel_rfl) (by kernel_rfl) (fun _ _ _ h => h) (by rfl) (by assumption) ?_ ?_
          rotate_left
          · (intro w' hSw; (try dsimp only at hSw); go_simp; try with_reducible rfl)
          try simp only [Act.put, List.setIfInBounds_toArray, List.set_cons_zero, List.set_cons_succ]
          refine take_yes 6 (some 15) (v := ?_) rfl (by kernel_rfl) (by kernel_rfl) (by kernel_rfl) (by kernel_rfl) (fun _ _ _ h => h) (by rfl) (by assumption) ?_ ?_
          rotate_left
          · (intro w' hSw; (try dsimp only at hSw); go_simp; try with_reducible rfl)
          try simp only [Act.put, List.setIfInBounds_toArray, List.set_cons_zero, List.set_cons_succ]
          refine take_yes 7 (some 16) (v := ?_) rfl (by kernel_rfl) (by kernel_rfl) (by kernel_rfl) (by kernel_rfl) (fun _ _ _ h => h) (by rfl) (by assumption) ?_ ?_
          rotate_left
          · (intro w' hSw; (try dsimp only at hSw); go_simp; try with_reducible rfl)
          try simp only [Act.put, List.setIfInBounds_toArray, List.set_cons_zero, List.set_cons_succ]
          refine take_run 9 rfl (by kernel_rfl) (by rfl) (fun K hK => ?_)
          obtain ⟨⟨s0, s1, s2⟩, s5, s6, s7⟩ := (BB_3.out).threeA
          go_simp
          clear s0 s1 s2 s5 s6 s7
          have hcf := (Since.setCell (Since.setCell (Since.setCell hc4 (a := ⟨q1.heap.size, 0, none⟩) hB2 (.int .i64 R.st)) (a := ⟨q1.heap.size, 1, none⟩) hB2 (.slice rso R.ac.length rsc)) (a := ⟨q1.heap.size, 2, none⟩) hB2 (.slice ruo R.nx.length ruc))
          refine hK.out _ _ (HKC.out _ hcf) (fun hHeldz => ?_)
          clear hK K hHeld4
          try simp only [Act.put, List.setIfInBounds_toArray, List.set_cons_zero, List.set_cons_succ]
          refine take_yes 10 (some 4) (v := ?_) rfl (by kernel_rfl) (by kernel_rfl) (by kernel_rfl) (by kernel_rfl) (fun _ _ _ h => h) (by rfl) (by assumption) ?_ ?_
          rotate_left
          · (intro w' hSw; (try dsimp only at hSw); go_simp; try with_reducible rfl)
          try simp only [Act.put, List.setIfInBounds_toArray, List.set_cons_zero, List.set_cons_succ]
          refine wpAnyH_done (by kernel_rfl) ?_ _
          clear hHeldz
          go_wp2_with fail
          go_meet
          all_goals
            refine boxA_mk (q1.heap.size) hB2 ?_ ?_ ((OR.out).far3 ?_) ((((BB_3.out).set 0 (.int .i64 R.st)).set 1 (.slice rso R.ac.length rsc)).set 2 (.slice ruo R.nx.length ruc)) hcf
            all_goals (first | omega | (simp; omega) | simp)
      · skip
        go_simp
        have hc1 := Since.alloc (Since.refl w1).drew (.cells #[.int .i64 0, .slice none 0 0, .slice none 0 0] 49)
        have hal1 : Since w1.drew (w1.drew.alloc (.cells #[.int .i64 0, .slice none 0 0, .slice none 0 0] 49)) := (Since.refl _).alloc _
        have B1 : Hid (Blk (w1.drew.alloc (.cells #[.int .i64 0, .slice none 0 0, .slice none 0 0] 49)) (w1.heap.size) 49 #[.int .i64 0, .slice none 0 0, .slice none 0 0]) := Blk.new (by simp) _ _
        have hB1 : w1.heap.size ≤ w1.heap.size := by have := Since.lt (Since.refl w1).drew; first | exact this | simpa using this
        refine hK.out _ _ (HKC.out _ hc1) (fun hHeld1 => ?_)
        clear hK K hHeld
        try simp only [Act.put, List.setIfInBounds_toArray, List.set_cons_zero, List.set_cons_succ]
        refine take_run 2 rfl (by kernel_rfl) (by rfl) (fun K hK => ?_)
        go_simp
        refine (HLV.out _ (hW1b.trans hc1)).mono ?_
        rintro en q2 ⟨v2, rfl, ho2, hs2⟩
        have hc2 := Since.trans hc1 hs2
        have BB_1 := Lib.hid ((B1.out).since hs2)
        have LV2 := Lib.hid ho2.at
        clear ho2
        refine hK.out _ _ (HKC.out _ hc2) (fun hHeld2 => ?_)
        clear hK K hHeld1
        try simp only [Act.put, List.setIfInBounds_toArray, List.set_cons_zero, List.set_cons_succ]
        refine take_run 3 rfl (by kernel_rfl) (by rfl) (fun K hK => ?_)
        go_simp
        refine (HMC.out _ _ (hW1b.trans hc2) LV2.out).mono ?_
        rintro en q3 ⟨BA, BL, rfl, _, _, hm3, hs3⟩
        have hc3 := Since.trans hc2 hs3
        have BB_2 := Lib.hid ((BB_1.out).since hs3)
        have MC3 := Lib.hid hm3
        clear hm3
        refine hK.out _ _ (HKC.out _ hc3) (fun hHeld3 => ?_)
        clear hK K hHeld2
        try simp only [Act.put, List.setIfInBounds_toArray, List.set_cons_zero, List.set_cons_succ]
        refine take_run 4 rfl (by kernel_rfl) (by rfl) (fun K hK => ?_)
        go_simp
        refine (HAU.out _ _ _ MC3.out).mono ?_
        rintro en q4 ⟨v4, rfl, ho4, hs4⟩
        obtain ⟨rs4, ru4, rfl, i04, ka4, ia4, kb4⟩ := ho4
        obtain ⟨rso, rsc, rfl⟩ := ka4.len
        obtain ⟨ruo, ruc, rfl⟩ := kb4.len
        have OR : Hid (OwnA _ _ _ _ _) := ⟨_, _, rfl, i04, ka4, ia4, kb4⟩
        clear i04 ka4 ia4 kb4
        have hlo := Since.lt hc3
        have hhi := hs4.size
        have hc4 := Since.trans hc3 hs4
        have hBl := (BB_2.out).lt
        have BB_3 := Lib.hid ((BB_2.out).since hs4)
        refine hK.out _ _ (HKC.out _ hc4) (fun hHeld4 => ?_)
        clear hK K hHeld3
        try simp only [Act.put, List.setIfInBounds_toArray, List.set_cons_zero, List.set_cons_succ]
        refine take_yes 5 (some 9) (v := ?_) rfl (by kernel_rfl) (by kernel_rfl) (by kernel_rfl) (by kernel_rfl) (fun _ _ _ h => h) (by rfl) (by assumption) ?_ ?_
        rotate_left
        · (intro w' hSw; (try dsimp only at hSw); go_simp; try with_reducible rfl)
        try simp only [Act.put, List.setIfInBounds_toArray, List.set_cons_zero, List.set_cons_succ]
        refine take_yes 6 (some 15) (v := ?_) rfl (by kernel_rfl) (by kernel_rfl) (by kernel_rfl) (by kernel_rfl) (fun _ _ _ h => h) (by rfl) (by assumption) ?_ ?_
        rotate_left
        · (intro w' hSw; (try dsimp only at hSw); go_simp; try with_reducible rfl)
        try simp only [Act.put, List.setIfInBounds_toArray, List.set_cons_zero, List.set_cons_succ]
        refine take_yes 7 (some 16) (v := ?_) rfl (by kernel_rfl) (by kernel_rfl) (by kernel_rfl) (by kernel_rfl) (fun _ _ _ h => h) (by rfl) (by assumption) ?_ ?_
        rotate_left
        · (intro w' hSw; (try dsimp only at hSw); go_simp; try with_reducible rfl)
        try simp only [Act.put, List.setIfInBounds_toArray, List.set_cons_zero, List.set_cons_succ]
        refine take_run 9 rfl (by kernel_rfl) (by rfl) (fun K hK => ?_)
        obtain ⟨⟨s0, s1, s2⟩, s5, s6, s7⟩ := (BB_3.out).threeA
        go_simp
        clear s0 s1 s2 s5 s6 s7
        have hcf := (Since.setCell (Since.setCell (Since.setCell hc4 (a := ⟨w1.heap.size, 0, none⟩) hB1 (.int .i64 R.st)) (a := ⟨w1.heap.size, 1, none⟩) hB1 (.slice rso R.ac.length rsc)) (a := ⟨w1.heap.size, 2, none⟩) hB1 (.slice ruo R.nx.length ruc))
        refine hK.out _ _ (HKC.out _ hcf) (fun hHeldz => ?_)
        clear hK K hHeld4
        try simp only [Act.put, List.setIfInBounds_toArray, List.set_cons_zero, List.set_cons_succ]
        refine take_yes 10 (some 4) (v := ?_) rfl (by kernel_rfl) (by kernel_rfl) (by kernel_rfl) (by kernel_rfl) (fun _ _ _ h => h) (by rfl) (by assumption) ?_ ?_
        rotate_left
        · (intro w' hSw; (try dsimp only at hSw); go_simp; try with_reducible rfl)
        try simp only [Act.put, List.setIfInBounds_toArray, List.set_cons_zero, List.set_cons_succ]
        refine wpAnyH_done (by kernel_rfl) ?_ _
        clear hHeldz
        go_wp2_with fail
        go_meet
        all_goals
          refine boxA_mk (w1.heap.size) hB1 ?_ ?_ ((OR.out).far3 ?_) ((((BB_3.out).set 0 (.int .i64 R.st)).set 1 (.slice rso R.ac.length rsc)).set 2 (.slice ruo R.nx.length ruc)) hcf
          all_goals (first | omega | (simp; omega) | simp)
    case rest =>
      obtain ⟨wx, hwx⟩ : ∃ W, W = wc := ⟨_, rfl⟩
      subst hwx
      obtain ⟨lo, hi, B, so, sc, uo, uc, hpp, l0, l1, l2, l3, hO, hK, hS⟩ := hcut
      subst hpp
      have HO := Lib.hid hO
      have hS2 := hW1b.trans hS
      obtain ⟨⟨t0, t1, t2⟩, _⟩ := hK.threeA
      obtain ⟨⟨r0, r1, r2⟩, r3, r4, r5⟩ := (C1.out.since hS).threeA
      clear hO
      go_wp2
      refine bodyPost_ret (v := .agg #[.int .i64 R.st, .slice so R.ac.length sc, .slice uo R.nx.length uc]) (by simp [results, Try.results48, go_sem, *]) rfl ?_
      refine ⟨_, rfl, ?_, ?_⟩
      · refine OwnA.wider (lo := lo) (hi := hi) ?_ (by omega) (by simp <;> omega)
        iterate 3 (with_reducible refine OwnA.far1 ?_ (.inl (by omega)) _ _)
        exact HO.out
      · iterate 3 (with_reducible refine Since.setCell ?_ (by simp <;> omega) _)
        exact hS2
end Go.Proofs.Ytblmiocjhbpklaa
