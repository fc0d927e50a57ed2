/- TrimAutomaton, the program's. -/
import Derived.Test.YtmaagihfjldgeaaMaI
import Derived.Test.YtmaagihfjldgeaaAuZ
import Derived.Test.YtmaagihfjldgeaaA1
namespace Go.Proofs.Ytmaagihfjldgeaa
set_option maxRecDepth 100000
open Go.ChangeShapes Go.WideShapes Go.ChangeAt Go.RowKit Go.Maps
set_option linter.unusedVariables false
set_option linter.unusedSimpArgs false

def accZ1 (A : Aut) (s : Int) : Bool := at0 A.ac s.toNat
set_option maxRecDepth 100000 in
theorem accF_any (A : Aut) (f : Nat → Bool) (BA BL : Nat) (s : Int) (hs : InA A s) (W : World) (h : MchA A f BA BL W) :
    Calls Try.prog 162 #[.int .i64 s, .pointer (some ⟨BA, 0, none⟩)] W fun e w' => e = .returned (.bool (accZ1 A s)) ∧ Since W w' := by
  obtain ⟨ao, ca, bo, cb, h1, h2, h3⟩ := h.box
  obtain ⟨t, rfl⟩ : ∃ t : Nat, s = t := ⟨s.toNat, by unfold InA at hs; omega⟩
  have htn : t < A.ac.length := by unfold InA at hs; omega
  obtain ⟨ao', ca', e, HC⟩ := h2
  injection e with e1 e2 e3
  subst e1
  obtain ⟨b, off, rfl, hb, d⟩ := HC.out t htn
  have HE : Hid (accZ1 A (t : Int) = A.ac[t]) := by
    unfold Hid accZ1
    rw [Int.toNat_natCast, at0_get A.ac t htn]
  obtain ⟨x, hx⟩ : ∃ x, x = A.ac[t] := ⟨_, rfl⟩
  rw [← hx] at d HE
  rw [HE.out]
  obtain ⟨n, hn⟩ : ∃ n, n = A.ac.length := ⟨_, rfl⟩
  rw [← hn] at h1 htn
  have hti : (t : Int) < (n : Int) := by omega
  have ht0 : (0 : Int) ≤ (t : Int) := by omega
  obtain ⟨⟨p0, p1, p2⟩, _⟩ := h1.threeA
  clear HC h h1 h3 hx hn hs e2 e3
  go_enter Try.func162, Try.ntmps162
  go_wp2
  go_ret
  exact ⟨rfl, Since.refl W⟩
/-- What trimming leaves. -/
def trimN (A : Aut) (f : Nat → Bool) : Aut := autR (stepF A f) (accZ1 A) (numN (stepF A f) 12 A.st)
def trimA (A : Aut) (f : Nat → Bool) : Aut := if validA A = true then trimN A f else ⟨0, [], []⟩
theorem trimA_no {A : Aut} {f : Nat → Bool} (h : validA A = false) : trimA A f = ⟨0, [], []⟩ := by unfold trimA; rw [if_neg (by rw [h]; decide)]
theorem trimA_yes {A : Aut} {f : Nat → Bool} (h : validA A = true) : trimA A f = trimN A f := by unfold trimA; rw [if_pos h]
theorem inA_st {A : Aut} (h : ValidA A) : InA A A.st := by have := h.2.2.1; unfold InA; omega
theorem inA_in {A : Aut} (h : ValidA A) (s : Int) (hs : InA A s) : InI s := by have := h.1; unfold InA at hs; unfold InI; omega
theorem numF {A : Aut} (h : ValidA A) (h12 : A.ac.length ≤ 12) (f : Nat → Bool) : ∃ fs, numN (stepF A f) 12 A.st = some fs ∧ (∀ x ∈ fs, InA A x) ∧ (∀ s ∈ fs, ∀ k x, k < 9 → stepF A f s k = some x → x ∈ fs) ∧ fs.length ≤ 12 := by
  obtain ⟨fs, e, hf, _, hc⟩ := numN_all (numH_live h f (lim := 12) h12) A.st (inA_st h)
  exact ⟨fs, e, hf.2, hc, Nat.le_trans (pigeon_le hf.1 hf.2) h12⟩
/-- Whether no more than twelve are found. -/
def trimC (A : Aut) (f : Nat → Bool) : Bool := (numN (stepF A f) 12 A.st).isSome
theorem trimC_yes {A : Aut} (h : ValidA A) (h12 : A.ac.length ≤ 12) (f : Nat → Bool) : trimC A f = true := by
  obtain ⟨fs, e, _⟩ := numF h h12 f
  unfold trimC; rw [e]; rfl
theorem stepF_in {A : Aut} (hv : ValidA A) (f : Nat → Bool) (s : Int) (k : Nat) (x : Int) (hk : k < 9) (hs : InA A s) (hx : stepF A f s k = some x) : InA A x := by
  obtain ⟨h1, h2, _⟩ := stepF_some hx
  have := next_lt hv hs hk
  exact ⟨h1, by omega⟩
theorem liveA_any (A : Aut) (f : Nat → Bool) (hv : ValidA A) (BA BL : Nat) (W : World) (h : MchA A f BA BL W) : Calls Try.prog 184 #[mchV A BA BL, .int .i64 12] W (ABOut W (trimN A f) (trimC A f)) :=
  autI_any BA BL (stepF A f) (accZ1 A) (InA A) (fun s x k hk hs hx => stepF_in hv f s k x hk hs hx) (fun s hs => inA_in hv s hs) A.st (inA_st hv) 12 (by decide) (by decide) W
    (fun gs hg => by
      obtain ⟨f1, _, f3, f4⟩ := numN_some (Q := InA A) (fun s k x hk hs hx => stepF_in hv f s k x hk hs hx) (by decide) (inA_st hv) hg
      exact ⟨f1.2, f3, by omega⟩)
    (fun s k W' hW hs hk => nextF_any A f BA BL hv s k hs hk W' (h.since hW)) (fun s W' hW hs => accF_any A f BA BL s hs W' (h.since hW))
set_option maxHeartbeats 8000000 in
set_option maxRecDepth 100000 in
theorem trimmed_any (v : Value) (A : Aut) (f : Nat → Bool) (w : World) (h : AutAt w v A) (hv : ValidA A) (hf : ∀ s, f s = true ↔ LiveP A s) :
    Calls Try.prog 172 #[v] w (ABOut w (trimN A f) (trimC A f)) := by
  have HLV : Hid (∀ W, Since w W → Calls Try.prog 107 #[v] W (BoOut W (boL f A.ac.length))) := fun W hW => implLive_any v A f W (h.since hW) hv hf
  have HMC : Hid (∀ u W, Since w W → BosAt W u (boL f A.ac.length) → Calls Try.prog 106 #[v, u] W (MchOut A f W)) := fun u W hW hu => liveM_any v u A f W (h.since hW) hu
  have HAU : Hid (∀ BA BL W, MchA A f BA BL W → Calls Try.prog 184 #[mchV A BA BL, .int .i64 12] W (ABOut W (trimN A f) (trimC A f))) := fun BA BL W hw => liveA_any A f hv BA BL W hw
  obtain ⟨a, b, rfl, _, ha, hb⟩ := h
  obtain ⟨ao, ca, rfl⟩ := ha.len
  obtain ⟨bo, cb, rfl⟩ := hb.len
  clear ha hb hf
  obtain ⟨n, hn⟩ : ∃ n, n = A.ac.length := ⟨_, rfl⟩
  obtain ⟨m, hmm⟩ : ∃ n, n = A.nx.length := ⟨_, rfl⟩
  rw [← hn, ← hmm] at HLV HMC ⊢
  clear hn hmm hv
  obtain ⟨R, hR⟩ : ∃ R, R = trimN A f := ⟨_, rfl⟩
  obtain ⟨C, hC⟩ : ∃ C, C = trimC A f := ⟨_, rfl⟩
  rw [← hR, ← hC] at HAU ⊢
  clear hR hC
  obtain ⟨y, hy⟩ : ∃ y, y = (w.alloc (.cells #[.int .i64 A.st, .slice ao n ca, .slice bo m cb] 39)).alloc (.cells #[.int .i64 0, .slice none 0 0, .slice none 0 0] 39) := ⟨_, rfl⟩
  have hs0 : Since w y := by rw [hy]; exact ((Since.refl w).alloc _).alloc _
  have hz : y.heap.size = w.heap.size + 1 + 1 := by rw [hy]; simp
  have B0 : Hid (Blk y w.heap.size 39 #[.int .i64 A.st, .slice ao n ca, .slice bo m cb]) := by rw [hy]; exact (Blk.new rfl _ _).alloc _
  have B1 : Hid (Blk y (w.heap.size + 1) 39 #[.int .i64 0, .slice none 0 0, .slice none 0 0]) := by rw [hy]; exact Blk.new (by simp) _ _
  have HY := Lib.hid hy
  have HZ := Lib.hid hz
  have HSW := Lib.hid hs0
  have HKC : Hid (∀ w', Since y w' → w'.cell? ⟨w.heap.size, 0, none⟩ = some (.int .i64 A.st) ∧ w'.cell? ⟨w.heap.size, 1, none⟩ = some (.slice ao n ca) ∧ w'.cell? ⟨w.heap.size, 2, none⟩ = some (.slice bo m cb)) := by
    intro w' hs
    obtain ⟨⟨r0, r1, r2⟩, _⟩ := (B0.out.since hs).threeA
    exact ⟨r0, r1, r2⟩
  clear hy hz hs0
  go_enter Try.func172, Try.ntmps172
  go_upto_region 1 with fail
  rw [← HY.out]
  go_wp2_with fail
  refine wp_region_held_drew (S := (fun w' => w'.cell? ⟨w.heap.size, 0, none⟩ = some (.int .i64 A.st) ∧ w'.cell? ⟨w.heap.size, 1, none⟩ = some (.slice ao n ca) ∧ w'.cell? ⟨w.heap.size, 2, none⟩ = some (.slice bo m cb))) (by kernel_rfl) (HKC.out _ (Since.refl _).drew) (fun hHeld => ?_)
  refine take_yes 0 (some 4) (v := ?_) rfl (by kernel_rfl) (by kernel_rfl) (by kernel_rfl) (by kernel_rfl) (fun _ _ _ h => h) (by rfl) (by assumption) ?_ ?_
  rotate_left
  · (intro w' hSw; (try dsimp only at hSw); go_simp; try with_reducible rfl)
  try simp only [Act.put, List.setIfInBounds_toArray, List.set_cons_zero, List.set_cons_succ]
  refine take_yes 1 (some 5) (v := ?_) rfl (by kernel_rfl) (by kernel_rfl) (by kernel_rfl) (by kernel_rfl) (fun _ _ _ h => h) (by rfl) (by assumption) ?_ ?_
  rotate_left
  · (intro w' hSw; (try dsimp only at hSw); go_simp; try with_reducible rfl)
  try simp only [Act.put, List.setIfInBounds_toArray, List.set_cons_zero, List.set_cons_succ]
  refine take_run 2 rfl (by kernel_rfl) (by rfl) (fun K hK => ?_)
  go_simp
  refine (HLV.out _ (HSW.out.trans (Since.refl _).drew)).mono ?_
  rintro e w2 ⟨v2, rfl, ho2, hs2⟩
  have hc2 := Since.of_drew hs2
  have HL2 := Lib.hid ho2.at
  clear ho2
  refine hK.out _ _ (HKC.out _ hc2) (fun hHeld2 => ?_)
  clear hK K hHeld
  try simp only [Act.put, List.setIfInBounds_toArray, List.set_cons_zero, List.set_cons_succ]
  refine take_run 3 rfl (by kernel_rfl) (by rfl) (fun K hK => ?_)
  go_simp
  refine (HMC.out _ _ (HSW.out.trans hc2) HL2.out).mono ?_
  rintro e w3 ⟨BA, BL, rfl, _, _, hm3, hs3⟩
  have hc3 := hc2.trans hs3
  have HM3 := Lib.hid hm3
  clear hm3 HL2
  refine hK.out _ _ (HKC.out _ hc3) (fun hHeld3 => ?_)
  clear hK K hHeld2
  try simp only [Act.put, List.setIfInBounds_toArray, List.set_cons_zero, List.set_cons_succ]
  refine take_run 4 rfl (by kernel_rfl) (by rfl) (fun K hK => ?_)
  go_simp
  refine (HAU.out _ _ _ HM3.out).mono ?_
  rintro e w4 ⟨v4, rfl, ho4, hs4⟩
  have hc4 := hc3.trans hs4
  obtain ⟨r4a, r4b, rfl, i4, o4, n4, q4⟩ := ho4
  obtain ⟨so, sc, rfl⟩ := o4.len
  obtain ⟨uo, uc, rfl⟩ := q4.len
  have HO4 : Hid (OwnA _ _ _ _ _) := ⟨_, _, rfl, i4, o4, n4, q4⟩
  have hw4 := hs4.size
  have hw3 := hc3.size
  have hwz := HZ.out
  refine hK.out _ _ (HKC.out _ hc4) (fun hHeld4 => ?_)
  clear hK K hHeld3 i4 o4 n4 q4
  try simp only [Act.put, List.setIfInBounds_toArray, List.set_cons_zero, List.set_cons_succ]
  refine take_yes 5 (some 9) (v := ?_) rfl (by kernel_rfl) (by kernel_rfl) (by kernel_rfl) (by kernel_rfl) (fun _ _ _ h => h) (by rfl) (by assumption) ?_ ?_
  rotate_left
  · (intro w' hSw; (try dsimp only at hSw); go_simp; try with_reducible rfl)
  try simp only [Act.put, List.setIfInBounds_toArray, List.set_cons_zero, List.set_cons_succ]
  refine take_yes 6 (some 10) (v := ?_) rfl (by kernel_rfl) (by kernel_rfl) (by kernel_rfl) (by kernel_rfl) (fun _ _ _ h => h) (by rfl) (by assumption) ?_ ?_
  rotate_left
  · (intro w' hSw; (try dsimp only at hSw); go_simp; try with_reducible rfl)
  try simp only [Act.put, List.setIfInBounds_toArray, List.set_cons_zero, List.set_cons_succ]
  refine take_run 7 rfl (by kernel_rfl) (by rfl) (fun K hK => ?_)
  obtain ⟨⟨r0, r1, r2⟩, r3, r4, r5⟩ := (B1.out.since hc4).threeA
  go_simp
  clear r0 r1 r2 r3 r4 r5
  obtain ⟨w5, hw5⟩ : ∃ w5, w5 = ((w4.setCell ⟨w.heap.size + 1, 0, none⟩ (.int .i64 R.st)).setCell ⟨w.heap.size + 1, 1, none⟩ (.slice so R.ac.length sc)).setCell ⟨w.heap.size + 1, 2, none⟩ (.slice uo R.nx.length uc) := ⟨_, rfl⟩
  have hS5 : Since w w5 := by
    rw [hw5]
    iterate 3 (with_reducible refine Since.setCell ?_ (by simp) _)
    exact HSW.out.trans hc4
  have hO5 : OwnA w3.heap.size w4.heap.size w5 (.agg #[.int .i64 R.st, .slice so R.ac.length sc, .slice uo R.nx.length uc]) R := by
    rw [hw5]
    iterate 3 (with_reducible refine OwnA.far1 ?_ (.inl (by omega)) _ _)
    exact HO4.out
  have hB5 : Blk w5 (w.heap.size + 1) 39 #[.int .i64 R.st, .slice so R.ac.length sc, .slice uo R.nx.length uc] := by
    rw [hw5]
    exact (((B1.out.since hc4).set 0 _).set 1 _).set 2 _
  have hC5 : Blk w5 w.heap.size 39 #[.int .i64 A.st, .slice ao n ca, .slice bo m cb] := by
    rw [hw5]
    exact (((B0.out.since hc4).far (by simp) _).far (by simp) _).far (by simp) _
  have hz5 : w5.heap.size = w4.heap.size := by rw [hw5]; simp
  rw [← hw5]
  refine hK.out _ _ hC5.threeA.1 (fun hHeldz => ?_)
  clear hK K hHeld4 hw5 HO4
  try simp only [Act.put, List.setIfInBounds_toArray, List.set_cons_zero, List.set_cons_succ]
  refine take_yes 8 (some 3) (v := ?_) rfl (by kernel_rfl) (by kernel_rfl) (by kernel_rfl) (by kernel_rfl) (fun _ _ _ h => h) (by rfl) (by assumption) ?_ ?_
  rotate_left
  · (intro w' hSw; (try dsimp only at hSw); go_simp; try with_reducible rfl)
  try simp only [Act.put, List.setIfInBounds_toArray, List.set_cons_zero, List.set_cons_succ]
  refine wpAnyH_done (by kernel_rfl) ?_ _
  clear hHeldz
  obtain ⟨⟨r0, r1, r2⟩, _⟩ := hB5.threeA
  go_wp2
  refine bodyPost_ret (v := .tuple #[.agg #[.int .i64 R.st, .slice so R.ac.length sc, .slice uo R.nx.length uc], .bool C]) (by simp [results, Try.results172, go_sem, *]) rfl ?_
  exact ⟨_, rfl, hO5.wider (by omega) (by omega), hS5⟩
set_option maxHeartbeats 8000000 in
set_option maxRecDepth 100000 in
theorem implTA_any (v : Value) (A : Aut) (f : Nat → Bool) (w : World) (h : AutAt w v A) (hm : MxA A) (hf : ∀ s, f s = true ↔ LiveP A s) :
    Calls Try.prog 133 #[v] w (AOut w (trimA A f)) := by
  have HVA : Hid (∀ W, Since w W → Calls Try.prog 92 #[v] W fun e w' => e = .returned (.bool (validA A)) ∧ Since W w') := fun W hW => implVA_any v A W (h.since hW) hm
  have HTR : Hid (∀ W, Since w W → ValidA A → Calls Try.prog 172 #[v] W (ABOut W (trimN A f) (trimC A f))) := fun W hW hv => trimmed_any v A f W (h.since hW) hv hf
  obtain ⟨a, b, rfl, _, ha, hb⟩ := h
  obtain ⟨ao, ca, rfl⟩ := ha.len
  obtain ⟨bo, cb, rfl⟩ := hb.len
  clear ha hb hm hf
  obtain ⟨n, hn⟩ : ∃ n, n = A.ac.length := ⟨_, rfl⟩
  obtain ⟨m, hmm⟩ : ∃ n, n = A.nx.length := ⟨_, rfl⟩
  rw [← hn, ← hmm] at HVA HTR ⊢
  clear hn hmm
  obtain ⟨y, hy⟩ : ∃ y, y = (w.alloc (.cells #[.int .i64 A.st, .slice ao n ca, .slice bo m cb] 39)).alloc (.cells #[.int .i64 0, .slice none 0 0, .slice none 0 0] 39) := ⟨_, rfl⟩
  have hs0 : Since w y := by rw [hy]; exact ((Since.refl w).alloc _).alloc _
  have hz : y.heap.size = w.heap.size + 1 + 1 := by rw [hy]; simp
  have B0 : Hid (Blk y w.heap.size 39 #[.int .i64 A.st, .slice ao n ca, .slice bo m cb]) := by rw [hy]; exact (Blk.new rfl _ _).alloc _
  have B1 : Hid (Blk y (w.heap.size + 1) 39 #[.int .i64 0, .slice none 0 0, .slice none 0 0]) := by rw [hy]; exact Blk.new (by simp) _ _
  have HY := Lib.hid hy
  have HZ := Lib.hid hz
  clear hy hz
  cases e : validA A with
  | false =>
    have HB := Lib.hid e
    have HF := Lib.hid (trimA_no (f := f) e)
    clear e
    go_enter Try.func133, Try.ntmps133
    go_upto_region 1 with fail
    rw [← HY.out]
    obtain ⟨⟨p0, p1, p2⟩, _⟩ := B0.out.threeA
    go_wp2_with fail
    refine (HVA.out _ hs0).mono ?_
    rintro e w1 ⟨rfl, hs1⟩
    rw [HB.out]
    have HS1 := Lib.hid (hs0.trans hs1)
    obtain ⟨⟨r0, r1, r2⟩, r3, r4, r5⟩ := (B1.out.since hs1).threeA
    clear p0 p1 p2
    go_wp2
    refine bodyPost_ret (v := .agg #[.int .i64 0, nilS, nilS]) (by simp [results, Try.results133, go_sem, *]) rfl ?_
    rw [HF.out]
    refine ⟨_, rfl, ownA_zero _ _ _, ?_⟩
    repeat' (first | exact HS1.out | with_reducible refine Since.setCell ?_ (by simp <;> omega) _)
  | true =>
    have HB := Lib.hid e
    have HV : Hid (ValidA A) := (validA_iff A).1 e
    have HF := Lib.hid (trimA_yes (f := f) e)
    obtain ⟨R, hR⟩ : ∃ R, R = trimN A f := ⟨_, rfl⟩
    obtain ⟨C, hC⟩ : ∃ C, C = trimC A f := ⟨_, rfl⟩
    rw [← hR] at HF
    rw [← hR, ← hC] at HTR
    rw [HF.out]
    clear e hR hC HF
    go_enter Try.func133, Try.ntmps133
    go_upto_region 1 with fail
    rw [← HY.out]
    obtain ⟨⟨p0, p1, p2⟩, _⟩ := B0.out.threeA
    go_wp2_with fail
    refine (HVA.out _ hs0).mono ?_
    rintro e w1 ⟨rfl, hs01⟩
    rw [HB.out]
    have HS1 := Lib.hid (hs0.trans hs01)
    have C0 := Lib.hid (B0.out.since hs01)
    have C1 := Lib.hid (B1.out.since hs01)
    have hz1 : w.heap.size + 2 ≤ w1.heap.size := by have := hs01.size; have := HZ.out; omega
    clear p0 p1 p2 B0 B1 HVA hs0 hs01
    obtain ⟨⟨p0, p1, p2⟩, _⟩ := C0.out.threeA
    go_wp2_with fail
    refine (HTR.out _ HS1.out HV.out).mono ?_
    rintro e w2 ⟨v2, rfl, ho2, hs2⟩
    obtain ⟨r2a, r2b, rfl, i2, o2, n2, q2⟩ := ho2
    obtain ⟨so, sc, rfl⟩ := o2.len
    obtain ⟨uo, uc, rfl⟩ := q2.len
    have HO2 : Hid (OwnA _ _ _ _ _) := ⟨_, _, rfl, i2, o2, n2, q2⟩
    have hw2 := hs2.size
    have HS2 := Lib.hid (HS1.out.trans hs2)
    have C2 := Lib.hid (C1.out.since hs2)
    clear p0 p1 p2 i2 o2 n2 q2 hs2
    obtain ⟨y2, hy2⟩ : ∃ y2, y2 = w2.alloc (.cells #[.int .i64 R.st, .slice so R.ac.length sc, .slice uo R.nx.length uc] 39) := ⟨_, rfl⟩
    have hal : Since w2 y2 := by rw [hy2]; exact (Since.refl w2).alloc _
    have hz2 : y2.heap.size = w2.heap.size + 1 := by rw [hy2]; simp
    have D1 : Hid (Blk y2 w2.heap.size 39 #[.int .i64 R.st, .slice so R.ac.length sc, .slice uo R.nx.length uc]) := by rw [hy2]; exact Blk.new rfl _ _
    have D0 := Lib.hid (C2.out.since hal)
    have HS3 := Lib.hid (HS2.out.trans hal)
    have HO3 := Lib.hid (HO2.out.since hal)
    obtain ⟨⟨p0, p1, p2⟩, _⟩ := D1.out.threeA
    obtain ⟨⟨r0, r1, r2⟩, r3, r4, r5⟩ := D0.out.threeA
    rw [hy2] at p0 p1 p2 r0 r1 r2 r3 r4 r5
    clear hal
    go_wp2
    rw [← hy2]
    refine bodyPost_ret (v := .agg #[.int .i64 R.st, .slice so R.ac.length sc, .slice uo R.nx.length uc]) (by simp [results, Try.results133, go_sem, *]) rfl ?_
    refine ⟨_, rfl, ?_, ?_⟩
    · refine OwnA.wider (lo := w1.heap.size) (hi := w2.heap.size) ?_ (by omega) (by simp; omega)
      iterate 3 (with_reducible refine OwnA.far1 ?_ (.inl (by omega)) _ _)
      exact HO3.out
    · iterate 3 (with_reducible refine Since.setCell ?_ (by simp <;> omega) _)
      exact HS3.out
end Go.Proofs.Ytmaagihfjldgeaa
