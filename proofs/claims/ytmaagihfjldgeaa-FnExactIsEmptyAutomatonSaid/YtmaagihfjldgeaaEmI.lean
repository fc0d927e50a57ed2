/- IsEmptyAutomaton, the model's and the program's. -/
import Derived.Test.YtmaagihfjldgeaaFnM
import Derived.Test.YtmaagihfjldgeaaAuU
import Derived.Test.YtmaagihfjldgeaaK1
namespace Go.Proofs.Ytmaagihfjldgeaa
set_option maxRecDepth 100000
open Go.ChangeShapes Go.WideShapes Go.ChangeAt Go.RowKit Go.Maps
set_option linter.unusedVariables false
set_option linter.unusedSimpArgs false

/-- What IsEmptyAutomaton answers. -/
def empB (A : Aut) (f : Nat → Bool) : Bool := validA A && !f A.st.toNat
theorem useful_none {A : Aut} {f g : Nat → Bool} (hv : ValidA A) (hf : ∀ s, f s = true ↔ LiveP A s) (hg : ∀ s, g s = true ↔ RchP A s) : (usefulL f g A.ac.length).length = 0 ↔ f A.st.toNat = false := by
  have hst := inA_st hv
  have hsn : A.st.toNat < A.ac.length := by unfold InA at hst; omega
  have key : (usefulL f g A.ac.length).length = 0 ↔ ∀ s, s < A.ac.length → ¬ (g s = true ∧ f s = true) := by
    unfold usefulL
    rw [List.length_map, List.length_eq_zero_iff, List.filter_eq_nil_iff]
    constructor
    · intro h s hs hc
      have := h s (List.mem_range.2 hs)
      simp [hc.1, hc.2] at this
    · intro h s hs
      have := h s (List.mem_range.1 hs)
      simpa using this
  rw [key]
  constructor
  · intro h
    cases e : f A.st.toNat with
    | false => rfl
    | true => exact absurd ⟨(hg _).2 (LeastP.base (by rw [startL_at hsn]; simp)), e⟩ (h _ hsn)
  · intro h s hs hc
    have hl := (hf s).1 hc.2
    have : LiveP A A.st.toNat := by
      rcases rch_plus hv hs ((hg s).1 hc.1) with e | e
      · rw [← e]; exact hl
      · exact e.live hl
    rw [(hf _).2 this] at h
    cases h
set_option maxHeartbeats 2000000 in
set_option maxRecDepth 100000 in
theorem implEM_any (v : Value) (A : Aut) (f : Nat → Bool) (w : World) (h : AutAt w v A) (hm : MxA A) (hf : ∀ s, f s = true ↔ LiveP A s) :
    Calls Try.prog 42 #[v] w fun e w' => e = .returned (.bool (empB A f)) ∧ Since w w' := by
  obtain ⟨g, hg⟩ := pred_bool (RchP A)
  have HVA : Hid (∀ W, Since w W → Calls Try.prog 92 #[v] W fun e w' => e = .returned (.bool (validA A)) ∧ Since W w') := fun W hW => implVA_any v A W (h.since hW) hm
  have HUS : Hid (∀ W, Since w W → Calls Try.prog 110 #[v] W (OwnOut W (usL f g A))) := fun W hW => implUS_any v A f g W (h.since hW) hm hf hg
  obtain ⟨a, b, rfl, _, ha, hb⟩ := h
  obtain ⟨ao, ca, rfl⟩ := ha.len
  obtain ⟨bo, cb, rfl⟩ := hb.len
  clear ha hb hm
  obtain ⟨V, hV⟩ : ∃ b, b = validA A := ⟨_, rfl⟩
  obtain ⟨U, hU⟩ : ∃ q, q = usL f g A := ⟨_, rfl⟩
  have HB : Hid (V = true → empB A f = ((U.length : Int) == 0)) := fun hv => by
    have hv2 : validA A = true := by rw [← hV]; exact hv
    rw [hU, usL_yes hv2]
    unfold empB
    rw [hv2, Bool.true_and]
    have k := useful_none ((validA_iff A).1 hv2) hf hg
    cases e : f A.st.toNat with
    | false =>
      rw [k.2 e]; rfl
    | true =>
      have : (usefulL f g A.ac.length).length ≠ 0 := fun h0 => by rw [k.1 h0] at e; cases e
      show false = _
      exact (beq_eq_false_iff_ne.2 (by omega)).symm
  have HN : Hid (V = false → empB A f = false) := fun hv => by unfold empB; rw [← hV, hv]; rfl
  rw [← hV] at HVA
  rw [← hU] at HUS
  obtain ⟨X, hX⟩ : ∃ q, q = empB A f := ⟨_, rfl⟩
  rw [← hX] at HB HN ⊢
  clear hV hU hX hf hg
  obtain ⟨n, hn⟩ : ∃ n, n = A.ac.length := ⟨_, rfl⟩
  obtain ⟨m, hmm⟩ : ∃ n, n = A.nx.length := ⟨_, rfl⟩
  rw [← hn, ← hmm] at HVA HUS ⊢
  clear hn hmm
  obtain ⟨y, hy⟩ : ∃ y, y = w.alloc (.cells #[.int .i64 A.st, .slice ao n ca, .slice bo m cb] 39) := ⟨_, rfl⟩
  have hs0 : Since w y := by rw [hy]; exact (Since.refl w).alloc _
  have B0 : Hid (Blk y w.heap.size 39 #[.int .i64 A.st, .slice ao n ca, .slice bo m cb]) := by rw [hy]; exact Blk.new rfl _ _
  have HY := Lib.hid hy
  clear hy
  go_enter Try.func42, Try.ntmps42
  go_upto_region 1 with fail
  rw [← HY.out]
  obtain ⟨⟨p0, p1, p2⟩, _⟩ := B0.out.threeA
  go_wp2_with fail
  refine (HVA.out _ hs0).mono ?_
  rintro e w1 ⟨rfl, hq⟩
  have hs1 := hs0.trans hq
  have B1 := Lib.hid (B0.out.since hq)
  clear p0 p1 p2 hq hs0
  obtain ⟨⟨p0, p1, p2⟩, _⟩ := B1.out.threeA
  cases V with
  | false =>
    have HF := Lib.hid (HN.out rfl)
    clear HN HB
    go_wp2
    go_ret
    exact ⟨ret_bool HF.out.symm, hs1⟩
  | true =>
    have HF := Lib.hid (HB.out rfl)
    clear HN HB
    go_wp2_with fail
    refine (HUS.out _ hs1).mono ?_
    rintro e w2 ⟨z, rfl, hoz, hq⟩
    obtain ⟨zo, zc, rfl⟩ := hoz.len
    have hs2 := hs1.trans hq
    clear hoz
    go_wp2
    go_ret
    exact ⟨ret_bool HF.out.symm, hs2⟩
set_option maxHeartbeats 2000000 in
set_option maxRecDepth 100000 in
theorem specEM_any (v : Value) (A : Aut) (f : Nat → Bool) (w : World) (h : AutAt w v A) (hm : MxA A) (hf : ∀ s, f s = true ↔ LiveP A s) :
    Calls Try.prog 41 #[v] w fun e w' => e = .returned (.bool (empB A f)) ∧ Since w w' := by
  have HVA : Hid (∀ W, Since w W → Calls Try.prog 34 #[v] W fun e w' => e = .returned (.bool (validA A)) ∧ Since W w') := fun W hW => specVA_any v A W (h.since hW) hm
  have HLV : Hid (∀ W, Since w W → validA A = true → Calls Try.prog 109 #[v] W (BoOut W (boL f A.ac.length))) := fun W hW hv => specLive_any v A f W (h.since hW) ((validA_iff A).1 hv) hf
  have HST : Hid (validA A = true → 0 ≤ A.st ∧ A.st < (A.ac.length : Int)) := fun hv => ((validA_iff A).1 hv).2.2.1
  obtain ⟨a, b, rfl, _, ha, hb⟩ := h
  obtain ⟨ao, ca, rfl⟩ := ha.len
  obtain ⟨bo, cb, rfl⟩ := hb.len
  clear ha hb hm
  obtain ⟨V, hV⟩ : ∃ b, b = validA A := ⟨_, rfl⟩
  have HX : Hid (empB A f = (V && !f A.st.toNat)) := by unfold Hid empB; rw [hV]
  rw [← hV] at HVA HLV HST
  clear hV hf
  obtain ⟨n, hn⟩ : ∃ n, n = A.ac.length := ⟨_, rfl⟩
  obtain ⟨m, hmm⟩ : ∃ n, n = A.nx.length := ⟨_, rfl⟩
  rw [← hn, ← hmm] at HVA HLV ⊢
  rw [← hn] at HST
  clear hn hmm
  obtain ⟨y, hy⟩ : ∃ y, y = w.alloc (.cells #[.int .i64 A.st, .slice ao n ca, .slice bo m cb] 39) := ⟨_, rfl⟩
  have hs0 : Since w y := by rw [hy]; exact (Since.refl w).alloc _
  have B0 : Hid (Blk y w.heap.size 39 #[.int .i64 A.st, .slice ao n ca, .slice bo m cb]) := by rw [hy]; exact Blk.new rfl _ _
  have HKC : Hid (∀ w', Since y w' → w'.cell? ⟨w.heap.size, 0, none⟩ = some (.int .i64 A.st) ∧ w'.cell? ⟨w.heap.size, 1, none⟩ = some (.slice ao n ca) ∧ w'.cell? ⟨w.heap.size, 2, none⟩ = some (.slice bo m cb)) := by
    intro w' hs
    exact (B0.out.since hs).threeA.1
  have HY := Lib.hid hy
  clear hy
  go_enter Try.func41, Try.ntmps41
  go_upto_region 1 with fail
  rw [← HY.out]
  cases V with
  | false =>
    go_wp2_with fail
    refine wp_region_held_drew (S := (fun w' => w'.cell? ⟨w.heap.size, 0, none⟩ = some (.int .i64 A.st) ∧ w'.cell? ⟨w.heap.size, 1, none⟩ = some (.slice ao n ca) ∧ w'.cell? ⟨w.heap.size, 2, none⟩ = some (.slice bo m cb))) (by kernel_rfl) (HKC.out _ (Since.refl _).drew) (fun hHeld => ?_)
    refine take_yes 0 (some 3) (v := ?_) rfl (by kernel_rfl) (by kernel_rfl) (by kernel_rfl) (by kernel_rfl) (fun _ _ _ h => h) (by rfl) (by assumption) ?_ ?_
    rotate_left
    · (intro w' hSw; (try dsimp only at hSw); go_simp; try with_reducible rfl)
    try simp only [Act.put, List.setIfInBounds_toArray, List.set_cons_zero, List.set_cons_succ]
    refine take_run 1 rfl (by kernel_rfl) (by rfl) (fun K hK => ?_)
    go_simp
    refine (HVA.out _ (hs0.trans (Since.refl _).drew)).mono ?_
    rintro e w1 ⟨rfl, hq⟩
    have hc1 := Since.of_drew hq
    refine hK.out _ _ (HKC.out _ hc1) (fun hHeld2 => ?_)
    clear hK K hHeld
    try simp only [Act.put, List.setIfInBounds_toArray, List.set_cons_zero, List.set_cons_succ]
    refine take_yes 2 (some 5) (v := ?_) rfl (by kernel_rfl) (by kernel_rfl) (by kernel_rfl) (by kernel_rfl) (fun _ _ _ h => h) (by rfl) (by assumption) ?_ ?_
    rotate_left
    · (intro w' hSw; (try dsimp only at hSw); go_simp; try with_reducible rfl)
    try simp only [Act.put, List.setIfInBounds_toArray, List.set_cons_zero, List.set_cons_succ]
    refine take_no 3 (some 6) rfl (by kernel_rfl) (by kernel_rfl) (by kernel_rfl) (by kernel_rfl) (fun _ _ _ h => h) (by rfl) (by assumption) ?_
    try simp only [Act.put, List.setIfInBounds_toArray, List.set_cons_zero, List.set_cons_succ]
    refine take_no 4 (some 7) rfl (by kernel_rfl) (by kernel_rfl) (by kernel_rfl) (by kernel_rfl) (fun _ _ _ h => h) (by rfl) (by assumption) ?_
    try simp only [Act.put, List.setIfInBounds_toArray, List.set_cons_zero, List.set_cons_succ]
    refine take_no 5 (some 8) rfl (by kernel_rfl) (by kernel_rfl) (by kernel_rfl) (by kernel_rfl) (fun _ _ _ h => h) (by rfl) (by assumption) ?_
    try simp only [Act.put, List.setIfInBounds_toArray, List.set_cons_zero, List.set_cons_succ]
    refine take_no 6 (some 9) rfl (by kernel_rfl) (by kernel_rfl) (by kernel_rfl) (by kernel_rfl) (fun _ _ _ h => h) (by rfl) (by assumption) ?_
    try simp only [Act.put, List.setIfInBounds_toArray, List.set_cons_zero, List.set_cons_succ]
    refine take_no 7 (some 10) rfl (by kernel_rfl) (by kernel_rfl) (by kernel_rfl) (by kernel_rfl) (fun _ _ _ h => h) (by rfl) (by assumption) ?_
    try simp only [Act.put, List.setIfInBounds_toArray, List.set_cons_zero, List.set_cons_succ]
    refine take_no 8 (some 11) rfl (by kernel_rfl) (by kernel_rfl) (by kernel_rfl) (by kernel_rfl) (fun _ _ _ h => h) (by rfl) (by assumption) ?_
    try simp only [Act.put, List.setIfInBounds_toArray, List.set_cons_zero, List.set_cons_succ]
    refine take_no 9 (some 12) rfl (by kernel_rfl) (by kernel_rfl) (by kernel_rfl) (by kernel_rfl) (fun _ _ _ h => h) (by rfl) (by assumption) ?_
    try simp only [Act.put, List.setIfInBounds_toArray, List.set_cons_zero, List.set_cons_succ]
    refine take_yes 10 (some 13) (v := ?_) rfl (by kernel_rfl) (by kernel_rfl) (by kernel_rfl) (by kernel_rfl) (fun _ _ _ h => h) (by rfl) (by assumption) ?_ ?_
    rotate_left
    · (intro w' hSw; (try dsimp only at hSw); go_simp; try with_reducible rfl)
    try simp only [Act.put, List.setIfInBounds_toArray, List.set_cons_zero, List.set_cons_succ]
    refine take_yes 11 (some 2) (v := ?_) rfl (by kernel_rfl) (by kernel_rfl) (by kernel_rfl) (by kernel_rfl) (fun _ _ _ h => h) (by rfl) (by assumption) ?_ ?_
    rotate_left
    · (intro w' hSw; (try dsimp only at hSw); go_simp; try with_reducible rfl)
    try simp only [Act.put, List.setIfInBounds_toArray, List.set_cons_zero, List.set_cons_succ]
    refine wpAnyH_done (by kernel_rfl) ?_ _
    clear hHeld2
    go_wp2
    go_ret
    exact ⟨ret_bool (by rw [HX.out]; rfl), hs0.trans hc1⟩
  | true =>
    obtain ⟨h0, h1⟩ := HST.out rfl
    obtain ⟨t, ht⟩ : ∃ t : Nat, A.st = t := ⟨A.st.toNat, by omega⟩
    rw [ht] at h0 h1 HKC B0 ⊢
    have HX2 : Hid (empB A f = !f t) := by unfold Hid; rw [HX.out, ht, Int.toNat_natCast]; rfl
    rw [ht] at HVA HLV HY
    clear HX HST
    have htn : t < n := by omega
    obtain ⟨q0, hq0⟩ : ∃ q, q = f t := ⟨_, rfl⟩
    rw [← hq0] at HX2
    have HQ0 := Lib.hid hq0
    clear hq0
    go_wp2_with fail
    refine wp_region_held_drew (S := (fun w' => w'.cell? ⟨w.heap.size, 0, none⟩ = some (.int .i64 (t : Int)) ∧ w'.cell? ⟨w.heap.size, 1, none⟩ = some (.slice ao n ca) ∧ w'.cell? ⟨w.heap.size, 2, none⟩ = some (.slice bo m cb))) (by kernel_rfl) (HKC.out _ (Since.refl _).drew) (fun hHeld => ?_)
    refine take_yes 0 (some 3) (v := ?_) rfl (by kernel_rfl) (by kernel_rfl) (by kernel_rfl) (by kernel_rfl) (fun _ _ _ h => h) (by rfl) (by assumption) ?_ ?_
    rotate_left
    · (intro w' hSw; (try dsimp only at hSw); go_simp; try with_reducible rfl)
    try simp only [Act.put, List.setIfInBounds_toArray, List.set_cons_zero, List.set_cons_succ]
    refine take_run 1 rfl (by kernel_rfl) (by rfl) (fun K hK => ?_)
    go_simp
    refine (HVA.out _ (hs0.trans (Since.refl _).drew)).mono ?_
    rintro e w1 ⟨rfl, hq⟩
    have hc1 := Since.of_drew hq
    refine hK.out _ _ (HKC.out _ hc1) (fun hHeld2 => ?_)
    clear hK K hHeld
    try simp only [Act.put, List.setIfInBounds_toArray, List.set_cons_zero, List.set_cons_succ]
    refine take_yes 2 (some 5) (v := ?_) rfl (by kernel_rfl) (by kernel_rfl) (by kernel_rfl) (by kernel_rfl) (fun _ _ _ h => h) (by rfl) (by assumption) ?_ ?_
    rotate_left
    · (intro w' hSw; (try dsimp only at hSw); go_simp; try with_reducible rfl)
    try simp only [Act.put, List.setIfInBounds_toArray, List.set_cons_zero, List.set_cons_succ]
    refine take_yes 3 (some 6) (v := ?_) rfl (by kernel_rfl) (by kernel_rfl) (by kernel_rfl) (by kernel_rfl) (fun _ _ _ h => h) (by rfl) (by assumption) ?_ ?_
    rotate_left
    · (intro w' hSw; (try dsimp only at hSw); go_simp; try with_reducible rfl)
    try simp only [Act.put, List.setIfInBounds_toArray, List.set_cons_zero, List.set_cons_succ]
    refine take_yes 5 (some 8) (v := ?_) rfl (by kernel_rfl) (by kernel_rfl) (by kernel_rfl) (by kernel_rfl) (fun _ _ _ h => h) (by rfl) (by assumption) ?_ ?_
    rotate_left
    · (intro w' hSw; (try dsimp only at hSw); go_simp; try with_reducible rfl)
    try simp only [Act.put, List.setIfInBounds_toArray, List.set_cons_zero, List.set_cons_succ]
    refine take_yes 6 (some 9) (v := ?_) rfl (by kernel_rfl) (by kernel_rfl) (by kernel_rfl) (by kernel_rfl) (fun _ _ _ h => h) (by rfl) (by assumption) ?_ ?_
    rotate_left
    · (intro w' hSw; (try dsimp only at hSw); go_simp; try with_reducible rfl)
    try simp only [Act.put, List.setIfInBounds_toArray, List.set_cons_zero, List.set_cons_succ]
    refine take_run 4 rfl (by kernel_rfl) (by rfl) (fun K hK => ?_)
    go_simp
    refine (HLV.out _ (hs0.trans hc1) (by first | exact rfl | trivial)).mono ?_
    rintro e w2 ⟨z, rfl, hoz, hq2⟩
    have hc2 := hc1.trans hq2
    obtain ⟨zo, zc, rfl⟩ := OwnBo.len hoz
    have hcz : ∃ b off, zo = some ⟨b, off, none⟩ ∧ w2.cell? ⟨b, off + t, none⟩ = some (.bool q0) := by
      have hz9 := hoz.at
      rw [boL_length] at hz9
      obtain ⟨b, off, e1, _, h3⟩ := boL_cells hz9 t htn
      exact ⟨b, off, e1, by rw [HQ0.out]; exact h3⟩
    obtain ⟨zb, zoff, rfl, hcz2⟩ := hcz
    rw [boL_length]
    refine hK.out _ _ (HKC.out _ hc2) (fun hHeld3 => ?_)
    clear hK K hHeld2 hoz
    try simp only [Act.put, List.setIfInBounds_toArray, List.set_cons_zero, List.set_cons_succ]
    refine take_yes 7 (some 10) (v := ?_) rfl (by kernel_rfl) (by kernel_rfl) (by kernel_rfl) (by kernel_rfl) (fun _ _ _ h => h) (by rfl) (by assumption) ?_ ?_
    rotate_left
    · (intro w' hSw; (try dsimp only at hSw); go_simp; try with_reducible rfl)
    try simp only [Act.put, List.setIfInBounds_toArray, List.set_cons_zero, List.set_cons_succ]
    refine take_run 8 rfl (by kernel_rfl) (by rfl) (fun K hK => ?_)
    go_simp
    refine hK.out _ _ (HKC.out _ hc2) (fun hHeld4 => ?_)
    clear hK K hHeld3
    try simp only [Act.put, List.setIfInBounds_toArray, List.set_cons_zero, List.set_cons_succ]
    refine take_yes 9 (some 12) (v := ?_) rfl (by kernel_rfl) (by kernel_rfl) (by kernel_rfl) (by kernel_rfl) (fun _ _ _ h => h) (by rfl) (by assumption) ?_ ?_
    rotate_left
    · (intro w' hSw; (try dsimp only at hSw); go_simp; try with_reducible rfl)
    try simp only [Act.put, List.setIfInBounds_toArray, List.set_cons_zero, List.set_cons_succ]
    refine take_yes 10 (some 13) (v := ?_) rfl (by kernel_rfl) (by kernel_rfl) (by kernel_rfl) (by kernel_rfl) (fun _ _ _ h => h) (by rfl) (by assumption) ?_ ?_
    rotate_left
    · (intro w' hSw; (try dsimp only at hSw); go_simp; try with_reducible rfl)
    try simp only [Act.put, List.setIfInBounds_toArray, List.set_cons_zero, List.set_cons_succ]
    refine take_yes 11 (some 2) (v := ?_) rfl (by kernel_rfl) (by kernel_rfl) (by kernel_rfl) (by kernel_rfl) (fun _ _ _ h => h) (by rfl) (by assumption) ?_ ?_
    rotate_left
    · (intro w' hSw; (try dsimp only at hSw); go_simp; try with_reducible rfl)
    try simp only [Act.put, List.setIfInBounds_toArray, List.set_cons_zero, List.set_cons_succ]
    refine wpAnyH_done (by kernel_rfl) ?_ _
    clear hHeld4
    go_wp2
    go_ret
    exact ⟨ret_bool HX2.out.symm, hs0.trans hc2⟩
end Go.Proofs.Ytmaagihfjldgeaa
