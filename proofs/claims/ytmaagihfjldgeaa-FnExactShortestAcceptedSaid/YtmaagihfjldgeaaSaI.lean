/- ShortestAccepted, the program's and the model's. -/
import Derived.Test.YtmaagihfjldgeaaLiW
import Derived.Test.YtmaagihfjldgeaaMsI
import Derived.Test.YtmaagihfjldgeaaA5
import Derived.Test.YtmaagihfjldgeaaA4
import Derived.Test.YtmaagihfjldgeaaK1
namespace Go.Proofs.Ytmaagihfjldgeaa
set_option maxRecDepth 100000
open Go.ChangeShapes Go.WideShapes Go.ChangeAt Go.RowKit Go.Maps
set_option linter.unusedVariables false
set_option linter.unusedSimpArgs false

theorem saA_len (A : Aut) : ((saA A).getD []).length ≤ 2097160 := msA_len nothingA A
set_option maxHeartbeats 4000000 in
set_option maxRecDepth 100000 in
theorem implSA_any (v : Value) (A : Aut) (w : World) (h : AutAt w v A) (hm : MxA A) :
    Calls Try.prog 40 #[v] w (IBOut w ((saA A).getD []) (saA A).isSome) := by
  obtain ⟨f, hf⟩ := pred_bool (LiveP A)
  have HVA : Hid (∀ W, Since w W → Calls Try.prog 92 #[v] W fun e w' => e = .returned (.bool (validA A)) ∧ Since W w') := fun W hW => implVA_any v A W (h.since hW) hm
  have HLV : Hid (∀ W, validA A = true → Since w W → Calls Try.prog 107 #[v] W (BoOut W (boL f A.ac.length))) := fun W hv hW => implLive_any v A f W (h.since hW) ((validA_iff A).1 hv) hf
  have HMC : Hid (∀ u W, Since w W → BosAt W u (boL f A.ac.length) → Calls Try.prog 106 #[v, u] W (MchOut A f W)) := fun u W hW hu => liveM_any v u A f W (h.since hW) hu
  have HLW : Hid (∀ BA BL W, validA A = true → MchA A f BA BL W → Calls Try.prog 108 #[mchV A BA BL] W (WdOut W (saA A))) := fun BA BL W hv hw => by
    rw [saA_yes hv]
    exact lwordI_any A f BA BL _ W ((validA_iff A).1 hv) ((validA_iff A).2 hv) hw (sa_run ((validA_iff A).1 hv) hf (Nat.le_refl _))
  obtain ⟨a, b, rfl, _, ha, hb⟩ := h
  obtain ⟨ao, ca, rfl⟩ := ha.len
  obtain ⟨bo, cb, rfl⟩ := hb.len
  clear ha hb hm hf
  obtain ⟨V, hV⟩ : ∃ b, b = validA A := ⟨_, rfl⟩
  obtain ⟨R, hR⟩ : ∃ R, R = saA A := ⟨_, rfl⟩
  have HRN : Hid (V = false → R = none) := fun h => by rw [hR]; exact saA_no (by rw [← hV]; exact h)
  rw [← hV] at HVA HLV HLW
  rw [← hR] at HLW ⊢
  clear hV hR
  obtain ⟨n, hn⟩ : ∃ n, n = A.ac.length := ⟨_, rfl⟩
  obtain ⟨m, hmm⟩ : ∃ n, n = A.nx.length := ⟨_, rfl⟩
  rw [← hn, ← hmm] at HVA HLV HMC ⊢
  clear hn hmm
  obtain ⟨y, hy⟩ : ∃ y, y = w.alloc (.cells #[.int .i64 A.st, .slice ao n ca, .slice bo m cb] 39) := ⟨_, rfl⟩
  have hs0 : Since w y := by rw [hy]; exact (Since.refl w).alloc _
  have B0 : Hid (Blk y w.heap.size 39 #[.int .i64 A.st, .slice ao n ca, .slice bo m cb]) := by rw [hy]; exact Blk.new rfl _ _
  have HY := Lib.hid hy
  clear hy
  go_enter Try.func40, Try.ntmps40
  go_upto_region 1 with fail
  rw [← HY.out]
  obtain ⟨⟨p0, p1, p2⟩, _⟩ := B0.out.threeA
  go_wp2_with fail
  refine (HVA.out _ hs0).mono ?_
  rintro e w1 ⟨rfl, hq⟩
  have hs1 := hs0.trans hq
  have B1 := Lib.hid (B0.out.since hq)
  clear p0 p1 p2 hq hs0 B0
  cases V with
  | false =>
    have HF := Lib.hid (HRN.out rfl)
    go_wp2
    go_ret2
    rw [HF.out]
    exact ⟨_, rfl, ⟨fun x hx => by simp at hx, World.ownsRow_nil _ _ _ _⟩, hs1⟩
  | true =>
    have HSW := Lib.hid hs1
    have HKC : Hid (∀ w', Since w1 w' → w'.cell? ⟨w.heap.size, 0, none⟩ = some (.int .i64 A.st) ∧ w'.cell? ⟨w.heap.size, 1, none⟩ = some (.slice ao n ca) ∧ w'.cell? ⟨w.heap.size, 2, none⟩ = some (.slice bo m cb)) := by
      intro w' hs
      obtain ⟨⟨r0, r1, r2⟩, _⟩ := (B1.out.since hs).threeA
      exact ⟨r0, r1, r2⟩
    go_wp2_with fail
    refine wp_region_held_drew (S := (fun w' => w'.cell? ⟨w.heap.size, 0, none⟩ = some (.int .i64 A.st) ∧ w'.cell? ⟨w.heap.size, 1, none⟩ = some (.slice ao n ca) ∧ w'.cell? ⟨w.heap.size, 2, none⟩ = some (.slice bo m cb))) (by kernel_rfl) (HKC.out _ (Since.refl _).drew) (fun hHeld => ?_)
    refine take_yes 0 (some 7) (v := ?_) rfl (by kernel_rfl) (by kernel_rfl) (by kernel_rfl) (by kernel_rfl) (fun _ _ _ h => h) (by rfl) (by assumption) ?_ ?_
    rotate_left
    · (intro w' hSw; (try dsimp only at hSw); go_simp; try with_reducible rfl)
    try simp only [Act.put, List.setIfInBounds_toArray, List.set_cons_zero, List.set_cons_succ]
    refine take_yes 1 (some 8) (v := ?_) rfl (by kernel_rfl) (by kernel_rfl) (by kernel_rfl) (by kernel_rfl) (fun _ _ _ h => h) (by rfl) (by assumption) ?_ ?_
    rotate_left
    · (intro w' hSw; (try dsimp only at hSw); go_simp; try with_reducible rfl)
    try simp only [Act.put, List.setIfInBounds_toArray, List.set_cons_zero, List.set_cons_succ]
    refine take_run 2 rfl (by kernel_rfl) (by rfl) (fun K hK => ?_)
    go_simp
    refine (HLV.out _ (by first | rfl | trivial) (HSW.out.trans (Since.refl _).drew)).mono ?_
    rintro e w2 ⟨v2, rfl, ho2, hs2⟩
    have hc2 := Since.of_drew hs2
    have HL2 := Lib.hid ho2.at
    clear ho2
    refine hK.out _ _ (HKC.out _ hc2) (fun hHeld2 => ?_)
    clear hK K hHeld
    try simp only [Act.put, List.setIfInBounds_toArray, List.set_cons_zero, List.set_cons_succ]
    refine take_run 3 rfl (by kernel_rfl) (by rfl) (fun K hK => ?_)
    go_simp
    refine (HMC.out _ _ (HSW.out.trans hc2) HL2.out).mono ?_
    rintro e w3 ⟨BA, BL, rfl, _, _, hm3, hs3⟩
    have hc3 := hc2.trans hs3
    have HM3 := Lib.hid hm3
    clear hm3 HL2
    refine hK.out _ _ (HKC.out _ hc3) (fun hHeld3 => ?_)
    clear hK K hHeld2
    try simp only [Act.put, List.setIfInBounds_toArray, List.set_cons_zero, List.set_cons_succ]
    refine take_run 4 rfl (by kernel_rfl) (by rfl) (fun K hK => ?_)
    go_simp
    refine (HLW.out _ _ _ (by first | rfl | trivial) HM3.out).mono ?_
    rintro e w4 ⟨u, rfl, hou, hs4⟩
    have hc4 := hc3.trans hs4
    have hs9 := HSW.out.trans hc4
    have HOU := Lib.hid (hou.mono (HSW.out.trans hc3).size)
    refine hK.out _ _ (HKC.out _ hc4) (fun hHeld4 => ?_)
    clear hK K hHeld3 hou
    try simp only [Act.put, List.setIfInBounds_toArray, List.set_cons_zero, List.set_cons_succ]
    refine take_yes 5 (some 12) (v := ?_) rfl (by kernel_rfl) (by kernel_rfl) (by kernel_rfl) (by kernel_rfl) (fun _ _ _ h => h) (by rfl) (by assumption) ?_ ?_
    rotate_left
    · (intro w' hSw; (try dsimp only at hSw); go_simp; try with_reducible rfl)
    try simp only [Act.put, List.setIfInBounds_toArray, List.set_cons_zero, List.set_cons_succ]
    refine take_yes 6 (some 13) (v := ?_) rfl (by kernel_rfl) (by kernel_rfl) (by kernel_rfl) (by kernel_rfl) (fun _ _ _ h => h) (by rfl) (by assumption) ?_ ?_
    rotate_left
    · (intro w' hSw; (try dsimp only at hSw); go_simp; try with_reducible rfl)
    try simp only [Act.put, List.setIfInBounds_toArray, List.set_cons_zero, List.set_cons_succ]
    refine take_yes 7 (some 2) (v := ?_) rfl (by kernel_rfl) (by kernel_rfl) (by kernel_rfl) (by kernel_rfl) (fun _ _ _ h => h) (by rfl) (by assumption) ?_ ?_
    rotate_left
    · (intro w' hSw; (try dsimp only at hSw); go_simp; try with_reducible rfl)
    try simp only [Act.put, List.setIfInBounds_toArray, List.set_cons_zero, List.set_cons_succ]
    refine take_yes 8 (some 3) (v := ?_) rfl (by kernel_rfl) (by kernel_rfl) (by kernel_rfl) (by kernel_rfl) (fun _ _ _ h => h) (by rfl) (by assumption) ?_ ?_
    rotate_left
    · (intro w' hSw; (try dsimp only at hSw); go_simp; try with_reducible rfl)
    try simp only [Act.put, List.setIfInBounds_toArray, List.set_cons_zero, List.set_cons_succ]
    refine wpAnyH_done (by kernel_rfl) ?_ _
    clear hHeld4
    go_wp2
    go_ret2
    exact ⟨u, rfl, HOU.out, hs9⟩
set_option maxHeartbeats 4000000 in
set_option maxRecDepth 100000 in
theorem specSA_any (v : Value) (A : Aut) (w : World) (h : AutAt w v A) (hm : MxA A) :
    Calls Try.prog 67 #[v] w (IBOut w ((saA A).getD []) (saA A).isSome) := by
  have HMG : Hid (∀ u W, Since w W → AutAt W u nothingA → Calls Try.prog 38 #[u, v] W (IBOut W ((saA A).getD []) (saA A).isSome)) := fun u W hW hu => specMG_any u v nothingA A W hu (h.since hW) nothing_mx hm
  obtain ⟨a, b, rfl, _, ha, hb⟩ := h
  obtain ⟨ao, ca, rfl⟩ := ha.len
  obtain ⟨bo, cb, rfl⟩ := hb.len
  clear ha hb hm
  obtain ⟨R, hR⟩ : ∃ R, R = saA A := ⟨_, rfl⟩
  rw [← hR] at HMG ⊢
  clear hR
  obtain ⟨n, hn⟩ : ∃ n, n = A.ac.length := ⟨_, rfl⟩
  obtain ⟨m, hmm⟩ : ∃ n, n = A.nx.length := ⟨_, rfl⟩
  rw [← hn, ← hmm] at HMG ⊢
  clear hn hmm
  obtain ⟨y, hy⟩ : ∃ y, y = w.alloc (.cells #[.int .i64 A.st, .slice ao n ca, .slice bo m cb] 39) := ⟨_, rfl⟩
  have hs0 : Since w y := by rw [hy]; exact (Since.refl w).alloc _
  have B0 : Hid (Blk y w.heap.size 39 #[.int .i64 A.st, .slice ao n ca, .slice bo m cb]) := by rw [hy]; exact Blk.new rfl _ _
  have HY := Lib.hid hy
  have HSW := Lib.hid hs0
  have HKC : Hid (∀ w', Since y w' → w'.cell? ⟨w.heap.size, 0, none⟩ = some (.int .i64 A.st) ∧ w'.cell? ⟨w.heap.size, 1, none⟩ = some (.slice ao n ca) ∧ w'.cell? ⟨w.heap.size, 2, none⟩ = some (.slice bo m cb)) := by
    intro w' hs
    obtain ⟨⟨r0, r1, r2⟩, _⟩ := (B0.out.since hs).threeA
    exact ⟨r0, r1, r2⟩
  clear hy hs0
  go_enter Try.func67, Try.ntmps67
  go_upto_region 1 with fail
  rw [← HY.out]
  go_wp2_with fail
  refine wp_region_held_drew (S := (fun w' => w'.cell? ⟨w.heap.size, 0, none⟩ = some (.int .i64 A.st) ∧ w'.cell? ⟨w.heap.size, 1, none⟩ = some (.slice ao n ca) ∧ w'.cell? ⟨w.heap.size, 2, none⟩ = some (.slice bo m cb))) (by kernel_rfl) (HKC.out _ (Since.refl _).drew) (fun hHeld => ?_)
  refine take_yes 1 (some 8) (v := ?_) rfl (by kernel_rfl) (by kernel_rfl) (by kernel_rfl) (by kernel_rfl) (fun _ _ _ h => h) (by rfl) (by assumption) ?_ ?_
  rotate_left
  · (intro w' hSw; (try dsimp only at hSw); go_simp; try with_reducible rfl)
  try simp only [Act.put, List.setIfInBounds_toArray, List.set_cons_zero, List.set_cons_succ]
  refine take_run 0 rfl (by kernel_rfl) (by rfl) (fun K hK => ?_)
  go_simp
  refine (nothing_any _).mono ?_
  rintro e w2 ⟨u, rfl, ho2, hs2⟩
  have hc2 := Since.of_drew hs2
  have HL2 := Lib.hid ho2.at
  clear ho2
  refine hK.out _ _ (HKC.out _ hc2) (fun hHeld2 => ?_)
  clear hK K hHeld
  try simp only [Act.put, List.setIfInBounds_toArray, List.set_cons_zero, List.set_cons_succ]
  refine take_run 2 rfl (by kernel_rfl) (by rfl) (fun K hK => ?_)
  go_simp
  refine (HMG.out _ _ (HSW.out.trans hc2) HL2.out).mono ?_
  rintro e w4 ⟨z, rfl, hou, hs4⟩
  have hc4 := hc2.trans hs4
  have hs9 := HSW.out.trans hc4
  have HOU := Lib.hid (hou.mono (HSW.out.trans hc2).size)
  refine hK.out _ _ (HKC.out _ hc4) (fun hHeld4 => ?_)
  clear hK K hHeld2 hou
  try simp only [Act.put, List.setIfInBounds_toArray, List.set_cons_zero, List.set_cons_succ]
  refine take_yes 3 (some 6) (v := ?_) rfl (by kernel_rfl) (by kernel_rfl) (by kernel_rfl) (by kernel_rfl) (fun _ _ _ h => h) (by rfl) (by assumption) ?_ ?_
  rotate_left
  · (intro w' hSw; (try dsimp only at hSw); go_simp; try with_reducible rfl)
  try simp only [Act.put, List.setIfInBounds_toArray, List.set_cons_zero, List.set_cons_succ]
  refine take_yes 4 (some 10) (v := ?_) rfl (by kernel_rfl) (by kernel_rfl) (by kernel_rfl) (by kernel_rfl) (fun _ _ _ h => h) (by rfl) (by assumption) ?_ ?_
  rotate_left
  · (intro w' hSw; (try dsimp only at hSw); go_simp; try with_reducible rfl)
  try simp only [Act.put, List.setIfInBounds_toArray, List.set_cons_zero, List.set_cons_succ]
  refine take_yes 5 (some 11) (v := ?_) rfl (by kernel_rfl) (by kernel_rfl) (by kernel_rfl) (by kernel_rfl) (fun _ _ _ h => h) (by rfl) (by assumption) ?_ ?_
  rotate_left
  · (intro w' hSw; (try dsimp only at hSw); go_simp; try with_reducible rfl)
  try simp only [Act.put, List.setIfInBounds_toArray, List.set_cons_zero, List.set_cons_succ]
  refine take_yes 6 (some 4) (v := ?_) rfl (by kernel_rfl) (by kernel_rfl) (by kernel_rfl) (by kernel_rfl) (fun _ _ _ h => h) (by rfl) (by assumption) ?_ ?_
  rotate_left
  · (intro w' hSw; (try dsimp only at hSw); go_simp; try with_reducible rfl)
  try simp only [Act.put, List.setIfInBounds_toArray, List.set_cons_zero, List.set_cons_succ]
  refine take_yes 7 (some 5) (v := ?_) rfl (by kernel_rfl) (by kernel_rfl) (by kernel_rfl) (by kernel_rfl) (fun _ _ _ h => h) (by rfl) (by assumption) ?_ ?_
  rotate_left
  · (intro w' hSw; (try dsimp only at hSw); go_simp; try with_reducible rfl)
  try simp only [Act.put, List.setIfInBounds_toArray, List.set_cons_zero, List.set_cons_succ]
  refine wpAnyH_done (by kernel_rfl) ?_ _
  clear hHeld4
  go_wp2
  go_ret2
  exact ⟨z, rfl, HOU.out, hs9⟩
end Go.Proofs.Ytmaagihfjldgeaa
