/- The program's removeOldest and appendGraph. -/
import Derived.Test.YtgdeiecbkmhbeaaHdl
namespace Go.Proofs.Ytgdeiecbkmhbeaa
set_option maxRecDepth 100000
open Go.ChangeShapes Go.WideShapes Go.ChangeAt Go.RowKit
set_option linter.unusedVariables false
set_option linter.unusedSimpArgs false

/-- append of one graph in a drawn region. -/
theorem wp_append_gr {lo hi : Nat} {wr : World} {o : Oper} {a : Act} {K : Act → World → Prop} {Q : Exit → Act → World → Prop} (s x : Operand)
    (ho : o.op = .call { callee := .builtin .append, args := #[s, x], argTypes := #[24, 24] }) (v : Value) (gs : List Grf) (hs : a.eval s = v) (hown : OwnR lo hi wr v gs) (hlo : lo ≤ hi) (hhi : hi ≤ wr.heap.size)
    (po qo : Option Addr) (pn pc qn qc : Nat) (g : Grf) (hO : OwnG hi wr.heap.size wr (.agg #[.slice po pn pc, .slice qo qn qc]) g) (hx : a.eval x = .slice (some ⟨wr.heap.size, 0, none⟩) 1 1) (hlen : gs.length ≤ 2097154)
    (h : ∀ v' w', OwnR lo w'.heap.size w' v' (gs ++ [g]) → (wr.alloc (.cells #[.slice po pn pc, .slice qo qn qc] 39)).drew.grownBy w' v.ownBlock → K (a.put o.dst v') w') :
    o.wp Try.prog a (wr.alloc (.cells #[.slice po pn pc, .slice qo qn qc] 39)).drew K Q := by
  obtain ⟨ps, hr, hl, hin, hN⟩ := hown
  obtain ⟨i0, hi0, hz0, hz1, hz2⟩ := info_parts info_graph
  obtain ⟨y, hy⟩ : ∃ y, y = (wr.alloc (.cells #[.slice po pn pc, .slice qo qn qc] 39)).drew := ⟨_, rfl⟩
  have hsx : Since wr y := by rw [hy]; exact ((Since.refl wr).alloc _).drew
  have hB : Blk y wr.heap.size 39 #[.slice po pn pc, .slice qo qn qc] := by rw [hy]; exact (Blk.new rfl _ _).drew
  rw [← hy] at h ⊢
  have hr2 := row_since hr hsx
  have hz := hsx.size
  have hsrc : SrcAt y (some ⟨wr.heap.size, 0, none⟩) [.slice po pn pc, .slice qo qn qc] := fun _ => ⟨_, rfl, fun j u hj => by rw [add_plain, Nat.zero_add, hB.cell, ← hj, ← Array.getElem?_toList]⟩
  obtain ⟨v', w', hrun, h1, h2, h3⟩ := run_append_src y lo 24 o.type 39 (.agg #[nilV, nilV]) 2 48 Try.underlying24 info_graph rfl (by decide) v gs.length (gcells ps) hr2 (some ⟨wr.heap.size, 0, none⟩) 1 1 [.slice po pn pc, .slice qo qn qc] rfl hsrc
    (by intro u hu; simp at hu; rcases hu with rfl | rfl <;> rfl) (by unfold maxLen; omega) (by omega) (by omega)
  exact wp_of_run_append s x _ ho v _ v' w' hs hx hrun (h v' w' (ownR_snoc hlo (hN.since hsx) hr2 hl ((hO.since hsx).wider (Nat.le_refl _) hz) (by omega) h1 h2) h2)
/-- What a method that changes the history at B leaves. -/
def ChgH (B lo : Nat) (w : World) (x : Hst) (hi : Nat) (e : Ending) (w' : World) : Prop :=
  e = .returned (.tuple #[]) ∧ ∃ v', Blk w' B 26 #[.int .i64 x.f, v'] ∧ OwnR lo hi w' v' x.gs ∧ ((∀ w0, Since w0 w → w0.heap.size ≤ B → w0.heap.size ≤ lo → Since w0 w') ∧ w.heap.size ≤ w'.heap.size)
set_option maxHeartbeats 1000000 in
set_option maxRecDepth 100000 in
theorem removeOldest_any (B : Nat) (f : Int) (c lo hi : Nat) (v : Value) (gs : List Grf) (w : World) (hB : Blk w B 26 #[.int .i64 f, v]) (ho : OwnR lo hi w v gs) (hc : c ≤ gs.length) (h1 : 1 ≤ gs.length) (hf0 : 0 ≤ f) (hf9 : f ≤ 1000000) (hl : gs.length ≤ 1048577) :
    Calls Try.prog 68 #[.pointer (some ⟨B, 0, none⟩), .int .i64 c] w (ChgH B lo w ⟨f + c, gs.drop c⟩ hi) := by
  obtain ⟨ps, hr, hpl, hin, hN⟩ := ho
  obtain ⟨g, cap, rfl, hg⟩ := own_block hr (by omega)
  have BX := Lib.hid hB
  have hBg : B ≠ g := fun e => by
    subst e
    exact other_type hr hB (by decide) rfl
  obtain ⟨q, hq⟩ : ∃ q, q + c = gs.length := ⟨gs.length - c, by omega⟩
  have hlo2 : lo ≤ g := hg
  have hgw : g < w.heap.size := (hr.lt g rfl).2
  have HIN : Hid (g < hi ∧ lo ≤ hi) := ⟨(hin g rfl).2, hN.le⟩
  obtain ⟨n, hn⟩ : ∃ n, n = gs.length := ⟨_, rfl⟩
  rw [← hn] at hr hq BX
  have HN := Lib.hid hn
  have HR := Lib.hid hr
  have HNN := Lib.hid hN
  have HPL := Lib.hid hpl
  have hn9 : n ≤ 1048577 := by omega
  have HQ := Lib.hid hq
  have hc9 : c ≤ 1048577 := by omega
  clear hr hN hpl hin hn hB hc h1 hl hq
  obtain ⟨x0, x1, x2, x3⟩ := BX.out.two
  go_enter Try.func68, Try.ntmps68
  go_wp2_with fail
  clear x0 x1 x2 x3
  refine (slicesDeleteG_any ps lo g cap n c q _ (by have := HPL.out; have := HN.out; omega) HR.out (nest_one HNN.out) HQ.out hn9).mono ?_
  rintro en w1 ⟨rfl, hr1, hg1⟩
  have BX1 := Lib.hid (BX.out.grwG hg1 (fun e => hBg (by injection e)))
  have HO1 : Hid (OwnR lo hi w1 (.slice (some ⟨g, 0, none⟩) q cap) (gs.drop c)) := by
    have hlen : (gs.drop c).length = q := by rw [List.length_drop]; have := HQ.out; have := HN.out; omega
    refine ⟨ps.drop c, by rw [hlen]; exact hr1, by rw [hlen, List.length_drop]; have := HQ.out; have := HN.out; have := HPL.out; omega, fun k hk => ?_, (HNN.out.grown hg1 (fun b hb => row_block HR.out b hb)).drop c⟩
    simp [Value.ownBlock] at hk; subst hk; have := HIN.out; omega
  have HS1 : Hid (∀ w0, Since w0 w → w0.heap.size ≤ lo → Since w0 w1) := fun w0 h0 h2 => h0.grown hg1 (fun k hk => by injection hk with hk; omega)
  have hz1 := hg1.size
  obtain ⟨x0, x1, x2, x3⟩ := BX1.out.two
  have BX2 : Hid (Blk (w1.setCell ⟨B, 1, none⟩ (.slice (some ⟨g, 0, none⟩) q cap)) B 26 #[.int .i64 f, .slice (some ⟨g, 0, none⟩) q cap]) := BX1.out.set 1 _
  have BX3 : Hid (Blk ((w1.setCell ⟨B, 1, none⟩ (.slice (some ⟨g, 0, none⟩) q cap)).setCell ⟨B, 0, none⟩ (.int .i64 (f + c))) B 26 #[.int .i64 (f + c), .slice (some ⟨g, 0, none⟩) q cap]) := BX2.out.set 0 _
  have HO3 : Hid (OwnR lo hi ((w1.setCell ⟨B, 1, none⟩ (.slice (some ⟨g, 0, none⟩) q cap)).setCell ⟨B, 0, none⟩ (.int .i64 (f + c))) (.slice (some ⟨g, 0, none⟩) q cap) (gs.drop c)) := (HO1.out.farT BX1.out 1 _).farT BX2.out 0 _
  have HS3 : Hid ((∀ w0, Since w0 w → w0.heap.size ≤ B → w0.heap.size ≤ lo → Since w0 ((w1.setCell ⟨B, 1, none⟩ (.slice (some ⟨g, 0, none⟩) q cap)).setCell ⟨B, 0, none⟩ (.int .i64 (f + c)))) ∧ w.heap.size ≤ ((w1.setCell ⟨B, 1, none⟩ (.slice (some ⟨g, 0, none⟩) q cap)).setCell ⟨B, 0, none⟩ (.int .i64 (f + c))).heap.size) :=
    ⟨fun w0 h0 h1 h2 => ((HS1.out w0 h0 h2).setCell h1 _).setCell h1 _, by simp; omega⟩
  clear hr1 hg1
  go_wp2
  go_end0
  exact ⟨rfl, _, BX3.out, HO3.out, HS3.out⟩
set_option maxHeartbeats 2000000 in
set_option maxRecDepth 100000 in
theorem appendGraph_any (B : Nat) (f : Int) (lo hi : Nat) (v : Value) (gs : List Grf) (po qo : Option Addr) (pn pc qn qc : Nat) (g : Grf) (w : World) (hB : Blk w B 26 #[.int .i64 f, v]) (ho : OwnR lo hi w v gs) (hlo : lo ≤ hi) (hhi0 : hi ≤ w.heap.size)
    (hO : OwnG hi w.heap.size w (.agg #[.slice po pn pc, .slice qo qn qc]) g) (hf0 : 0 ≤ f) (hf9 : f ≤ 1000000) (hlen0 : gs.length ≤ 1000) :
    Calls Try.prog 54 #[.pointer (some ⟨B, 0, none⟩), .agg #[.slice po pn pc, .slice qo qn qc]] w fun e w' => ChgH B lo w (addL ⟨f, gs⟩ g) w'.heap.size e w' := by
  obtain ⟨y, hy⟩ : ∃ y, y = w.alloc (.cells #[.slice po pn pc, .slice qo qn qc] 39) := ⟨_, rfl⟩
  have hsy : Since w y := by rw [hy]; exact (Since.refl w).alloc _
  have hzy : w.heap.size + 1 = y.heap.size := by rw [hy]; simp
  have BG : Hid (Blk y w.heap.size 39 #[.slice po pn pc, .slice qo qn qc]) := by rw [hy]; exact Blk.new rfl _ _
  have hBlt := hB.lt
  have BX := Lib.hid (hB.since hsy)
  have HO := Lib.hid (ho.since hsy)
  have HG : Hid (OwnG hi y.heap.size y (.agg #[.slice po pn pc, .slice qo qn qc]) g) := (hO.since hsy).wider (Nat.le_refl _) (by omega)
  have hhi : hi ≤ y.heap.size := by omega
  have hlen : gs.length ≤ 2097154 := by omega
  have hin : ∀ z, v.ownBlock = some z → lo ≤ z ∧ z < hi := by obtain ⟨_, _, _, h, _⟩ := ho; exact h
  have hBv : v.ownBlock ≠ some B := by
    obtain ⟨ps, hr, _⟩ := ho
    exact other_type hr hB (by decide)
  clear hB ho hO
  have HKC : Hid (∀ w', Since y w' → w'.cell? ⟨w.heap.size, 0, none⟩ = some (.slice po pn pc) ∧ w'.cell? ⟨w.heap.size, 1, none⟩ = some (.slice qo qn qc)) := by
    intro w' hs
    obtain ⟨x0, x1, _, _⟩ := (BG.out.since hs).two
    exact ⟨x0, x1⟩
  go_enter Try.func54, Try.ntmps54
  go_wp2_with fail
  rw [← hy]
  clear hy
  refine wp_region_held_drew (S := (fun w' => w'.cell? ⟨w.heap.size, 0, none⟩ = some (.slice po pn pc) ∧ w'.cell? ⟨w.heap.size, 1, none⟩ = some (.slice qo qn qc))) (by kernel_rfl) (HKC.out _ (Since.refl _).drew) (fun hHeld => ?_)
  refine take_yes 0 (some 4) (v := ?_) rfl (by kernel_rfl) (by kernel_rfl) (by kernel_rfl) (by kernel_rfl) (fun _ _ _ h => h) (by rfl) (by assumption) ?_ ?_
  rotate_left
  · (intro w' hSw; (try dsimp only at hSw); go_simp; try with_reducible rfl)
  try simp only [Act.put, List.setIfInBounds_toArray, List.set_cons_zero, List.set_cons_succ]
  refine take_yes 1 (some 5) (v := ?_) rfl (by kernel_rfl) (by kernel_rfl) (by kernel_rfl) (by kernel_rfl) (fun _ _ _ h => h) (by rfl) (by assumption) ?_ ?_
  rotate_left
  · (intro w' hSw; (try dsimp only at hSw); go_simp; try with_reducible rfl)
  try simp only [Act.put, List.setIfInBounds_toArray, List.set_cons_zero, List.set_cons_succ]
  refine take_yes 2 (some 6) (v := ?_) rfl (by kernel_rfl) (by kernel_rfl) (by kernel_rfl) (by kernel_rfl) (fun _ _ _ h => h) (by rfl) (by assumption) ?_ ?_
  rotate_left
  · (intro w' hSw; (try dsimp only at hSw); go_simp; try with_reducible rfl)
  try simp only [Act.put, List.setIfInBounds_toArray, List.set_cons_zero, List.set_cons_succ]
  refine take_yes 3 (some 7) (v := ?_) rfl (by kernel_rfl) (by kernel_rfl) (by kernel_rfl) (by kernel_rfl) (fun _ _ _ h => h) (by rfl) (by assumption) ?_ ?_
  rotate_left
  · (intro w' hSw; (try dsimp only at hSw); go_simp; try with_reducible rfl)
  try simp only [Act.put, List.setIfInBounds_toArray, List.set_cons_zero, List.set_cons_succ]
  refine take_yes 5 (some 9) (v := ?_) rfl (by kernel_rfl) (by kernel_rfl) (by kernel_rfl) (by kernel_rfl) (fun _ _ _ h => h) (by rfl) (by assumption) ?_ ?_
  rotate_left
  · (intro w' hSw; (try dsimp only at hSw); go_simp; try with_reducible rfl)
  try simp only [Act.put, List.setIfInBounds_toArray, List.set_cons_zero, List.set_cons_succ]
  refine take_two 4 6 rfl rfl (by kernel_rfl) (by rfl) (by rfl) (fun K hK => ?_) (fun K hK => ?_)
  · skip
    obtain ⟨q0, q1, q2, q3⟩ := (BX.out.drew).two
    go_simp
    clear q0 q1 q2 q3
    refine hK.out _ _ (HKC.out _ ((Since.refl y).drew)) (fun hHeld1 => ?_)
    clear hK K hHeld
    try simp only [Act.put, List.setIfInBounds_toArray, List.set_cons_zero, List.set_cons_succ]
    refine take_run 6 rfl (by kernel_rfl) (by rfl) (fun K hK => ?_)
    go_simp
    have hsb : Since y (y.alloc (.cells #[.slice po pn pc, .slice qo qn qc] 39)).drew := ((Since.refl y).alloc (.cells #[.slice po pn pc, .slice qo qn qc] 39)).drew
    refine hK.out _ _ (HKC.out _ (hsb)) (fun hHeld2 => ?_)
    clear hK K hHeld1
    try simp only [Act.put, List.setIfInBounds_toArray, List.set_cons_zero, List.set_cons_succ]
    refine take_run 7 rfl (by kernel_rfl) (by rfl) (fun K hK => ?_)
    refine wp_append_gr (.tmp 8) (.tmp 10) rfl _ gs rfl HO.out hlo hhi _ _ _ _ _ _ g HG.out rfl hlen ?_
    intro v4 w4 ho4 hg4
    have hc4 : Within lo hi w w4 ∧ Hid (∀ w0, Since w0 y → w0.heap.size ≤ lo → Since w0 w4) := ⟨(Within.of_since (hsy.trans hsb)).trans (Within.of_grown hg4 hin), fun w0 h0 hl => (h0.trans hsb).grown hg4 (fun z hz => by have := hin z hz; omega)⟩
    have HB4 : Hid (Blk w4 B 26 #[.int .i64 f, v]) := (BX.out.since hsb).grwG hg4 (fun e => hBv (e.symm))
    have HC4 : Hid (Blk w4 w.heap.size 39 #[.slice po pn pc, .slice qo qn qc]) := (BG.out.since hsb).grwG hg4 (fun e => by have := hin _ e.symm; omega)
    obtain ⟨o4, c4, hv4⟩ := ho4.len
    obtain ⟨n4, hn4⟩ : ∃ n, (gs ++ [g]).length = n := ⟨_, rfl⟩
    rw [hn4] at hv4
    subst hv4
    have HN4 := Lib.hid hn4
    clear hn4
    have hS4 : w4.cell? ⟨w.heap.size, 0, none⟩ = some (.slice po pn pc) ∧ w4.cell? ⟨w.heap.size, 1, none⟩ = some (.slice qo qn qc) := ⟨HC4.out.two.1, HC4.out.two.2.1⟩
    refine hK.out _ _ hS4 (fun hHeld3 => ?_)
    clear hK K hHeld2
    try simp only [Act.put, List.setIfInBounds_toArray, List.set_cons_zero, List.set_cons_succ]
    refine take_yes 8 (some 12) (v := ?_) rfl (by kernel_rfl) (by kernel_rfl) (by kernel_rfl) (by kernel_rfl) (fun _ _ _ h => h) (by rfl) (by assumption) ?_ ?_
    rotate_left
    · (intro w' hSw; (try dsimp only at hSw); go_simp; try with_reducible rfl)
    try simp only [Act.put, List.setIfInBounds_toArray, List.set_cons_zero, List.set_cons_succ]
    refine take_yes 9 (some 13) (v := ?_) rfl (by kernel_rfl) (by kernel_rfl) (by kernel_rfl) (by kernel_rfl) (fun _ _ _ h => h) (by rfl) (by assumption) ?_ ?_
    rotate_left
    · (intro w' hSw; (try dsimp only at hSw); go_simp; try with_reducible rfl)
    try simp only [Act.put, List.setIfInBounds_toArray, List.set_cons_zero, List.set_cons_succ]
    refine take_run 10 rfl (by kernel_rfl) (by rfl) (fun K hK => ?_)
    obtain ⟨q0, q1, q2, q3⟩ := HB4.out.two
    go_simp
    clear q0 q1 q2 q3
    have HC5 : Hid (Blk (w4.setCell ⟨B, 1, none⟩ (.slice o4 n4 c4)) w.heap.size 39 #[.slice po pn pc, .slice qo qn qc]) := HC4.out.far (by show w.heap.size ≠ B; omega) _
    refine hK.out _ _ ⟨HC5.out.two.1, HC5.out.two.2.1⟩ (fun hHeld4 => ?_)
    clear hK K hHeld3
    try simp only [Act.put, List.setIfInBounds_toArray, List.set_cons_zero, List.set_cons_succ]
    refine wpAnyH_done (by kernel_rfl) ?_ _
    clear hHeld4
    have HB5 : Hid (Blk (w4.setCell ⟨B, 1, none⟩ (.slice o4 n4 c4)) B 26 #[.int .i64 f, .slice o4 n4 c4]) := HB4.out.set 1 (.slice o4 n4 c4)
    have HO5 : Hid (OwnR lo (w4.setCell ⟨B, 1, none⟩ (.slice o4 n4 c4)).heap.size (w4.setCell ⟨B, 1, none⟩ (.slice o4 n4 c4)) (.slice o4 n4 c4) (gs ++ [g])) := (ho4.farT HB4.out 1 (.slice o4 n4 c4)).wider (Nat.le_refl _) (by simp)
    have HR5 : Hid ((∀ w0, Since w0 w → w0.heap.size ≤ B → w0.heap.size ≤ lo → Since w0 (w4.setCell ⟨B, 1, none⟩ (.slice o4 n4 c4))) ∧ w.heap.size ≤ (w4.setCell ⟨B, 1, none⟩ (.slice o4 n4 c4)).heap.size) := ⟨fun w0 h0 h1 h2 => (hc4.2.out w0 (h0.trans hsy) h2).setCell h1 _, by have := hc4.1.size; simpa using this⟩
    generalize (w4.setCell ⟨B, 1, none⟩ (.slice o4 n4 c4)) = w5 at HB5 HO5 HR5 ⊢
    clear HB4 hc4 ho4 hg4 hsb HC4 HC5
    obtain ⟨x0, x1, x2, x3⟩ := HB5.out.two
    by_cases h8 : 8 < n4
    · have h8i : (8 : Int) < (n4 : Int) := by omega
      have HL : Hid (addL ⟨f, gs⟩ g = ⟨f + 1, (gs ++ [g]).drop 1⟩) := by unfold Hid addL; have := HN4.out; rw [List.length_append] at this; rw [if_pos (by simp at this ⊢; omega)]
      go_wp2_with fail
      clear x0 x1 x2 x3
      rw [← HN4.out] at HB5 HO5
      refine (removeOldest_any B f 1 lo _ _ (gs ++ [g]) _ HB5.out HO5.out (by have := HN4.out; omega) (by have := HN4.out; omega) hf0 hf9 (by simp; omega)).mono ?_
      rintro en w6 ⟨rfl, v6, k6, o6, r6⟩
      go_wp2
      go_end0
      refine ⟨rfl, v6, ?_, ?_, fun w0 h0 h1 h2 => r6.1 w0 (HR5.out.1 w0 h0 h1 h2) h1 h2, Nat.le_trans HR5.out.2 r6.2⟩
      · rw [HL.out]; exact k6
      · rw [HL.out]; exact o6.wider (Nat.le_refl _) r6.2
    · have h8i : ¬ (8 : Int) < (n4 : Int) := by omega
      have HL : Hid (addL ⟨f, gs⟩ g = ⟨f, gs ++ [g]⟩) := by unfold Hid addL; have := HN4.out; rw [List.length_append] at this; rw [if_neg (by simp at this ⊢; omega)]
      go_wp2
      go_end0
      refine ⟨rfl, .slice o4 n4 c4, ?_, ?_, HR5.out⟩
      · rw [HL.out]; exact HB5.out
      · rw [HL.out]; exact HO5.out
  · skip
    go_simp
    have hsb : Since y (y.alloc (.cells #[.slice po pn pc, .slice qo qn qc] 39)).drew := ((Since.refl y).alloc (.cells #[.slice po pn pc, .slice qo qn qc] 39)).drew
    refine hK.out _ _ (HKC.out _ (hsb)) (fun hHeld1 => ?_)
    clear hK K hHeld
    try simp only [Act.put, List.setIfInBounds_toArray, List.set_cons_zero, List.set_cons_succ]
    refine take_run 4 rfl (by kernel_rfl) (by rfl) (fun K hK => ?_)
    obtain ⟨q0, q1, q2, q3⟩ := (BX.out.since hsb).two
    go_simp
    clear q0 q1 q2 q3
    refine hK.out _ _ (HKC.out _ (hsb)) (fun hHeld2 => ?_)
    clear hK K hHeld1
    try simp only [Act.put, List.setIfInBounds_toArray, List.set_cons_zero, List.set_cons_succ]
    refine take_run 7 rfl (by kernel_rfl) (by rfl) (fun K hK => ?_)
    refine wp_append_gr (.tmp 8) (.tmp 10) rfl _ gs rfl HO.out hlo hhi _ _ _ _ _ _ g HG.out rfl hlen ?_
    intro v4 w4 ho4 hg4
    have hc4 : Within lo hi w w4 ∧ Hid (∀ w0, Since w0 y → w0.heap.size ≤ lo → Since w0 w4) := ⟨(Within.of_since (hsy.trans hsb)).trans (Within.of_grown hg4 hin), fun w0 h0 hl => (h0.trans hsb).grown hg4 (fun z hz => by have := hin z hz; omega)⟩
    have HB4 : Hid (Blk w4 B 26 #[.int .i64 f, v]) := (BX.out.since hsb).grwG hg4 (fun e => hBv (e.symm))
    have HC4 : Hid (Blk w4 w.heap.size 39 #[.slice po pn pc, .slice qo qn qc]) := (BG.out.since hsb).grwG hg4 (fun e => by have := hin _ e.symm; omega)
    obtain ⟨o4, c4, hv4⟩ := ho4.len
    obtain ⟨n4, hn4⟩ : ∃ n, (gs ++ [g]).length = n := ⟨_, rfl⟩
    rw [hn4] at hv4
    subst hv4
    have HN4 := Lib.hid hn4
    clear hn4
    have hS4 : w4.cell? ⟨w.heap.size, 0, none⟩ = some (.slice po pn pc) ∧ w4.cell? ⟨w.heap.size, 1, none⟩ = some (.slice qo qn qc) := ⟨HC4.out.two.1, HC4.out.two.2.1⟩
    refine hK.out _ _ hS4 (fun hHeld3 => ?_)
    clear hK K hHeld2
    try simp only [Act.put, List.setIfInBounds_toArray, List.set_cons_zero, List.set_cons_succ]
    refine take_yes 8 (some 12) (v := ?_) rfl (by kernel_rfl) (by kernel_rfl) (by kernel_rfl) (by kernel_rfl) (fun _ _ _ h => h) (by rfl) (by assumption) ?_ ?_
    rotate_left
    · (intro w' hSw; (try dsimp only at hSw); go_simp; try with_reducible rfl)
    try simp only [Act.put, List.setIfInBounds_toArray, List.set_cons_zero, List.set_cons_succ]
    refine take_yes 9 (some 13) (v := ?_) rfl (by kernel_rfl) (by kernel_rfl) (by kernel_rfl) (by kernel_rfl) (fun _ _ _ h => h) (by rfl) (by assumption) ?_ ?_
    rotate_left
    · (intro w' hSw; (try dsimp only at hSw); go_simp; try with_reducible rfl)
    try simp only [Act.put, List.setIfInBounds_toArray, List.set_cons_zero, List.set_cons_succ]
    refine take_run 10 rfl (by kernel_rfl) (by rfl) (fun K hK => ?_)
    obtain ⟨q0, q1, q2, q3⟩ := HB4.out.two
    go_simp
    clear q0 q1 q2 q3
    have HC5 : Hid (Blk (w4.setCell ⟨B, 1, none⟩ (.slice o4 n4 c4)) w.heap.size 39 #[.slice po pn pc, .slice qo qn qc]) := HC4.out.far (by show w.heap.size ≠ B; omega) _
    refine hK.out _ _ ⟨HC5.out.two.1, HC5.out.two.2.1⟩ (fun hHeld4 => ?_)
    clear hK K hHeld3
    try simp only [Act.put, List.setIfInBounds_toArray, List.set_cons_zero, List.set_cons_succ]
    refine wpAnyH_done (by kernel_rfl) ?_ _
    clear hHeld4
    have HB5 : Hid (Blk (w4.setCell ⟨B, 1, none⟩ (.slice o4 n4 c4)) B 26 #[.int .i64 f, .slice o4 n4 c4]) := HB4.out.set 1 (.slice o4 n4 c4)
    have HO5 : Hid (OwnR lo (w4.setCell ⟨B, 1, none⟩ (.slice o4 n4 c4)).heap.size (w4.setCell ⟨B, 1, none⟩ (.slice o4 n4 c4)) (.slice o4 n4 c4) (gs ++ [g])) := (ho4.farT HB4.out 1 (.slice o4 n4 c4)).wider (Nat.le_refl _) (by simp)
    have HR5 : Hid ((∀ w0, Since w0 w → w0.heap.size ≤ B → w0.heap.size ≤ lo → Since w0 (w4.setCell ⟨B, 1, none⟩ (.slice o4 n4 c4))) ∧ w.heap.size ≤ (w4.setCell ⟨B, 1, none⟩ (.slice o4 n4 c4)).heap.size) := ⟨fun w0 h0 h1 h2 => (hc4.2.out w0 (h0.trans hsy) h2).setCell h1 _, by have := hc4.1.size; simpa using this⟩
    generalize (w4.setCell ⟨B, 1, none⟩ (.slice o4 n4 c4)) = w5 at HB5 HO5 HR5 ⊢
    clear HB4 hc4 ho4 hg4 hsb HC4 HC5
    obtain ⟨x0, x1, x2, x3⟩ := HB5.out.two
    by_cases h8 : 8 < n4
    · have h8i : (8 : Int) < (n4 : Int) := by omega
      have HL : Hid (addL ⟨f, gs⟩ g = ⟨f + 1, (gs ++ [g]).drop 1⟩) := by unfold Hid addL; have := HN4.out; rw [List.length_append] at this; rw [if_pos (by simp at this ⊢; omega)]
      go_wp2_with fail
      clear x0 x1 x2 x3
      rw [← HN4.out] at HB5 HO5
      refine (removeOldest_any B f 1 lo _ _ (gs ++ [g]) _ HB5.out HO5.out (by have := HN4.out; omega) (by have := HN4.out; omega) hf0 hf9 (by simp; omega)).mono ?_
      rintro en w6 ⟨rfl, v6, k6, o6, r6⟩
      go_wp2
      go_end0
      refine ⟨rfl, v6, ?_, ?_, fun w0 h0 h1 h2 => r6.1 w0 (HR5.out.1 w0 h0 h1 h2) h1 h2, Nat.le_trans HR5.out.2 r6.2⟩
      · rw [HL.out]; exact k6
      · rw [HL.out]; exact o6.wider (Nat.le_refl _) r6.2
    · have h8i : ¬ (8 : Int) < (n4 : Int) := by omega
      have HL : Hid (addL ⟨f, gs⟩ g = ⟨f, gs ++ [g]⟩) := by unfold Hid addL; have := HN4.out; rw [List.length_append] at this; rw [if_neg (by simp at this ⊢; omega)]
      go_wp2
      go_end0
      refine ⟨rfl, .slice o4 n4 c4, ?_, ?_, HR5.out⟩
      · rw [HL.out]; exact HB5.out
      · rw [HL.out]; exact HO5.out
end Go.Proofs.Ytgdeiecbkmhbeaa
