/- TrimAutomaton, the model's. -/
import Derived.Test.YtcokggjekleabaaTrN
import Derived.Test.YtcokggjekleabaaAuX
namespace Go.Proofs.Ytcokggjekleabaa
set_option maxRecDepth 100000
open Go.ChangeShapes Go.WideShapes Go.ChangeAt Go.RowKit Go.Maps
set_option linter.unusedVariables false
set_option linter.unusedSimpArgs false

def idL (n : Nat) : List Int := (List.range n).map fun (i : Nat) => (i : Int)
theorem idL_length (n : Nat) : (idL n).length = n := by simp [idL]
theorem idL_at (n i : Nat) (h : i < (idL n).length) : (idL n)[i] = (i : Int) := by simp [idL]
theorem idL_step (n : Nat) : idL (n + 1) = idL n ++ [(n : Int)] := by unfold idL; rw [List.range_succ, List.map_append]; rfl
theorem clsK_id {A : Aut} (x : Int) (h : InA A x) : clsK (idL A.ac.length) x = x := by
  obtain ⟨t, rfl⟩ : ∃ t : Nat, x = t := ⟨x.toNat, by unfold InA at h; omega⟩
  have ht : t < (idL A.ac.length).length := by rw [idL_length]; unfold InA at h; omega
  rw [clsK_at _ t ht, idL_at]
/-- Where the machine's numbers are not refused, the key's numbers are these, whatever the rounds. -/
theorem runK_isF {step : Int → Nat → Option Int} {key : Int → Int} {Q : Int → Prop} (hk : ∀ x, Q x → key x = x) (hQ : ∀ s k x, k < 9 → Q s → step s k = some x → Q x) {lim : Nat} : ∀ m p fs gs, FsI Q fs → fs.length ≤ lim → lim + 1 ≤ m + p → runN step lim m p fs = some gs → ∀ m', lim + 1 ≤ m' + p → runK step key m' p fs = gs
  | 0, p, fs, gs, hf, hl, hm, h, m', hm' => by
    simp [runN] at h
    subst h
    exact runK_end step key m' p fs (by omega)
  | m + 1, p, fs, gs, hf, hl, hm, h, m', hm' => by
    by_cases hp : p < fs.length
    · obtain ⟨m'', rfl⟩ : ∃ m'', m' = m'' + 1 := ⟨m' - 1, by omega⟩
      rw [runN_at step lim m p fs hp] at h
      rw [runK_at step key m'' p fs hp]
      cases e : rowN step lim fs[p] 9 fs with
      | none => rw [e] at h; cases h
      | some g1 =>
        rw [e] at h
        have hq := hf.2 _ (List.getElem_mem hp)
        obtain ⟨f1, _, _, l1⟩ := rowN_some (Q := Q) hQ hq 9 (Nat.le_refl _) fs g1 hf e
        obtain ⟨h1, _⟩ := rowK_is hk hQ hq 9 (Nat.le_refl _) fs g1 hf.2 e
        rw [h1]
        exact runK_isF hk hQ m (p + 1) g1 gs f1 (l1 hl) (by omega) h m'' (by omega)
    · rw [runN_end step lim (m + 1) p fs (by omega)] at h
      injection h with h
      subst h
      exact runK_end step key m' p fs (by omega)
theorem numK_isF {step : Int → Nat → Option Int} {key : Int → Int} {Q : Int → Prop} (hk : ∀ x, Q x → key x = x) (hQ : ∀ s k x, k < 9 → Q s → step s k = some x → Q x) {s0 : Int} (h0 : Q s0) {F : List Int} (h : numN step 12 s0 = some F) : runK step key 1001 0 [s0] = F :=
  runK_isF hk hQ 13 0 [s0] F ⟨by simp, fun x hx => by simp at hx; subst hx; exact h0⟩ (by simp) (by omega) h 1001 (by omega)
theorem nmR_trim {A : Aut} (hv : ValidA A) {f : Nat → Bool} (hf : ∀ s, f s = true ↔ LiveP A s) (hc : trimC A f = true) : nmR A f (idL A.ac.length) = trimN A f := by
  have hQ : ∀ s k x, k < 9 → InA A s → stepF A f s k = some x → InA A x := fun s k x hk hs hx => stepF_in hv f s k x hk hs hx
  have hst := inA_st hv
  obtain ⟨fs, e⟩ : ∃ fs, numN (stepF A f) 12 A.st = some fs := by
    unfold trimC at hc
    exact Option.isSome_iff_exists.1 hc
  obtain ⟨⟨_, h1⟩, _, h2, h3⟩ := numN_some (Q := InA A) hQ (by decide) hst e
  unfold nmR trimN autR
  rw [e]
  simp only
  cases hs : f A.st.toNat with
  | true =>
    rw [if_pos rfl]
    unfold nmA nmF
    rw [numK_isF (key := clsK (idL A.ac.length)) (Q := InA A) (fun x hx => clsK_id x hx) hQ hst e]
    exact autK_is (key := clsK (idL A.ac.length)) (Q := InA A) (fun x hx => clsK_id x hx) hQ (accZ1 A) h1
  | false =>
    rw [if_neg (by decide)]
    have hdead : ∀ k, k < 9 → stepF A f A.st k = none := fun k hk => by
      cases e2 : stepF A f A.st k with
      | none => rfl
      | some x =>
        obtain ⟨h4, h5, h6⟩ := stepF_some e2
        have h7 := next_lt hv hst hk
        have hsn : A.st.toNat < A.ac.length := by unfold InA at hst; omega
        have hse : ((A.st.toNat : Nat) : Int) = A.st := by unfold InA at hst; omega
        have ht : tgt A A.st.toNat k = some x.toNat := tgt_some hsn (by rw [hse, h5]; omega) (by omega)
        have hx := (hf x.toNat).1 h6
        have hxn : x.toNat < A.ac.length := by omega
        have : LiveP A A.st.toNat := LeastP.step hsn hk (liveR_of ht) hx
        rw [(hf _).2 this] at hs; cases hs
    have hacc : accZ1 A A.st = false := by
      unfold accZ1
      cases e2 : at0 A.ac A.st.toNat with
      | false => rfl
      | true => rw [(hf _).2 (LeastP.base e2)] at hs; cases hs
    have hrow : ∀ m, m ≤ 9 → rowN (stepF A f) 12 A.st m [A.st] = some [A.st] := by
      intro m
      induction m with
      | zero => intro _; rfl
      | succ m ih =>
        intro hm
        unfold rowN
        rw [hdead (8 - m) (by omega)]
        exact ih (by omega)
    have hnum : numN (stepF A f) 12 A.st = some [A.st] := by
      unfold numN
      rw [runN_at (stepF A f) 12 12 0 [A.st] (by simp)]
      simp only [List.getElem_cons_zero]
      rw [hrow 9 (Nat.le_refl _)]
      exact runN_end (stepF A f) 12 12 1 [A.st] (by simp)
    rw [e] at hnum
    injection hnum with hnum
    subst hnum
    unfold nothingA autN
    congr 1
    · simp [hacc]
    · simp only [List.map_cons, List.map_nil]
      congr 1
      apply List.ext_getElem
      · simp [rowOf]
      · intro i hi hj
        have hi9 : i < 9 := by simpa using hi
        simp only [rowOf, List.getElem_map, List.getElem_range, List.getElem_replicate]
        exact (rowAt_none (hdead i hi9)).symm
theorem totS_rows (step : Int → Nat → Option Int) (F : List Int) : ∀ fs : List Int, totS (fs.map (rowOf step F)) = 9 * fs.length
  | [] => rfl
  | s :: fs => by
    rw [List.map_cons, totS_cons, rowOf_length, totS_rows step F fs, List.length_cons]; omega
theorem trimA_bg (A : Aut) (f : Nat → Bool) : BgA (trimA A f) := by
  unfold BgA
  cases h : validA A with
  | false => rw [trimA_no h]; simp [totS]
  | true =>
    rw [trimA_yes h]
    obtain ⟨fs, e, h1, h2, h3⟩ := numF ((validA_iff A).1 h) ((validA_iff A).2 h) f
    unfold trimN autR
    rw [e]
    simp only [autN, List.length_map, totS_rows]
    omega
set_option maxHeartbeats 8000000 in
set_option maxRecDepth 100000 in
theorem specTA_any (v : Value) (A : Aut) (f : Nat → Bool) (w : World) (h : AutAt w v A) (hm : MxA A) (hf : ∀ s, f s = true ↔ LiveP A s) :
    Calls Try.prog 42 #[v] w (AOut w (trimA A f)) := by
  have HVA : Hid (∀ W, Since w W → Calls Try.prog 20 #[v] W fun e w' => e = .returned (.bool (validA A)) ∧ Since W w') := fun W hW => specVA_any v A W (h.since hW) hm
  have HLV : Hid (∀ W, Since w W → ValidA A → Calls Try.prog 89 #[v] W (BoOut W (boL f A.ac.length))) := fun W hW hv => specLive_any v A f W (h.since hW) hv hf
  have HNM : Hid (∀ U L W, Since w W → ValidA A → trimC A f = true → IntsAt W U (idL A.ac.length) → BosAt W L (boL f A.ac.length) → Calls Try.prog 88 #[v, U, L] W (AOut W (trimN A f))) := fun U L W hW hv hc hu hl => by
    have k := specNum_any v U L A (idL A.ac.length) f W (h.since hW) hv hu (idL_length _) (fun i hi _ => by rw [idL_at]; rw [idL_length] at hi; omega) hl
    rw [nmR_trim hv hf hc] at k
    exact k
  obtain ⟨a, b, rfl, _, ha, hb⟩ := h
  obtain ⟨ao, ca, rfl⟩ := ha.len
  obtain ⟨bo, cb, rfl⟩ := hb.len
  clear ha hb hm hf
  obtain ⟨n, hn⟩ : ∃ n, n = A.ac.length := ⟨_, rfl⟩
  obtain ⟨m, hmm⟩ : ∃ n, n = A.nx.length := ⟨_, rfl⟩
  rw [← hn, ← hmm] at HVA HLV HNM ⊢
  have HN := Lib.hid hn
  clear hn hmm
  obtain ⟨y, hy⟩ : ∃ y, y = (w.alloc (.cells #[.int .i64 A.st, .slice ao n ca, .slice bo m cb] 27)).alloc (.cells #[.int .i64 0, .slice none 0 0, .slice none 0 0] 27) := ⟨_, rfl⟩
  have hs0 : Since w y := by rw [hy]; exact ((Since.refl w).alloc _).alloc _
  have hz : y.heap.size = w.heap.size + 1 + 1 := by rw [hy]; simp
  have B0 : Hid (Blk y w.heap.size 27 #[.int .i64 A.st, .slice ao n ca, .slice bo m cb]) := by rw [hy]; exact (Blk.new rfl _ _).alloc _
  have B1 : Hid (Blk y (w.heap.size + 1) 27 #[.int .i64 0, .slice none 0 0, .slice none 0 0]) := by rw [hy]; exact Blk.new (by simp) _ _
  have HY := Lib.hid hy
  have HZ := Lib.hid hz
  clear hy hz
  cases e : validA A with
  | false =>
    have HB := Lib.hid e
    have HF := Lib.hid (trimA_no (f := f) e)
    clear e
    go_enter Try.func42, Try.ntmps42
    go_upto_region 1 with fail
    rw [← HY.out]
    obtain ⟨⟨p0, p1, p2⟩, _⟩ := B0.out.threeA
    go_wp2_with fail
    refine (HVA.out _ hs0).mono ?_
    rintro e w1 ⟨rfl, hs1⟩
    rw [HB.out]
    have HS1 := Lib.hid (hs0.trans hs1)
    obtain ⟨⟨r0, r1, r2⟩, r3, r4, r5⟩ := (B1.out.since hs1).threeA
    clear p0 p1 p2
    go_wp2
    refine bodyPost_ret (v := .agg #[.int .i64 0, nilS, nilS]) (by simp [results, Try.results42, go_sem, *]) rfl ?_
    rw [HF.out]
    refine ⟨_, rfl, ownA_zero _ _ _, ?_⟩
    repeat' (first | exact HS1.out | with_reducible refine Since.setCell ?_ (by simp <;> omega) _)
  | true =>
    have HB := Lib.hid e
    have HV : Hid (ValidA A) := (validA_iff A).1 e
    have HF := Lib.hid (trimA_yes (f := f) e)
    have hn12 : n ≤ 12 := by rw [HN.out]; exact (validA_iff A).2 e
    have HTC : Hid (trimC A f = true) := trimC_yes HV.out ((validA_iff A).2 e) f
    obtain ⟨R, hR⟩ : ∃ R, R = trimN A f := ⟨_, rfl⟩
    rw [← hR] at HNM HF
    rw [HF.out]
    clear e hR HF
    go_enter Try.func42, Try.ntmps42
    go_upto_region 1 with fail
    rw [← HY.out]
    obtain ⟨⟨p0, p1, p2⟩, _⟩ := B0.out.threeA
    go_wp2_with fail
    refine (HVA.out _ hs0).mono ?_
    rintro e w1 ⟨rfl, hs01⟩
    rw [HB.out]
    have hW1b := hs0.trans hs01
    have C0 := Lib.hid (B0.out.since hs01)
    have C1 := Lib.hid (B1.out.since hs01)
    have hz1 : w.heap.size + 2 ≤ w1.heap.size := by have := hs01.size; have := HZ.out; omega
    clear p0 p1 p2 B0 B1 HVA hs0 hs01
    have HI0 : Hid (OwnNt 3 w1.heap.size (w1.alloc (.cells #[] 3)) (.slice (some ⟨w1.heap.size, 0, none⟩) 0 0) (idL 0)) := ⟨fun x hx => by simp [idL] at hx, World.ownsRow_lit w1 #[] 0 (Nat.le_refl _) (Nat.zero_le _) rfl⟩
    have HS0 : Hid (Since w1 (w1.alloc (.cells #[] 3))) := (Since.refl _).alloc _
    go_upto_region 5 with fail
    go_loopw [3, 4] (fun q i wr => ∃ (k : Nat) (v1 : Value), i = .int .i64 k ∧ v1 = q ∧ k ≤ n ∧ Hid (OwnNt 3 w1.heap.size wr v1 (idL k)) ∧ Hid (Since w1 wr)) (fun _ i _ => n - (intOf i).toNat)
    case atStart => exact ⟨0, _, rfl, rfl, Nat.zero_le _, HI0.out, HS0.out⟩
    case round =>
      obtain ⟨k, v1, rfl, rfl, hk, HO, HS⟩ := hrel
      obtain ⟨⟨p0, p1, p2⟩, _⟩ := (C0.out.since HS.out).threeA
      by_cases hlt : k < n
      · have hki : (k : Int) < (n : Int) := by omega
        have hk0 : (0 : Int) ≤ (k : Int) := by omega
        have hkin : InI (k : Int) := by unfold InI; omega
        have hlen : (idL k).length ≤ 4194304 := by rw [idL_length]; omega
        have hbz := HS.out.size
        go_wp2_with (at_builtin; go_must (refine wpList_append_T rfl (.tmp 17) (.tmp 19) 30 3 rfl Try.underlying30 info_int w1.heap.size v1 (idL k) (by first | rfl | simp [Act.eval]) HO.out (k : Int) (by first | rfl | simp [Act.eval]) hkin hlen hbz ?_); intro v5 w5 ho5 hg5; rw [← idL_step] at ho5)
        have HO5 := Lib.hid ho5
        have HS5 : Hid (Since w1 w5) := HS.out.grown hg5 (fun j hj => (HO.out.2.lt j hj).1)
        clear ho5 hg5
        go_roundw
        case rel => exact ⟨k + 1, v5, by go_num, rfl, by omega, HO5.out, HS5.out⟩
        case measure => simp [intOf]; omega
      · obtain rfl : k = n := by omega
        have HSW := Lib.hid (hW1b.trans HS.out)
        have HIA : Hid (IntsAt wr v1 (idL k)) := Own.at (show Own w1.heap.size wr v1 (idL k) from HO.out)
        have HKC : Hid (∀ w', Since wr w' → w'.cell? ⟨w.heap.size, 0, none⟩ = some (.int .i64 A.st) ∧ w'.cell? ⟨w.heap.size, 1, none⟩ = some (.slice ao k ca) ∧ w'.cell? ⟨w.heap.size, 2, none⟩ = some (.slice bo m cb)) := by
          intro w' hs
          obtain ⟨⟨r0, r1, r2⟩, _⟩ := (C0.out.since (HS.out.trans hs)).threeA
          exact ⟨r0, r1, r2⟩
        go_upto_region 8 with fail
        clear p0 p1 p2
        go_wp2_with fail
        refine wp_region_held_drew (S := (fun w' => w'.cell? ⟨w.heap.size, 0, none⟩ = some (.int .i64 A.st) ∧ w'.cell? ⟨w.heap.size, 1, none⟩ = some (.slice ao k ca) ∧ w'.cell? ⟨w.heap.size, 2, none⟩ = some (.slice bo m cb))) (by kernel_rfl) (HKC.out _ (Since.refl _).drew) (fun hHeld => ?_)
        refine take_yes 0 (some 21) (v := ?_) rfl (by kernel_rfl) (by kernel_rfl) (by kernel_rfl) (by kernel_rfl) (fun _ _ _ h => h) (by rfl) (by assumption) ?_ ?_
        rotate_left
        · (intro w' hSw; (try dsimp only at hSw); go_simp; try with_reducible rfl)
        try simp only [Act.put, List.setIfInBounds_toArray, List.set_cons_zero, List.set_cons_succ]
        refine take_yes 1 (some 22) (v := ?_) rfl (by kernel_rfl) (by kernel_rfl) (by kernel_rfl) (by kernel_rfl) (fun _ _ _ h => h) (by rfl) (by assumption) ?_ ?_
        rotate_left
        · (intro w' hSw; (try dsimp only at hSw); go_simp; try with_reducible rfl)
        try simp only [Act.put, List.setIfInBounds_toArray, List.set_cons_zero, List.set_cons_succ]
        refine take_yes 2 (some 23) (v := ?_) rfl (by kernel_rfl) (by kernel_rfl) (by kernel_rfl) (by kernel_rfl) (fun _ _ _ h => h) (by rfl) (by assumption) ?_ ?_
        rotate_left
        · (intro w' hSw; (try dsimp only at hSw); go_simp; try with_reducible rfl)
        try simp only [Act.put, List.setIfInBounds_toArray, List.set_cons_zero, List.set_cons_succ]
        refine take_run 3 rfl (by kernel_rfl) (by rfl) (fun K hK => ?_)
        go_simp
        refine (HLV.out _ (HSW.out.trans (Since.refl _).drew) HV.out).mono ?_
        rintro e w2 ⟨v2, rfl, ho2, hs2⟩
        have hc2 := Since.of_drew hs2
        obtain ⟨l2o, l2c, rfl⟩ := ho2.len
        have HL2 := Lib.hid ho2.at
        clear ho2
        rw [boL_length] at HL2 ⊢
        refine hK.out _ _ (HKC.out _ hc2) (fun hHeld2 => ?_)
        clear hK K hHeld
        try simp only [Act.put, List.setIfInBounds_toArray, List.set_cons_zero, List.set_cons_succ]
        refine take_run 4 rfl (by kernel_rfl) (by rfl) (fun K hK => ?_)
        go_simp
        refine (HNM.out _ _ _ (HSW.out.trans hc2) HV.out HTC.out (HIA.out.since hc2) HL2.out).mono ?_
        rintro e w3 ⟨v3, rfl, ho3, hs3⟩
        have hc3 := hc2.trans hs3
        obtain ⟨r3a, r3b, rfl, i3, o3, n3, q3⟩ := ho3
        obtain ⟨so, sc, rfl⟩ := o3.len
        obtain ⟨uo, uc, rfl⟩ := q3.len
        have HO3 : Hid (OwnA _ _ _ _ _) := ⟨_, _, rfl, i3, o3, n3, q3⟩
        have hw3 := hs3.size
        have hw2 := hc2.size
        have hw1 := HS.out.size
        refine hK.out _ _ (HKC.out _ hc3) (fun hHeld3 => ?_)
        clear hK K hHeld2 i3 o3 n3 q3
        try simp only [Act.put, List.setIfInBounds_toArray, List.set_cons_zero, List.set_cons_succ]
        refine take_run 5 rfl (by kernel_rfl) (by rfl) (fun K hK => ?_)
        obtain ⟨⟨r0, r1, r2⟩, r3, r4, r5⟩ := (C1.out.since (HS.out.trans hc3)).threeA
        go_simp
        clear r0 r1 r2 r3 r4 r5
        obtain ⟨w4, hw4⟩ : ∃ w4, w4 = ((w3.setCell ⟨w.heap.size + 1, 0, none⟩ (.int .i64 R.st)).setCell ⟨w.heap.size + 1, 1, none⟩ (.slice so R.ac.length sc)).setCell ⟨w.heap.size + 1, 2, none⟩ (.slice uo R.nx.length uc) := ⟨_, rfl⟩
        have hS4 : Since w w4 := by
          rw [hw4]
          iterate 3 (with_reducible refine Since.setCell ?_ (by simp) _)
          exact HSW.out.trans hc3
        have hO4 : OwnA w2.heap.size w3.heap.size w4 (.agg #[.int .i64 R.st, .slice so R.ac.length sc, .slice uo R.nx.length uc]) R := by
          rw [hw4]
          iterate 3 (with_reducible refine OwnA.far1 ?_ (.inl (by omega)) _ _)
          exact HO3.out
        have hB4 : Blk w4 (w.heap.size + 1) 27 #[.int .i64 R.st, .slice so R.ac.length sc, .slice uo R.nx.length uc] := by
          rw [hw4]
          exact ((((C1.out.since (HS.out.trans hc3))).set 0 _).set 1 _).set 2 _
        have hC4 : Blk w4 w.heap.size 27 #[.int .i64 A.st, .slice ao k ca, .slice bo m cb] := by
          rw [hw4]
          exact (((C0.out.since (HS.out.trans hc3)).far (by simp) _).far (by simp) _).far (by simp) _
        have hz4 : w4.heap.size = w3.heap.size := by rw [hw4]; simp
        rw [← hw4]
        refine hK.out _ _ hC4.threeA.1 (fun hHeldz => ?_)
        clear hK K hHeld3 hw4 HO3
        try simp only [Act.put, List.setIfInBounds_toArray, List.set_cons_zero, List.set_cons_succ]
        refine wpAnyH_done (by kernel_rfl) ?_ _
        clear hHeldz
        obtain ⟨⟨r0, r1, r2⟩, _⟩ := hB4.threeA
        go_wp2
        refine bodyPost_ret (v := .agg #[.int .i64 R.st, .slice so R.ac.length sc, .slice uo R.nx.length uc]) (by simp [results, Try.results42, go_sem, *]) rfl ?_
        exact ⟨_, rfl, hO4.wider (by omega) (by omega), hS4⟩
end Go.Proofs.Ytcokggjekleabaa
