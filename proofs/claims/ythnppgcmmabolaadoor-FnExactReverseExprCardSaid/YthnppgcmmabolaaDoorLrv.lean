/- ReverseExpr, the model's and the program's. -/
import Derived.Test.YthnppgcmmabolaaDoorSpl
namespace Go.Proofs.YthnppgcmmabolaaDoor
set_option maxRecDepth 100000
open Go.ChangeShapes Go.WideShapes Go.ChangeAt Go.RowKit
set_option linter.unusedVariables false
set_option linter.unusedSimpArgs false

theorem toks_blk {w : World} {L : Nat} {t : Tok} (h : Blk w L 44 #[.int .i64 t.kd, .int .i64 t.lr, .int .i64 t.lo, .int .i64 t.hi]) (ht : t.In) : ToksAt w (.slice (some ⟨L, 0, none⟩) 1 1) [t] := by
  refine ⟨fun x hx => by simp at hx; subst hx; exact ht, .inr ⟨L, 0, 1, rfl, h.lt, fun i hi => ?_⟩⟩
  obtain rfl : i = 0 := by simp at hi; omega
  obtain ⟨a, b, c, d, _⟩ := h.four
  exact ⟨a, b, c, d⟩
theorem post_pos {T : Tr} (h : T.ok) : 0 < T.post.length := by
  rw [post_len]
  cases T with
  | nil => exact h.elim
  | node t l r => simp [Tr.len]
set_option maxHeartbeats 4000000 in
set_option maxRecDepth 100000 in
theorem l8Reverse_any (T : Tr) : ∀ (ao : Option Addr) (n ac : Nat) (w : World), T.ok → ToksAt w (.slice ao n ac) T.post → n ≤ ac → n = T.len → n ≤ 1048577 → (∀ x ∈ T.post, x.In) →
    Calls Tryd.prog 36 #[.slice ao n ac] w (TokOut w T.rev.post) := by
  induction T with
  | nil => intro ao n ac w h; exact h.elim
  | node t l r hl hr =>
    intro ao n ac w hok ha hac hn hn9 hin
    obtain ⟨htok, hcase⟩ := hok
    have HA := Lib.hid ha
    obtain ⟨_, _, e0, HC⟩ := ha.row
    injection e0 with e1 e2 e3
    subst e1; subst e3
    clear e2 ha
    obtain ⟨q, hq⟩ : ∃ q, q = l.post.length := ⟨_, rfl⟩
    obtain ⟨m, hm⟩ : ∃ m, m = r.post.length := ⟨_, rfl⟩
    have hnn : n = q + m + 1 := by rw [hn, hq, hm, post_len, post_len]; rfl
    have hxl : (Tr.node t l r).post.length = q + m + 1 := by rw [hq, hm]; simp [Tr.post]; omega
    clear hn
    subst hnn
    have HQ := Lib.hid hq
    have HMM := Lib.hid hm
    clear hq hm
    have hxq : q + m < (Tr.node t l r).post.length := by omega
    have hxt : (Tr.node t l r).post[q + m] = t := by
      have h1 : (Tr.node t l r).post[q + m]? = some t := by
        rw [show (Tr.node t l r).post = (l.post ++ r.post) ++ [t] from rfl, show q + m = (l.post ++ r.post).length from by rw [HQ.out, HMM.out, List.length_append], List.getElem?_append_right (Nat.le_refl _), Nat.sub_self]
        rfl
      rw [List.getElem?_eq_getElem hxq] at h1
      exact Option.some.inj h1
    have HTK1 : Hid ((Tr.node t l r).post.take (q + m) = l.post ++ r.post) := by unfold Hid; rw [show (Tr.node t l r).post = (l.post ++ r.post) ++ [t] from rfl]; exact List.take_left' (by rw [HQ.out, HMM.out, List.length_append])
    obtain ⟨b, off, rfl, hb, c0, c1, c2, c3⟩ := HC.out (q + m) hxq
    rw [hxt] at c0 c1 c2 c3
    have HTI : Hid (t.In) := by have hmem := List.getElem_mem hxq; rw [hxt] at hmem; exact hin t hmem
    have HINL : Hid (∀ x ∈ l.post, x.In) := fun x hx => hin x (by simp [Tr.post, hx])
    have HINR : Hid (∀ x ∈ r.post, x.In) := fun x hx => hin x (by simp [Tr.post, hx])
    clear hxt hin hxl
    have har : Hid (ariT t = (opN t : Int)) := by unfold Hid ariT; rw [if_pos htok]
    have HTA : Hid (ToksAt w (.slice (some ⟨b, off, none⟩) (q + m) ac) (l.post ++ r.post)) := by
      unfold Hid; rw [← HTK1.out]; exact toks_takeO HA.out (by omega) _ _ (fun _ _ e => e)
    have hkq : ((q + m : Nat) : Int) < ((q + m + 1 : Nat) : Int) := by omega
    have hk0 : (0 : Int) ≤ ((q + m : Nat) : Int) := by omega
    have hqa : q + m ≤ ac := by omega
    have hqai : (q : Int) + (m : Int) ≤ (ac : Int) := by omega
    have hqm0 : (0 : Int) ≤ (q : Int) + (m : Int) := by omega
    obtain ⟨y, hy⟩ : ∃ y, y = w.alloc (.cells #[.int .i64 t.kd, .int .i64 t.lr, .int .i64 t.lo, .int .i64 t.hi] 44) := ⟨_, rfl⟩
    have hsy : Since w y := by rw [hy]; exact (Since.refl w).alloc _
    have BT : Hid (Blk y w.heap.size 44 #[.int .i64 t.kd, .int .i64 t.lr, .int .i64 t.lo, .int .i64 t.hi]) := by rw [hy]; exact Blk.new rfl _ _
    have hzy : Hid (w.heap.size < y.heap.size) := by rw [hy]; unfold Hid; simp
    have HY := Lib.hid hy
    obtain ⟨d0, d1, d2, d3, _⟩ := BT.out.four
    rw [hy] at d0 d1 d2 d3
    clear hy
    go_enter Tryd.func36, Tryd.ntmps36
    go_wp2_with fail
    rw [← HY.out]
    clear c0 c1 c2 c3 d0 d1 d2 d3
    refine (l8Arity_any t _).mono ?_
    rintro e w1 ⟨rfl, hs1⟩
    rw [har.out]
    have hyw := hsy.trans hs1
    have BT1 := Lib.hid (BT.out.since hs1)
    have HTA1 := Lib.hid (HTA.out.since hyw)
    rcases hcase with ⟨h0, rfl, rfl⟩ | ⟨h1, hlo, rfl⟩ | ⟨h2, hlo, hro⟩
    · -- no operand
      rw [h0]
      have hk4 : t.kd ≠ 4 := by intro h; unfold opN at h0; rw [if_pos (.inl h)] at h0; omega
      have HREV : Hid ((Tr.node t .nil .nil).rev.post = [turnT t]) := by unfold Hid; simp only [Tr.rev]; rw [if_neg hk4]; rfl
      clear h0 hk4
      obtain ⟨d0, d1, d2, d3, f0, f1, f2, f3⟩ := BT1.out.four
      by_cases h3 : t.kd = 3
      · have e3 : (t.kd == 3) = true := by simp [h3]
        have HTN : Hid (turnT t = ⟨t.kd, invL t.lr, t.lo, t.hi⟩) := by unfold Hid turnT; rw [if_pos h3]
        have HTI2 : Hid ((⟨t.kd, invL t.lr, t.lo, t.hi⟩ : Tok).In) := by unfold Hid; rw [← HTN.out]; exact turnT_in HTI.out
        clear h3
        go_wp2_with fail
        refine (specIL_any t.lr _).mono ?_
        rintro e w9 ⟨rfl, rfl⟩
        have BT2 := Lib.hid (BT1.out.set 1 (.int .i64 (invL t.lr)))
        have hs2 := hyw.setCell (a := ⟨w.heap.size, 1, none⟩) (Nat.le_refl _) (.int .i64 (invL t.lr))
        go_upto_region 13 with fail
        clear d0 d1 d2 d3 f0 f1 f2 f3
        generalize w1.setCell ⟨w.heap.size, 1, none⟩ (.int .i64 (invL t.lr)) = w2 at BT2 hs2 ⊢
        obtain ⟨d0, d1, d2, d3, _⟩ := Blk.four (a := .int .i64 t.kd) (b := .int .i64 (invL t.lr)) (c := .int .i64 t.lo) (d := .int .i64 t.hi) BT2.out
        go_wp2
        go_ret
        exact ⟨_, rfl, by rw [HREV.out, HTN.out]; exact ownK_one w w2 hs2 _ HTI2.out _ rfl, hs2.alloc _⟩
      · have e3 : (t.kd == 3) = false := by simp; omega
        have HTN : Hid (turnT t = t) := by unfold Hid turnT; rw [if_neg h3]
        clear h3
        go_wp2
        go_ret
        exact ⟨_, rfl, by rw [HREV.out, HTN.out]; exact ownK_one w w1 hyw _ HTI.out _ rfl, hyw.alloc _⟩
    · -- one operand
      rw [h1]
      have hk4 : t.kd ≠ 4 := by intro h; unfold opN at h1; rw [if_pos (.inl h)] at h1; omega
      have hk3 : t.kd ≠ 3 := by intro h; unfold opN at h1; rw [if_neg (by omega), if_neg (by omega)] at h1; omega
      have HREV : Hid ((Tr.node t l .nil).rev.post = l.rev.post ++ [t]) := by unfold Hid; simp only [Tr.rev]; rw [if_neg hk4]; simp [Tr.post, Tr.rev, turnT, hk3]
      clear h1 hk4 hk3
      have hm0 : m = 0 := HMM.out
      have HTL : Hid (ToksAt w1 (.slice (some ⟨b, off, none⟩) (q + m) ac) l.post) := by have := HTA1.out; rwa [show l.post ++ Tr.nil.post = l.post from List.append_nil _] at this
      have hlq : Hid (q + m = l.len) := by unfold Hid; rw [← post_len, hm0, HQ.out]; rfl
      clear hm0
      go_upto_region 5 with fail
      have HKC : Hid (∀ w', Since w1 w' → w'.cell? ⟨w.heap.size, 0, none⟩ = some (.int .i64 t.kd) ∧ w'.cell? ⟨w.heap.size, 1, none⟩ = some (.int .i64 t.lr) ∧ w'.cell? ⟨w.heap.size, 2, none⟩ = some (.int .i64 t.lo) ∧ w'.cell? ⟨w.heap.size, 3, none⟩ = some (.int .i64 t.hi)) := by
        intro w' hs
        obtain ⟨x0, x1, x2, x3, _⟩ := (BT1.out.since hs).four
        exact ⟨x0, x1, x2, x3⟩
      refine wp_region_held_drew (S := (fun w' => w'.cell? ⟨w.heap.size, 0, none⟩ = some (.int .i64 t.kd) ∧ w'.cell? ⟨w.heap.size, 1, none⟩ = some (.int .i64 t.lr) ∧ w'.cell? ⟨w.heap.size, 2, none⟩ = some (.int .i64 t.lo) ∧ w'.cell? ⟨w.heap.size, 3, none⟩ = some (.int .i64 t.hi))) (by kernel_rfl) (HKC.out _ (Since.refl _).drew) (fun hHeld => ?_)
      refine take_yes 0 (some 17) (v := ?_) rfl (by kernel_rfl) (by kernel_rfl) (by kernel_rfl) (by kernel_rfl) (fun _ _ _ h => h) (by rfl) (by assumption) ?_ ?_
      rotate_left
      · (intro w' hSw; (try dsimp only at hSw); go_simp; try with_reducible rfl)
      try simp only [Act.put, List.setIfInBounds_toArray, List.set_cons_zero, List.set_cons_succ]
      refine take_yes 1 (some 18) (v := ?_) rfl (by kernel_rfl) (by kernel_rfl) (by kernel_rfl) (by kernel_rfl) (fun _ _ _ h => h) (by rfl) (by assumption) ?_ ?_
      rotate_left
      · (intro w' hSw; (try dsimp only at hSw); go_simp; try with_reducible rfl)
      try simp only [Act.put, List.setIfInBounds_toArray, List.set_cons_zero, List.set_cons_succ]
      refine take_yes 2 (some 19) (v := ?_) rfl (by kernel_rfl) (by kernel_rfl) (by kernel_rfl) (by kernel_rfl) (fun _ _ _ h => h) (by rfl) (by assumption) ?_ ?_
      rotate_left
      · (intro w' hSw; (try dsimp only at hSw); go_simp; try with_reducible rfl)
      try simp only [Act.put, List.setIfInBounds_toArray, List.set_cons_zero, List.set_cons_succ]
      refine take_yes 4 (some 21) (v := ?_) rfl (by kernel_rfl) (by kernel_rfl) (by kernel_rfl) (by kernel_rfl) (fun _ _ _ h => h) (by rfl) (by assumption) ?_ ?_
      rotate_left
      · (intro w' hSw; (try dsimp only at hSw); go_simp; try with_reducible rfl)
      try simp only [Act.put, List.setIfInBounds_toArray, List.set_cons_zero, List.set_cons_succ]
      refine take_two 3 5 rfl rfl (by kernel_rfl) (by rfl) (by rfl) (fun K hK => ?_) (fun K hK => ?_)
      · skip
        go_simp
        try rw [show ((q : Int) + (m : Int)).toNat - q = m from by omega]
        try rw [show ((q : Int) + (m : Int)).toNat = q + m from by omega]
        refine (hl (some ⟨b, off, none⟩) (q + m) ac _ hlo (HTL.out.since (Since.refl w1).drew) (by omega) (by exact hlq.out) (by omega) HINL.out).mono ?_
        rintro en q1 ⟨v1, rfl, ho1, hs1⟩
        have c1 := Since.trans (Since.refl w1).drew hs1
        have hb1 := ho1.2.lt
        have z1 := hs1.size
        have HO1 := Lib.hid ho1
        obtain ⟨uo, un, uc, huN, rfl⟩ := ho1.lenN
        have HB1 := Lib.hid hb1
        clear ho1 hb1
        refine hK.out _ _ (HKC.out _ c1) (fun hHeld1 => ?_)
        clear hK K hHeld
        try simp only [Act.put, List.setIfInBounds_toArray, List.set_cons_zero, List.set_cons_succ]
        refine take_run 5 rfl (by kernel_rfl) (by rfl) (fun K hK => ?_)
        go_simp
        have al2 : Since (q1) ((q1).alloc (.cells #[.int .i64 t.kd, .int .i64 t.lr, .int .i64 t.lo, .int .i64 t.hi] 44)) := (Since.refl _).alloc _
        have c2 := Since.trans c1 al2
        have z2 := al2.size
        have ze2 : ((q1).alloc (.cells #[.int .i64 t.kd, .int .i64 t.lr, .int .i64 t.lo, .int .i64 t.hi] 44)).heap.size = q1.heap.size + 1 := by simp
        have LT2 : Hid (Blk ((q1).alloc (.cells #[.int .i64 t.kd, .int .i64 t.lr, .int .i64 t.lo, .int .i64 t.hi] 44)) (q1.heap.size) 44 #[.int .i64 t.kd, .int .i64 t.lr, .int .i64 t.lo, .int .i64 t.hi]) := Blk.new (by simp) _ _
        have Ru1 := Lib.hid (HO1.out.since al2)
        have HAL : Hid (Since (q1) ((q1).alloc (.cells #[.int .i64 t.kd, .int .i64 t.lr, .int .i64 t.lo, .int .i64 t.hi] 44))) := al2
        refine hK.out _ _ (HKC.out _ c2) (fun hHeld2 => ?_)
        clear hK K hHeld1
        try simp only [Act.put, List.setIfInBounds_toArray, List.set_cons_zero, List.set_cons_succ]
        refine take_run 6 rfl (by kernel_rfl) (by rfl) (fun K hK => ?_)
        refine wp_append_toks (o := ⟨some 23, _, _, _, _, _⟩) (.tmp 20) (.tmp 22) rfl (w1.drew.heap.size) _ (l.rev.post) rfl Ru1.out _ _ _ rfl ([t]) (toks_blk LT2.out HTI.out) (by simp only [List.length_append, post_len, rev_len, List.length_cons, List.length_nil]; have := HQ.out; have := HMM.out; simp only [post_len] at *; omega) (by first | omega | (simp; omega)) ?_
        intro v3 w3 ho3 hg3 hn3
        have c3 : Since w1 w3 := Since.grown c2 hg3 (fun g hg => by have := HB1.out g hg; first | omega | (simp at *; omega))
        have z3 := hg3.size
        have HO3 := Lib.hid ho3
        clear ho3
        clear hg3 hn3
        refine hK.out _ _ (HKC.out _ c3) (fun hHeld3 => ?_)
        clear hK K hHeld2
        try simp only [Act.put, List.setIfInBounds_toArray, List.set_cons_zero, List.set_cons_succ]
        refine take_yes 7 (some 2) (v := ?_) rfl (by kernel_rfl) (by kernel_rfl) (by kernel_rfl) (by kernel_rfl) (fun _ _ _ h => h) (by rfl) (by assumption) ?_ ?_
        rotate_left
        · (intro w' hSw; (try dsimp only at hSw); go_simp; try with_reducible rfl)
        try simp only [Act.put, List.setIfInBounds_toArray, List.set_cons_zero, List.set_cons_succ]
        refine wpAnyH_done (by kernel_rfl) ?_ _
        clear hHeld3
        go_wp2
        go_ret
        exact ⟨_, rfl, by rw [HREV.out]; exact HO3.out.mono (by have := hyw.size; first | omega | (simp; omega)), hyw.trans c3⟩
      · skip
        go_simp
        have al1 : Since (w1.drew) ((w1.drew).alloc (.cells #[.int .i64 t.kd, .int .i64 t.lr, .int .i64 t.lo, .int .i64 t.hi] 44)) := (Since.refl _).alloc _
        have c1 := Since.trans (Since.refl w1).drew al1
        have z1 := al1.size
        have ze1 : ((w1.drew).alloc (.cells #[.int .i64 t.kd, .int .i64 t.lr, .int .i64 t.lo, .int .i64 t.hi] 44)).heap.size = w1.heap.size + 1 := by simp
        have LT1 : Hid (Blk ((w1.drew).alloc (.cells #[.int .i64 t.kd, .int .i64 t.lr, .int .i64 t.lo, .int .i64 t.hi] 44)) (w1.heap.size) 44 #[.int .i64 t.kd, .int .i64 t.lr, .int .i64 t.lo, .int .i64 t.hi]) := Blk.new (by simp) _ _
        have HAL : Hid (Since (w1.drew) ((w1.drew).alloc (.cells #[.int .i64 t.kd, .int .i64 t.lr, .int .i64 t.lo, .int .i64 t.hi] 44))) := al1
        refine hK.out _ _ (HKC.out _ c1) (fun hHeld1 => ?_)
        clear hK K hHeld
        try simp only [Act.put, List.setIfInBounds_toArray, List.set_cons_zero, List.set_cons_succ]
        refine take_run 3 rfl (by kernel_rfl) (by rfl) (fun K hK => ?_)
        go_simp
        try rw [show ((q : Int) + (m : Int)).toNat - q = m from by omega]
        try rw [show ((q : Int) + (m : Int)).toNat = q + m from by omega]
        refine (hl (some ⟨b, off, none⟩) (q + m) ac _ hlo (HTL.out.since c1) (by omega) (by exact hlq.out) (by omega) HINL.out).mono ?_
        rintro en q2 ⟨v2, rfl, ho2, hs2⟩
        have c2 := Since.trans c1 hs2
        have hb2 := ho2.2.lt
        have z2 := hs2.size
        have HO2 := Lib.hid ho2
        obtain ⟨uo, un, uc, huN, rfl⟩ := ho2.lenN
        have HB2 := Lib.hid hb2
        clear ho2 hb2
        have LL1 := Lib.hid (LT1.out.since hs2)
        refine hK.out _ _ (HKC.out _ c2) (fun hHeld2 => ?_)
        clear hK K hHeld1
        try simp only [Act.put, List.setIfInBounds_toArray, List.set_cons_zero, List.set_cons_succ]
        refine take_run 6 rfl (by kernel_rfl) (by rfl) (fun K hK => ?_)
        refine wp_append_toks (o := ⟨some 23, _, _, _, _, _⟩) (.tmp 20) (.tmp 22) rfl ((w1.drew.alloc (.cells #[.int .i64 t.kd, .int .i64 t.lr, .int .i64 t.lo, .int .i64 t.hi] 44)).heap.size) _ (l.rev.post) rfl HO2.out _ _ _ rfl ([t]) (toks_blk LL1.out HTI.out) (by simp only [List.length_append, post_len, rev_len, List.length_cons, List.length_nil]; have := HQ.out; have := HMM.out; simp only [post_len] at *; omega) (by first | omega | (simp; omega)) ?_
        intro v3 w3 ho3 hg3 hn3
        have c3 : Since w1 w3 := Since.grown c2 hg3 (fun g hg => by have := HB2.out g hg; first | omega | (simp at *; omega))
        have z3 := hg3.size
        have HO3 := Lib.hid ho3
        clear ho3
        clear hg3 hn3
        refine hK.out _ _ (HKC.out _ c3) (fun hHeld3 => ?_)
        clear hK K hHeld2
        try simp only [Act.put, List.setIfInBounds_toArray, List.set_cons_zero, List.set_cons_succ]
        refine take_yes 7 (some 2) (v := ?_) rfl (by kernel_rfl) (by kernel_rfl) (by kernel_rfl) (by kernel_rfl) (fun _ _ _ h => h) (by rfl) (by assumption) ?_ ?_
        rotate_left
        · (intro w' hSw; (try dsimp only at hSw); go_simp; try with_reducible rfl)
        try simp only [Act.put, List.setIfInBounds_toArray, List.set_cons_zero, List.set_cons_succ]
        refine wpAnyH_done (by kernel_rfl) ?_ _
        clear hHeld3
        go_wp2
        go_ret
        exact ⟨_, rfl, by rw [HREV.out]; exact HO3.out.mono (by have := hyw.size; first | omega | (simp; omega)), hyw.trans c3⟩
    · -- two operands
      rw [h2]
      have hk3 : t.kd ≠ 3 := by intro h; unfold opN at h2; rw [if_neg (by omega), if_neg (by omega)] at h2; omega
      have HTN : Hid (turnT t = t) := by unfold Hid turnT; rw [if_neg hk3]
      have HSC : Hid (Scan (l.post ++ r.post) l.post.length (l.post ++ r.post).length 1) := scan_two l.post r hro
      have hmp : 0 < m := by rw [HMM.out]; exact post_pos hro
      clear h2 hk3
      go_wp2_with fail
      refine (l8Start_any _ (l.post ++ r.post) l.post.length _ HTA1.out HSC.out (by rw [List.length_append, ← HQ.out, ← HMM.out]; omega)).mono ?_
      rintro e w2 ⟨rfl, hs2⟩
      rw [← HQ.out]
      have hyw2 := hyw.trans hs2
      have BT0 := BT1
      have BT1 := Lib.hid (BT0.out.since hs2)
      have hne : ¬ (ac = q) := by omega
      have hqac : q ≤ ac := by omega
      have hqaci : (q : Int) ≤ (ac : Int) := by omega
      have hqmi : (q : Int) ≤ (q : Int) + (m : Int) := by omega
      have hqma : (q : Int) + (m : Int) ≤ (ac : Int) := by omega
      have hq0 : (0 : Int) ≤ (q : Int) := by omega
      have HT1 : Hid (ToksAt w2 (.slice (some ⟨b, off, none⟩) q ac) l.post) := by
        have := toks_takeO HTA.out (k := q) (by omega) (some ⟨b, off, none⟩) ac (fun _ _ e => e)
        rw [show (l.post ++ r.post).take q = l.post from List.take_left' HQ.out.symm] at this
        exact this.since hyw2
      have HT2 : Hid (ToksAt w2 (.slice (some ⟨b, off + q * 4, none⟩) m (ac - q)) r.post) := by
        have := toks_dropO HTA.out (k := q) (by omega) (some ⟨b, off + q * 4, none⟩) m (ac - q) (by omega) (fun _ b1 o1 e => by injection e with e; injection e with e1 e2; rw [e1, e2])
        rw [show (l.post ++ r.post).drop q = r.post from List.drop_left' HQ.out.symm] at this
        exact this.since hyw2
      have hql : Hid (q = l.len) := by unfold Hid; rw [← post_len]; exact HQ.out
      have hmr : Hid (m = r.len) := by unfold Hid; rw [← post_len]; exact HMM.out
      obtain ⟨d0, d1, d2, d3, _⟩ := BT1.out.four
      by_cases h4 : t.kd = 4
      · have e4 : (t.kd == 4) = true := by simp [h4]
        have HREV : Hid ((Tr.node t l r).rev.post = r.rev.post ++ l.rev.post ++ [t]) := by unfold Hid; simp only [Tr.rev]; rw [if_pos h4, HTN.out]; rfl
        clear h4
        go_upto_region 9 with fail
        clear d0 d1 d2 d3
        have HKC : Hid (∀ w', Since w2 w' → w'.cell? ⟨w.heap.size, 0, none⟩ = some (.int .i64 t.kd) ∧ w'.cell? ⟨w.heap.size, 1, none⟩ = some (.int .i64 t.lr) ∧ w'.cell? ⟨w.heap.size, 2, none⟩ = some (.int .i64 t.lo) ∧ w'.cell? ⟨w.heap.size, 3, none⟩ = some (.int .i64 t.hi)) := by
          intro w' hs
          obtain ⟨x0, x1, x2, x3, _⟩ := (BT1.out.since hs).four
          exact ⟨x0, x1, x2, x3⟩
        refine wp_region_held_drew (S := (fun w' => w'.cell? ⟨w.heap.size, 0, none⟩ = some (.int .i64 t.kd) ∧ w'.cell? ⟨w.heap.size, 1, none⟩ = some (.int .i64 t.lr) ∧ w'.cell? ⟨w.heap.size, 2, none⟩ = some (.int .i64 t.lo) ∧ w'.cell? ⟨w.heap.size, 3, none⟩ = some (.int .i64 t.hi))) (by kernel_rfl) (HKC.out _ (Since.refl _).drew) (fun hHeld => ?_)
        refine take_yes 0 (some 33) (v := ?_) rfl (by kernel_rfl) (by kernel_rfl) (by kernel_rfl) (by kernel_rfl) (fun _ _ _ h => h) (by rfl) (by assumption) ?_ ?_
        rotate_left
        · (intro w' hSw; (try dsimp only at hSw); go_simp; try with_reducible rfl)
        try simp only [Act.put, List.setIfInBounds_toArray, List.set_cons_zero, List.set_cons_succ]
        refine take_yes 1 (some 34) (v := ?_) rfl (by kernel_rfl) (by kernel_rfl) (by kernel_rfl) (by kernel_rfl) (fun _ _ _ h => h) (by rfl) (by assumption) ?_ ?_
        rotate_left
        · (intro w' hSw; (try dsimp only at hSw); go_simp; try with_reducible rfl)
        try simp only [Act.put, List.setIfInBounds_toArray, List.set_cons_zero, List.set_cons_succ]
        refine take_yes 2 (some 35) (v := ?_) rfl (by kernel_rfl) (by kernel_rfl) (by kernel_rfl) (by kernel_rfl) (fun _ _ _ h => h) (by rfl) (by assumption) ?_ ?_
        rotate_left
        · (intro w' hSw; (try dsimp only at hSw); go_simp; try with_reducible rfl)
        try simp only [Act.put, List.setIfInBounds_toArray, List.set_cons_zero, List.set_cons_succ]
        refine take_yes 3 (some 36) (v := ?_) rfl (by kernel_rfl) (by kernel_rfl) (by kernel_rfl) (by kernel_rfl) (fun _ _ _ h => h) (by rfl) (by assumption) ?_ ?_
        rotate_left
        · (intro w' hSw; (try dsimp only at hSw); go_simp; try with_reducible rfl)
        try simp only [Act.put, List.setIfInBounds_toArray, List.set_cons_zero, List.set_cons_succ]
        refine take_yes 5 (some 38) (v := ?_) rfl (by kernel_rfl) (by kernel_rfl) (by kernel_rfl) (by kernel_rfl) (fun _ _ _ h => h) (by rfl) (by assumption) ?_ ?_
        rotate_left
        · (intro w' hSw; (try dsimp only at hSw); go_simp; try with_reducible rfl)
        try simp only [Act.put, List.setIfInBounds_toArray, List.set_cons_zero, List.set_cons_succ]
        refine take_yes 6 (some 39) (v := ?_) rfl (by kernel_rfl) (by kernel_rfl) (by kernel_rfl) (by kernel_rfl) (fun _ _ _ h => h) (by rfl) (by assumption) ?_ ?_
        rotate_left
        · (intro w' hSw; (try dsimp only at hSw); go_simp; try with_reducible rfl)
        try simp only [Act.put, List.setIfInBounds_toArray, List.set_cons_zero, List.set_cons_succ]
        refine take_yes 7 (some 40) (v := ?_) rfl (by kernel_rfl) (by kernel_rfl) (by kernel_rfl) (by kernel_rfl) (fun _ _ _ h => h) (by rfl) (by assumption) ?_ ?_
        rotate_left
        · (intro w' hSw; (try dsimp only at hSw); go_simp; try with_reducible rfl)
        try simp only [Act.put, List.setIfInBounds_toArray, List.set_cons_zero, List.set_cons_succ]
        refine take_yes 10 (some 43) (v := ?_) rfl (by kernel_rfl) (by kernel_rfl) (by kernel_rfl) (by kernel_rfl) (fun _ _ _ h => h) (by rfl) (by assumption) ?_ ?_
        rotate_left
        · (intro w' hSw; (try dsimp only at hSw); go_simp; try with_reducible rfl)
        try simp only [Act.put, List.setIfInBounds_toArray, List.set_cons_zero, List.set_cons_succ]
        refine take_two 4 11 rfl rfl (by kernel_rfl) (by rfl) (by rfl) (fun K hK => ?_) (fun K hK => ?_)
        · skip
          go_simp
          try rw [show ((q : Int) + (m : Int)).toNat - q = m from by omega]
          try rw [show ((q : Int) + (m : Int)).toNat = q + m from by omega]
          refine (hr (some ⟨b, off + q * 4, none⟩) m (ac - q) _ hro (HT2.out.since (Since.refl w2).drew) (by omega) (by exact hmr.out) (by omega) HINR.out).mono ?_
          rintro en q1 ⟨v1, rfl, ho1, hs1⟩
          have c1 := Since.trans (Since.refl w2).drew hs1
          have hb1 := ho1.2.lt
          have z1 := hs1.size
          have HO1 := Lib.hid ho1
          obtain ⟨uo, un, uc, huN, rfl⟩ := ho1.lenN
          have HB1 := Lib.hid hb1
          clear ho1 hb1
          refine hK.out _ _ (HKC.out _ c1) (fun hHeld1 => ?_)
          clear hK K hHeld
          try simp only [Act.put, List.setIfInBounds_toArray, List.set_cons_zero, List.set_cons_succ]
          refine take_two 8 11 rfl rfl (by kernel_rfl) (by rfl) (by rfl) (fun K hK => ?_) (fun K hK => ?_)
          · skip
            go_simp
            try rw [show ((q : Int) + (m : Int)).toNat - q = m from by omega]
            try rw [show ((q : Int) + (m : Int)).toNat = q + m from by omega]
            refine (hl (some ⟨b, off, none⟩) q ac _ hlo (HT1.out.since c1) (by omega) (by exact hql.out) (by omega) HINL.out).mono ?_
            rintro en q2 ⟨v2, rfl, ho2, hs2⟩
            have c2 := Since.trans c1 hs2
            have hb2 := ho2.2.lt
            have z2 := hs2.size
            have HO2 := Lib.hid ho2
            obtain ⟨xo, xn, xc, hxN, rfl⟩ := ho2.lenN
            have HB2 := Lib.hid hb2
            clear ho2 hb2
            have Ru1 := Lib.hid (HO1.out.since hs2)
            refine hK.out _ _ (HKC.out _ c2) (fun hHeld2 => ?_)
            clear hK K hHeld1
            try simp only [Act.put, List.setIfInBounds_toArray, List.set_cons_zero, List.set_cons_succ]
            refine take_two 9 11 rfl rfl (by kernel_rfl) (by rfl) (by rfl) (fun K hK => ?_) (fun K hK => ?_)
            · skip
              refine wp_append_toks (o := ⟨some 42, _, _, _, _, _⟩) (.tmp 37) (.tmp 41) rfl (w2.drew.heap.size) _ (r.rev.post) rfl Ru1.out xo xn xc rfl (l.rev.post) HO2.out.at (by simp only [List.length_append, post_len, rev_len, List.length_cons, List.length_nil]; have := HQ.out; have := HMM.out; simp only [post_len] at *; omega) (by first | omega | (simp; omega)) ?_
              intro v3 w3 ho3 hg3 hn3
              have c3 : Since w2 w3 := Since.grown c2 hg3 (fun g hg => by have := HB1.out g hg; first | omega | (simp at *; omega))
              have z3 := hg3.size
              have HO3 := Lib.hid ho3
              clear ho3
              have HN3 : Hid (∀ g, v3.ownBlock = some g → w2.drew.heap.size ≤ g ∧ g < w3.heap.size) := HO3.out.2.lt
              clear hg3 hn3
              refine hK.out _ _ (HKC.out _ c3) (fun hHeld3 => ?_)
              clear hK K hHeld2
              try simp only [Act.put, List.setIfInBounds_toArray, List.set_cons_zero, List.set_cons_succ]
              refine take_run 11 rfl (by kernel_rfl) (by rfl) (fun K hK => ?_)
              go_simp
              have al4 : Since (w3) ((w3).alloc (.cells #[.int .i64 t.kd, .int .i64 t.lr, .int .i64 t.lo, .int .i64 t.hi] 44)) := (Since.refl _).alloc _
              have c4 := Since.trans c3 al4
              have z4 := al4.size
              have ze4 : ((w3).alloc (.cells #[.int .i64 t.kd, .int .i64 t.lr, .int .i64 t.lo, .int .i64 t.hi] 44)).heap.size = w3.heap.size + 1 := by simp
              have LT4 : Hid (Blk ((w3).alloc (.cells #[.int .i64 t.kd, .int .i64 t.lr, .int .i64 t.lo, .int .i64 t.hi] 44)) (w3.heap.size) 44 #[.int .i64 t.kd, .int .i64 t.lr, .int .i64 t.lo, .int .i64 t.hi]) := Blk.new (by simp) _ _
              have RA2 := Lib.hid (HO3.out.since al4)
              have HAL : Hid (Since (w3) ((w3).alloc (.cells #[.int .i64 t.kd, .int .i64 t.lr, .int .i64 t.lo, .int .i64 t.hi] 44))) := al4
              refine hK.out _ _ (HKC.out _ c4) (fun hHeld4 => ?_)
              clear hK K hHeld3
              try simp only [Act.put, List.setIfInBounds_toArray, List.set_cons_zero, List.set_cons_succ]
              refine take_run 12 rfl (by kernel_rfl) (by rfl) (fun K hK => ?_)
              refine wp_append_toks (o := ⟨some 45, _, _, _, _, _⟩) (.tmp 42) (.tmp 44) rfl (w2.drew.heap.size) _ (r.rev.post ++ l.rev.post) rfl RA2.out _ _ _ rfl ([t]) (toks_blk LT4.out HTI.out) (by simp only [List.length_append, post_len, rev_len, List.length_cons, List.length_nil]; have := HQ.out; have := HMM.out; simp only [post_len] at *; omega) (by first | omega | (simp; omega)) ?_
              intro v5 w5 ho5 hg5 hn5
              have c5 : Since w2 w5 := Since.grown c4 hg5 (fun g hg => by have := HN3.out g hg; first | omega | (simp at *; omega))
              have z5 := hg5.size
              have HO5 := Lib.hid ho5
              clear ho5
              clear hg5 hn5
              refine hK.out _ _ (HKC.out _ c5) (fun hHeld5 => ?_)
              clear hK K hHeld4
              try simp only [Act.put, List.setIfInBounds_toArray, List.set_cons_zero, List.set_cons_succ]
              refine take_yes 13 (some 2) (v := ?_) rfl (by kernel_rfl) (by kernel_rfl) (by kernel_rfl) (by kernel_rfl) (fun _ _ _ h => h) (by rfl) (by assumption) ?_ ?_
              rotate_left
              · (intro w' hSw; (try dsimp only at hSw); go_simp; try with_reducible rfl)
              try simp only [Act.put, List.setIfInBounds_toArray, List.set_cons_zero, List.set_cons_succ]
              refine wpAnyH_done (by kernel_rfl) ?_ _
              clear hHeld5
              go_wp2
              go_ret
              exact ⟨_, rfl, by rw [HREV.out]; exact HO5.out.mono (by have := hyw2.size; first | omega | (simp; omega)), hyw2.trans c5⟩
            · skip
              go_simp
              have al3 : Since (q2) ((q2).alloc (.cells #[.int .i64 t.kd, .int .i64 t.lr, .int .i64 t.lo, .int .i64 t.hi] 44)) := (Since.refl _).alloc _
              have c3 := Since.trans c2 al3
              have z3 := al3.size
              have ze3 : ((q2).alloc (.cells #[.int .i64 t.kd, .int .i64 t.lr, .int .i64 t.lo, .int .i64 t.hi] 44)).heap.size = q2.heap.size + 1 := by simp
              have LT3 : Hid (Blk ((q2).alloc (.cells #[.int .i64 t.kd, .int .i64 t.lr, .int .i64 t.lo, .int .i64 t.hi] 44)) (q2.heap.size) 44 #[.int .i64 t.kd, .int .i64 t.lr, .int .i64 t.lo, .int .i64 t.hi]) := Blk.new (by simp) _ _
              have Ru2 := Lib.hid (Ru1.out.since al3)
              have Rx3 := Lib.hid (HO2.out.since al3)
              have HAL : Hid (Since (q2) ((q2).alloc (.cells #[.int .i64 t.kd, .int .i64 t.lr, .int .i64 t.lo, .int .i64 t.hi] 44))) := al3
              refine hK.out _ _ (HKC.out _ c3) (fun hHeld3 => ?_)
              clear hK K hHeld2
              try simp only [Act.put, List.setIfInBounds_toArray, List.set_cons_zero, List.set_cons_succ]
              refine take_run 9 rfl (by kernel_rfl) (by rfl) (fun K hK => ?_)
              refine wp_append_toks (o := ⟨some 42, _, _, _, _, _⟩) (.tmp 37) (.tmp 41) rfl (w2.drew.heap.size) _ (r.rev.post) rfl Ru2.out xo xn xc rfl (l.rev.post) Rx3.out.at (by simp only [List.length_append, post_len, rev_len, List.length_cons, List.length_nil]; have := HQ.out; have := HMM.out; simp only [post_len] at *; omega) (by first | omega | (simp; omega)) ?_
              intro v4 w4 ho4 hg4 hn4
              have c4 : Since w2 w4 := Since.grown c3 hg4 (fun g hg => by have := HB1.out g hg; first | omega | (simp at *; omega))
              have z4 := hg4.size
              have HO4 := Lib.hid ho4
              clear ho4
              have LL4 := Lib.hid (LT3.out.grwK hg4 (fun e => by have := HB1.out _ e.symm; first | omega | (simp at *; omega)))
              have HN4 : Hid (∀ g, v4.ownBlock = some g → w2.drew.heap.size ≤ g ∧ g < w4.heap.size) := HO4.out.2.lt
              clear hg4 hn4
              refine hK.out _ _ (HKC.out _ c4) (fun hHeld4 => ?_)
              clear hK K hHeld3
              try simp only [Act.put, List.setIfInBounds_toArray, List.set_cons_zero, List.set_cons_succ]
              refine take_run 12 rfl (by kernel_rfl) (by rfl) (fun K hK => ?_)
              refine wp_append_toks (o := ⟨some 45, _, _, _, _, _⟩) (.tmp 42) (.tmp 44) rfl (w2.drew.heap.size) _ (r.rev.post ++ l.rev.post) rfl HO4.out _ _ _ rfl ([t]) (toks_blk LL4.out HTI.out) (by simp only [List.length_append, post_len, rev_len, List.length_cons, List.length_nil]; have := HQ.out; have := HMM.out; simp only [post_len] at *; omega) (by first | omega | (simp; omega)) ?_
              intro v5 w5 ho5 hg5 hn5
              have c5 : Since w2 w5 := Since.grown c4 hg5 (fun g hg => by have := HN4.out g hg; first | omega | (simp at *; omega))
              have z5 := hg5.size
              have HO5 := Lib.hid ho5
              clear ho5
              clear hg5 hn5
              refine hK.out _ _ (HKC.out _ c5) (fun hHeld5 => ?_)
              clear hK K hHeld4
              try simp only [Act.put, List.setIfInBounds_toArray, List.set_cons_zero, List.set_cons_succ]
              refine take_yes 13 (some 2) (v := ?_) rfl (by kernel_rfl) (by kernel_rfl) (by kernel_rfl) (by kernel_rfl) (fun _ _ _ h => h) (by rfl) (by assumption) ?_ ?_
              rotate_left
              · (intro w' hSw; (try dsimp only at hSw); go_simp; try with_reducible rfl)
              try simp only [Act.put, List.setIfInBounds_toArray, List.set_cons_zero, List.set_cons_succ]
              refine wpAnyH_done (by kernel_rfl) ?_ _
              clear hHeld5
              go_wp2
              go_ret
              exact ⟨_, rfl, by rw [HREV.out]; exact HO5.out.mono (by have := hyw2.size; first | omega | (simp; omega)), hyw2.trans c5⟩
          · skip
            go_simp
            have al2 : Since (q1) ((q1).alloc (.cells #[.int .i64 t.kd, .int .i64 t.lr, .int .i64 t.lo, .int .i64 t.hi] 44)) := (Since.refl _).alloc _
            have c2 := Since.trans c1 al2
            have z2 := al2.size
            have ze2 : ((q1).alloc (.cells #[.int .i64 t.kd, .int .i64 t.lr, .int .i64 t.lo, .int .i64 t.hi] 44)).heap.size = q1.heap.size + 1 := by simp
            have LT2 : Hid (Blk ((q1).alloc (.cells #[.int .i64 t.kd, .int .i64 t.lr, .int .i64 t.lo, .int .i64 t.hi] 44)) (q1.heap.size) 44 #[.int .i64 t.kd, .int .i64 t.lr, .int .i64 t.lo, .int .i64 t.hi]) := Blk.new (by simp) _ _
            have Ru1 := Lib.hid (HO1.out.since al2)
            have HAL : Hid (Since (q1) ((q1).alloc (.cells #[.int .i64 t.kd, .int .i64 t.lr, .int .i64 t.lo, .int .i64 t.hi] 44))) := al2
            refine hK.out _ _ (HKC.out _ c2) (fun hHeld2 => ?_)
            clear hK K hHeld1
            try simp only [Act.put, List.setIfInBounds_toArray, List.set_cons_zero, List.set_cons_succ]
            refine take_run 8 rfl (by kernel_rfl) (by rfl) (fun K hK => ?_)
            go_simp
            try rw [show ((q : Int) + (m : Int)).toNat - q = m from by omega]
            try rw [show ((q : Int) + (m : Int)).toNat = q + m from by omega]
            refine (hl (some ⟨b, off, none⟩) q ac _ hlo (HT1.out.since c2) (by omega) (by exact hql.out) (by omega) HINL.out).mono ?_
            rintro en q3 ⟨v3, rfl, ho3, hs3⟩
            have c3 := Since.trans c2 hs3
            have hb3 := ho3.2.lt
            have z3 := hs3.size
            have HO3 := Lib.hid ho3
            obtain ⟨xo, xn, xc, hxN, rfl⟩ := ho3.lenN
            have HB3 := Lib.hid hb3
            clear ho3 hb3
            have Ru2 := Lib.hid (Ru1.out.since hs3)
            have LL3 := Lib.hid (LT2.out.since hs3)
            refine hK.out _ _ (HKC.out _ c3) (fun hHeld3 => ?_)
            clear hK K hHeld2
            try simp only [Act.put, List.setIfInBounds_toArray, List.set_cons_zero, List.set_cons_succ]
            refine take_run 9 rfl (by kernel_rfl) (by rfl) (fun K hK => ?_)
            refine wp_append_toks (o := ⟨some 42, _, _, _, _, _⟩) (.tmp 37) (.tmp 41) rfl (w2.drew.heap.size) _ (r.rev.post) rfl Ru2.out xo xn xc rfl (l.rev.post) HO3.out.at (by simp only [List.length_append, post_len, rev_len, List.length_cons, List.length_nil]; have := HQ.out; have := HMM.out; simp only [post_len] at *; omega) (by first | omega | (simp; omega)) ?_
            intro v4 w4 ho4 hg4 hn4
            have c4 : Since w2 w4 := Since.grown c3 hg4 (fun g hg => by have := HB1.out g hg; first | omega | (simp at *; omega))
            have z4 := hg4.size
            have HO4 := Lib.hid ho4
            clear ho4
            have LL4 := Lib.hid (LL3.out.grwK hg4 (fun e => by have := HB1.out _ e.symm; first | omega | (simp at *; omega)))
            have HN4 : Hid (∀ g, v4.ownBlock = some g → w2.drew.heap.size ≤ g ∧ g < w4.heap.size) := HO4.out.2.lt
            clear hg4 hn4
            refine hK.out _ _ (HKC.out _ c4) (fun hHeld4 => ?_)
            clear hK K hHeld3
            try simp only [Act.put, List.setIfInBounds_toArray, List.set_cons_zero, List.set_cons_succ]
            refine take_run 12 rfl (by kernel_rfl) (by rfl) (fun K hK => ?_)
            refine wp_append_toks (o := ⟨some 45, _, _, _, _, _⟩) (.tmp 42) (.tmp 44) rfl (w2.drew.heap.size) _ (r.rev.post ++ l.rev.post) rfl HO4.out _ _ _ rfl ([t]) (toks_blk LL4.out HTI.out) (by simp only [List.length_append, post_len, rev_len, List.length_cons, List.length_nil]; have := HQ.out; have := HMM.out; simp only [post_len] at *; omega) (by first | omega | (simp; omega)) ?_
            intro v5 w5 ho5 hg5 hn5
            have c5 : Since w2 w5 := Since.grown c4 hg5 (fun g hg => by have := HN4.out g hg; first | omega | (simp at *; omega))
            have z5 := hg5.size
            have HO5 := Lib.hid ho5
            clear ho5
            clear hg5 hn5
            refine hK.out _ _ (HKC.out _ c5) (fun hHeld5 => ?_)
            clear hK K hHeld4
            try simp only [Act.put, List.setIfInBounds_toArray, List.set_cons_zero, List.set_cons_succ]
            refine take_yes 13 (some 2) (v := ?_) rfl (by kernel_rfl) (by kernel_rfl) (by kernel_rfl) (by kernel_rfl) (fun _ _ _ h => h) (by rfl) (by assumption) ?_ ?_
            rotate_left
            · (intro w' hSw; (try dsimp only at hSw); go_simp; try with_reducible rfl)
            try simp only [Act.put, List.setIfInBounds_toArray, List.set_cons_zero, List.set_cons_succ]
            refine wpAnyH_done (by kernel_rfl) ?_ _
            clear hHeld5
            go_wp2
            go_ret
            exact ⟨_, rfl, by rw [HREV.out]; exact HO5.out.mono (by have := hyw2.size; first | omega | (simp; omega)), hyw2.trans c5⟩
        · skip
          go_simp
          have al1 : Since (w2.drew) ((w2.drew).alloc (.cells #[.int .i64 t.kd, .int .i64 t.lr, .int .i64 t.lo, .int .i64 t.hi] 44)) := (Since.refl _).alloc _
          have c1 := Since.trans (Since.refl w2).drew al1
          have z1 := al1.size
          have ze1 : ((w2.drew).alloc (.cells #[.int .i64 t.kd, .int .i64 t.lr, .int .i64 t.lo, .int .i64 t.hi] 44)).heap.size = w2.heap.size + 1 := by simp
          have LT1 : Hid (Blk ((w2.drew).alloc (.cells #[.int .i64 t.kd, .int .i64 t.lr, .int .i64 t.lo, .int .i64 t.hi] 44)) (w2.heap.size) 44 #[.int .i64 t.kd, .int .i64 t.lr, .int .i64 t.lo, .int .i64 t.hi]) := Blk.new (by simp) _ _
          have HAL : Hid (Since (w2.drew) ((w2.drew).alloc (.cells #[.int .i64 t.kd, .int .i64 t.lr, .int .i64 t.lo, .int .i64 t.hi] 44))) := al1
          refine hK.out _ _ (HKC.out _ c1) (fun hHeld1 => ?_)
          clear hK K hHeld
          try simp only [Act.put, List.setIfInBounds_toArray, List.set_cons_zero, List.set_cons_succ]
          refine take_run 4 rfl (by kernel_rfl) (by rfl) (fun K hK => ?_)
          go_simp
          try rw [show ((q : Int) + (m : Int)).toNat - q = m from by omega]
          try rw [show ((q : Int) + (m : Int)).toNat = q + m from by omega]
          refine (hr (some ⟨b, off + q * 4, none⟩) m (ac - q) _ hro (HT2.out.since c1) (by omega) (by exact hmr.out) (by omega) HINR.out).mono ?_
          rintro en q2 ⟨v2, rfl, ho2, hs2⟩
          have c2 := Since.trans c1 hs2
          have hb2 := ho2.2.lt
          have z2 := hs2.size
          have HO2 := Lib.hid ho2
          obtain ⟨uo, un, uc, huN, rfl⟩ := ho2.lenN
          have HB2 := Lib.hid hb2
          clear ho2 hb2
          have LL1 := Lib.hid (LT1.out.since hs2)
          refine hK.out _ _ (HKC.out _ c2) (fun hHeld2 => ?_)
          clear hK K hHeld1
          try simp only [Act.put, List.setIfInBounds_toArray, List.set_cons_zero, List.set_cons_succ]
          refine take_run 8 rfl (by kernel_rfl) (by rfl) (fun K hK => ?_)
          go_simp
          try rw [show ((q : Int) + (m : Int)).toNat - q = m from by omega]
          try rw [show ((q : Int) + (m : Int)).toNat = q + m from by omega]
          refine (hl (some ⟨b, off, none⟩) q ac _ hlo (HT1.out.since c2) (by omega) (by exact hql.out) (by omega) HINL.out).mono ?_
          rintro en q3 ⟨v3, rfl, ho3, hs3⟩
          have c3 := Since.trans c2 hs3
          have hb3 := ho3.2.lt
          have z3 := hs3.size
          have HO3 := Lib.hid ho3
          obtain ⟨xo, xn, xc, hxN, rfl⟩ := ho3.lenN
          have HB3 := Lib.hid hb3
          clear ho3 hb3
          have Ru2 := Lib.hid (HO2.out.since hs3)
          have LL3 := Lib.hid (LL1.out.since hs3)
          refine hK.out _ _ (HKC.out _ c3) (fun hHeld3 => ?_)
          clear hK K hHeld2
          try simp only [Act.put, List.setIfInBounds_toArray, List.set_cons_zero, List.set_cons_succ]
          refine take_run 9 rfl (by kernel_rfl) (by rfl) (fun K hK => ?_)
          refine wp_append_toks (o := ⟨some 42, _, _, _, _, _⟩) (.tmp 37) (.tmp 41) rfl ((w2.drew.alloc (.cells #[.int .i64 t.kd, .int .i64 t.lr, .int .i64 t.lo, .int .i64 t.hi] 44)).heap.size) _ (r.rev.post) rfl Ru2.out xo xn xc rfl (l.rev.post) HO3.out.at (by simp only [List.length_append, post_len, rev_len, List.length_cons, List.length_nil]; have := HQ.out; have := HMM.out; simp only [post_len] at *; omega) (by first | omega | (simp; omega)) ?_
          intro v4 w4 ho4 hg4 hn4
          have c4 : Since w2 w4 := Since.grown c3 hg4 (fun g hg => by have := HB2.out g hg; first | omega | (simp at *; omega))
          have z4 := hg4.size
          have HO4 := Lib.hid ho4
          clear ho4
          have LL4 := Lib.hid (LL3.out.grwK hg4 (fun e => by have := HB2.out _ e.symm; first | omega | (simp at *; omega)))
          have HN4 : Hid (∀ g, v4.ownBlock = some g → (w2.drew.alloc (.cells #[.int .i64 t.kd, .int .i64 t.lr, .int .i64 t.lo, .int .i64 t.hi] 44)).heap.size ≤ g ∧ g < w4.heap.size) := HO4.out.2.lt
          clear hg4 hn4
          refine hK.out _ _ (HKC.out _ c4) (fun hHeld4 => ?_)
          clear hK K hHeld3
          try simp only [Act.put, List.setIfInBounds_toArray, List.set_cons_zero, List.set_cons_succ]
          refine take_run 12 rfl (by kernel_rfl) (by rfl) (fun K hK => ?_)
          refine wp_append_toks (o := ⟨some 45, _, _, _, _, _⟩) (.tmp 42) (.tmp 44) rfl ((w2.drew.alloc (.cells #[.int .i64 t.kd, .int .i64 t.lr, .int .i64 t.lo, .int .i64 t.hi] 44)).heap.size) _ (r.rev.post ++ l.rev.post) rfl HO4.out _ _ _ rfl ([t]) (toks_blk LL4.out HTI.out) (by simp only [List.length_append, post_len, rev_len, List.length_cons, List.length_nil]; have := HQ.out; have := HMM.out; simp only [post_len] at *; omega) (by first | omega | (simp; omega)) ?_
          intro v5 w5 ho5 hg5 hn5
          have c5 : Since w2 w5 := Since.grown c4 hg5 (fun g hg => by have := HN4.out g hg; first | omega | (simp at *; omega))
          have z5 := hg5.size
          have HO5 := Lib.hid ho5
          clear ho5
          clear hg5 hn5
          refine hK.out _ _ (HKC.out _ c5) (fun hHeld5 => ?_)
          clear hK K hHeld4
          try simp only [Act.put, List.setIfInBounds_toArray, List.set_cons_zero, List.set_cons_succ]
          refine take_yes 13 (some 2) (v := ?_) rfl (by kernel_rfl) (by kernel_rfl) (by kernel_rfl) (by kernel_rfl) (fun _ _ _ h => h) (by rfl) (by assumption) ?_ ?_
          rotate_left
          · (intro w' hSw; (try dsimp only at hSw); go_simp; try with_reducible rfl)
          try simp only [Act.put, List.setIfInBounds_toArray, List.set_cons_zero, List.set_cons_succ]
          refine wpAnyH_done (by kernel_rfl) ?_ _
          clear hHeld5
          go_wp2
          go_ret
          exact ⟨_, rfl, by rw [HREV.out]; exact HO5.out.mono (by have := hyw2.size; first | omega | (simp; omega)), hyw2.trans c5⟩
      · have e4 : (t.kd == 4) = false := by simp; omega
        have HREV : Hid ((Tr.node t l r).rev.post = l.rev.post ++ r.rev.post ++ [t]) := by unfold Hid; simp only [Tr.rev]; rw [if_neg h4, HTN.out]; rfl
        clear h4
        go_upto_region 10 with fail
        clear d0 d1 d2 d3
        have HKC : Hid (∀ w', Since w2 w' → w'.cell? ⟨w.heap.size, 0, none⟩ = some (.int .i64 t.kd) ∧ w'.cell? ⟨w.heap.size, 1, none⟩ = some (.int .i64 t.lr) ∧ w'.cell? ⟨w.heap.size, 2, none⟩ = some (.int .i64 t.lo) ∧ w'.cell? ⟨w.heap.size, 3, none⟩ = some (.int .i64 t.hi)) := by
          intro w' hs
          obtain ⟨x0, x1, x2, x3, _⟩ := (BT1.out.since hs).four
          exact ⟨x0, x1, x2, x3⟩
        refine wp_region_held_drew (S := (fun w' => w'.cell? ⟨w.heap.size, 0, none⟩ = some (.int .i64 t.kd) ∧ w'.cell? ⟨w.heap.size, 1, none⟩ = some (.int .i64 t.lr) ∧ w'.cell? ⟨w.heap.size, 2, none⟩ = some (.int .i64 t.lo) ∧ w'.cell? ⟨w.heap.size, 3, none⟩ = some (.int .i64 t.hi))) (by kernel_rfl) (HKC.out _ (Since.refl _).drew) (fun hHeld => ?_)
        refine take_yes 0 (some 46) (v := ?_) rfl (by kernel_rfl) (by kernel_rfl) (by kernel_rfl) (by kernel_rfl) (fun _ _ _ h => h) (by rfl) (by assumption) ?_ ?_
        rotate_left
        · (intro w' hSw; (try dsimp only at hSw); go_simp; try with_reducible rfl)
        try simp only [Act.put, List.setIfInBounds_toArray, List.set_cons_zero, List.set_cons_succ]
        refine take_yes 1 (some 47) (v := ?_) rfl (by kernel_rfl) (by kernel_rfl) (by kernel_rfl) (by kernel_rfl) (fun _ _ _ h => h) (by rfl) (by assumption) ?_ ?_
        rotate_left
        · (intro w' hSw; (try dsimp only at hSw); go_simp; try with_reducible rfl)
        try simp only [Act.put, List.setIfInBounds_toArray, List.set_cons_zero, List.set_cons_succ]
        refine take_yes 2 (some 48) (v := ?_) rfl (by kernel_rfl) (by kernel_rfl) (by kernel_rfl) (by kernel_rfl) (fun _ _ _ h => h) (by rfl) (by assumption) ?_ ?_
        rotate_left
        · (intro w' hSw; (try dsimp only at hSw); go_simp; try with_reducible rfl)
        try simp only [Act.put, List.setIfInBounds_toArray, List.set_cons_zero, List.set_cons_succ]
        refine take_yes 4 (some 50) (v := ?_) rfl (by kernel_rfl) (by kernel_rfl) (by kernel_rfl) (by kernel_rfl) (fun _ _ _ h => h) (by rfl) (by assumption) ?_ ?_
        rotate_left
        · (intro w' hSw; (try dsimp only at hSw); go_simp; try with_reducible rfl)
        try simp only [Act.put, List.setIfInBounds_toArray, List.set_cons_zero, List.set_cons_succ]
        refine take_yes 5 (some 51) (v := ?_) rfl (by kernel_rfl) (by kernel_rfl) (by kernel_rfl) (by kernel_rfl) (fun _ _ _ h => h) (by rfl) (by assumption) ?_ ?_
        rotate_left
        · (intro w' hSw; (try dsimp only at hSw); go_simp; try with_reducible rfl)
        try simp only [Act.put, List.setIfInBounds_toArray, List.set_cons_zero, List.set_cons_succ]
        refine take_yes 6 (some 52) (v := ?_) rfl (by kernel_rfl) (by kernel_rfl) (by kernel_rfl) (by kernel_rfl) (fun _ _ _ h => h) (by rfl) (by assumption) ?_ ?_
        rotate_left
        · (intro w' hSw; (try dsimp only at hSw); go_simp; try with_reducible rfl)
        try simp only [Act.put, List.setIfInBounds_toArray, List.set_cons_zero, List.set_cons_succ]
        refine take_yes 7 (some 53) (v := ?_) rfl (by kernel_rfl) (by kernel_rfl) (by kernel_rfl) (by kernel_rfl) (fun _ _ _ h => h) (by rfl) (by assumption) ?_ ?_
        rotate_left
        · (intro w' hSw; (try dsimp only at hSw); go_simp; try with_reducible rfl)
        try simp only [Act.put, List.setIfInBounds_toArray, List.set_cons_zero, List.set_cons_succ]
        refine take_yes 10 (some 56) (v := ?_) rfl (by kernel_rfl) (by kernel_rfl) (by kernel_rfl) (by kernel_rfl) (fun _ _ _ h => h) (by rfl) (by assumption) ?_ ?_
        rotate_left
        · (intro w' hSw; (try dsimp only at hSw); go_simp; try with_reducible rfl)
        try simp only [Act.put, List.setIfInBounds_toArray, List.set_cons_zero, List.set_cons_succ]
        refine take_two 3 11 rfl rfl (by kernel_rfl) (by rfl) (by rfl) (fun K hK => ?_) (fun K hK => ?_)
        · skip
          go_simp
          try rw [show ((q : Int) + (m : Int)).toNat - q = m from by omega]
          try rw [show ((q : Int) + (m : Int)).toNat = q + m from by omega]
          refine (hl (some ⟨b, off, none⟩) q ac _ hlo (HT1.out.since (Since.refl w2).drew) (by omega) (by exact hql.out) (by omega) HINL.out).mono ?_
          rintro en q1 ⟨v1, rfl, ho1, hs1⟩
          have c1 := Since.trans (Since.refl w2).drew hs1
          have hb1 := ho1.2.lt
          have z1 := hs1.size
          have HO1 := Lib.hid ho1
          obtain ⟨uo, un, uc, huN, rfl⟩ := ho1.lenN
          have HB1 := Lib.hid hb1
          clear ho1 hb1
          refine hK.out _ _ (HKC.out _ c1) (fun hHeld1 => ?_)
          clear hK K hHeld
          try simp only [Act.put, List.setIfInBounds_toArray, List.set_cons_zero, List.set_cons_succ]
          refine take_two 8 11 rfl rfl (by kernel_rfl) (by rfl) (by rfl) (fun K hK => ?_) (fun K hK => ?_)
          · skip
            go_simp
            try rw [show ((q : Int) + (m : Int)).toNat - q = m from by omega]
            try rw [show ((q : Int) + (m : Int)).toNat = q + m from by omega]
            refine (hr (some ⟨b, off + q * 4, none⟩) m (ac - q) _ hro (HT2.out.since c1) (by omega) (by exact hmr.out) (by omega) HINR.out).mono ?_
            rintro en q2 ⟨v2, rfl, ho2, hs2⟩
            have c2 := Since.trans c1 hs2
            have hb2 := ho2.2.lt
            have z2 := hs2.size
            have HO2 := Lib.hid ho2
            obtain ⟨xo, xn, xc, hxN, rfl⟩ := ho2.lenN
            have HB2 := Lib.hid hb2
            clear ho2 hb2
            have Ru1 := Lib.hid (HO1.out.since hs2)
            refine hK.out _ _ (HKC.out _ c2) (fun hHeld2 => ?_)
            clear hK K hHeld1
            try simp only [Act.put, List.setIfInBounds_toArray, List.set_cons_zero, List.set_cons_succ]
            refine take_two 9 11 rfl rfl (by kernel_rfl) (by rfl) (by rfl) (fun K hK => ?_) (fun K hK => ?_)
            · skip
              refine wp_append_toks (o := ⟨some 55, _, _, _, _, _⟩) (.tmp 49) (.tmp 54) rfl (w2.drew.heap.size) _ (l.rev.post) rfl Ru1.out xo xn xc rfl (r.rev.post) HO2.out.at (by simp only [List.length_append, post_len, rev_len, List.length_cons, List.length_nil]; have := HQ.out; have := HMM.out; simp only [post_len] at *; omega) (by first | omega | (simp; omega)) ?_
              intro v3 w3 ho3 hg3 hn3
              have c3 : Since w2 w3 := Since.grown c2 hg3 (fun g hg => by have := HB1.out g hg; first | omega | (simp at *; omega))
              have z3 := hg3.size
              have HO3 := Lib.hid ho3
              clear ho3
              have HN3 : Hid (∀ g, v3.ownBlock = some g → w2.drew.heap.size ≤ g ∧ g < w3.heap.size) := HO3.out.2.lt
              clear hg3 hn3
              refine hK.out _ _ (HKC.out _ c3) (fun hHeld3 => ?_)
              clear hK K hHeld2
              try simp only [Act.put, List.setIfInBounds_toArray, List.set_cons_zero, List.set_cons_succ]
              refine take_run 11 rfl (by kernel_rfl) (by rfl) (fun K hK => ?_)
              go_simp
              have al4 : Since (w3) ((w3).alloc (.cells #[.int .i64 t.kd, .int .i64 t.lr, .int .i64 t.lo, .int .i64 t.hi] 44)) := (Since.refl _).alloc _
              have c4 := Since.trans c3 al4
              have z4 := al4.size
              have ze4 : ((w3).alloc (.cells #[.int .i64 t.kd, .int .i64 t.lr, .int .i64 t.lo, .int .i64 t.hi] 44)).heap.size = w3.heap.size + 1 := by simp
              have LT4 : Hid (Blk ((w3).alloc (.cells #[.int .i64 t.kd, .int .i64 t.lr, .int .i64 t.lo, .int .i64 t.hi] 44)) (w3.heap.size) 44 #[.int .i64 t.kd, .int .i64 t.lr, .int .i64 t.lo, .int .i64 t.hi]) := Blk.new (by simp) _ _
              have RA2 := Lib.hid (HO3.out.since al4)
              have HAL : Hid (Since (w3) ((w3).alloc (.cells #[.int .i64 t.kd, .int .i64 t.lr, .int .i64 t.lo, .int .i64 t.hi] 44))) := al4
              refine hK.out _ _ (HKC.out _ c4) (fun hHeld4 => ?_)
              clear hK K hHeld3
              try simp only [Act.put, List.setIfInBounds_toArray, List.set_cons_zero, List.set_cons_succ]
              refine take_run 12 rfl (by kernel_rfl) (by rfl) (fun K hK => ?_)
              refine wp_append_toks (o := ⟨some 58, _, _, _, _, _⟩) (.tmp 55) (.tmp 57) rfl (w2.drew.heap.size) _ (l.rev.post ++ r.rev.post) rfl RA2.out _ _ _ rfl ([t]) (toks_blk LT4.out HTI.out) (by simp only [List.length_append, post_len, rev_len, List.length_cons, List.length_nil]; have := HQ.out; have := HMM.out; simp only [post_len] at *; omega) (by first | omega | (simp; omega)) ?_
              intro v5 w5 ho5 hg5 hn5
              have c5 : Since w2 w5 := Since.grown c4 hg5 (fun g hg => by have := HN3.out g hg; first | omega | (simp at *; omega))
              have z5 := hg5.size
              have HO5 := Lib.hid ho5
              clear ho5
              clear hg5 hn5
              refine hK.out _ _ (HKC.out _ c5) (fun hHeld5 => ?_)
              clear hK K hHeld4
              try simp only [Act.put, List.setIfInBounds_toArray, List.set_cons_zero, List.set_cons_succ]
              refine take_yes 13 (some 2) (v := ?_) rfl (by kernel_rfl) (by kernel_rfl) (by kernel_rfl) (by kernel_rfl) (fun _ _ _ h => h) (by rfl) (by assumption) ?_ ?_
              rotate_left
              · (intro w' hSw; (try dsimp only at hSw); go_simp; try with_reducible rfl)
              try simp only [Act.put, List.setIfInBounds_toArray, List.set_cons_zero, List.set_cons_succ]
              refine wpAnyH_done (by kernel_rfl) ?_ _
              clear hHeld5
              go_wp2
              go_ret
              exact ⟨_, rfl, by rw [HREV.out]; exact HO5.out.mono (by have := hyw2.size; first | omega | (simp; omega)), hyw2.trans c5⟩
            · skip
              go_simp
              have al3 : Since (q2) ((q2).alloc (.cells #[.int .i64 t.kd, .int .i64 t.lr, .int .i64 t.lo, .int .i64 t.hi] 44)) := (Since.refl _).alloc _
              have c3 := Since.trans c2 al3
              have z3 := al3.size
              have ze3 : ((q2).alloc (.cells #[.int .i64 t.kd, .int .i64 t.lr, .int .i64 t.lo, .int .i64 t.hi] 44)).heap.size = q2.heap.size + 1 := by simp
              have LT3 : Hid (Blk ((q2).alloc (.cells #[.int .i64 t.kd, .int .i64 t.lr, .int .i64 t.lo, .int .i64 t.hi] 44)) (q2.heap.size) 44 #[.int .i64 t.kd, .int .i64 t.lr, .int .i64 t.lo, .int .i64 t.hi]) := Blk.new (by simp) _ _
              have Ru2 := Lib.hid (Ru1.out.since al3)
              have Rx3 := Lib.hid (HO2.out.since al3)
              have HAL : Hid (Since (q2) ((q2).alloc (.cells #[.int .i64 t.kd, .int .i64 t.lr, .int .i64 t.lo, .int .i64 t.hi] 44))) := al3
              refine hK.out _ _ (HKC.out _ c3) (fun hHeld3 => ?_)
              clear hK K hHeld2
              try simp only [Act.put, List.setIfInBounds_toArray, List.set_cons_zero, List.set_cons_succ]
              refine take_run 9 rfl (by kernel_rfl) (by rfl) (fun K hK => ?_)
              refine wp_append_toks (o := ⟨some 55, _, _, _, _, _⟩) (.tmp 49) (.tmp 54) rfl (w2.drew.heap.size) _ (l.rev.post) rfl Ru2.out xo xn xc rfl (r.rev.post) Rx3.out.at (by simp only [List.length_append, post_len, rev_len, List.length_cons, List.length_nil]; have := HQ.out; have := HMM.out; simp only [post_len] at *; omega) (by first | omega | (simp; omega)) ?_
              intro v4 w4 ho4 hg4 hn4
              have c4 : Since w2 w4 := Since.grown c3 hg4 (fun g hg => by have := HB1.out g hg; first | omega | (simp at *; omega))
              have z4 := hg4.size
              have HO4 := Lib.hid ho4
              clear ho4
              have LL4 := Lib.hid (LT3.out.grwK hg4 (fun e => by have := HB1.out _ e.symm; first | omega | (simp at *; omega)))
              have HN4 : Hid (∀ g, v4.ownBlock = some g → w2.drew.heap.size ≤ g ∧ g < w4.heap.size) := HO4.out.2.lt
              clear hg4 hn4
              refine hK.out _ _ (HKC.out _ c4) (fun hHeld4 => ?_)
              clear hK K hHeld3
              try simp only [Act.put, List.setIfInBounds_toArray, List.set_cons_zero, List.set_cons_succ]
              refine take_run 12 rfl (by kernel_rfl) (by rfl) (fun K hK => ?_)
              refine wp_append_toks (o := ⟨some 58, _, _, _, _, _⟩) (.tmp 55) (.tmp 57) rfl (w2.drew.heap.size) _ (l.rev.post ++ r.rev.post) rfl HO4.out _ _ _ rfl ([t]) (toks_blk LL4.out HTI.out) (by simp only [List.length_append, post_len, rev_len, List.length_cons, List.length_nil]; have := HQ.out; have := HMM.out; simp only [post_len] at *; omega) (by first | omega | (simp; omega)) ?_
              intro v5 w5 ho5 hg5 hn5
              have c5 : Since w2 w5 := Since.grown c4 hg5 (fun g hg => by have := HN4.out g hg; first | omega | (simp at *; omega))
              have z5 := hg5.size
              have HO5 := Lib.hid ho5
              clear ho5
              clear hg5 hn5
              refine hK.out _ _ (HKC.out _ c5) (fun hHeld5 => ?_)
              clear hK K hHeld4
              try simp only [Act.put, List.setIfInBounds_toArray, List.set_cons_zero, List.set_cons_succ]
              refine take_yes 13 (some 2) (v := ?_) rfl (by kernel_rfl) (by kernel_rfl) (by kernel_rfl) (by kernel_rfl) (fun _ _ _ h => h) (by rfl) (by assumption) ?_ ?_
              rotate_left
              · (intro w' hSw; (try dsimp only at hSw); go_simp; try with_reducible rfl)
              try simp only [Act.put, List.setIfInBounds_toArray, List.set_cons_zero, List.set_cons_succ]
              refine wpAnyH_done (by kernel_rfl) ?_ _
              clear hHeld5
              go_wp2
              go_ret
              exact ⟨_, rfl, by rw [HREV.out]; exact HO5.out.mono (by have := hyw2.size; first | omega | (simp; omega)), hyw2.trans c5⟩
          · skip
            go_simp
            have al2 : Since (q1) ((q1).alloc (.cells #[.int .i64 t.kd, .int .i64 t.lr, .int .i64 t.lo, .int .i64 t.hi] 44)) := (Since.refl _).alloc _
            have c2 := Since.trans c1 al2
            have z2 := al2.size
            have ze2 : ((q1).alloc (.cells #[.int .i64 t.kd, .int .i64 t.lr, .int .i64 t.lo, .int .i64 t.hi] 44)).heap.size = q1.heap.size + 1 := by simp
            have LT2 : Hid (Blk ((q1).alloc (.cells #[.int .i64 t.kd, .int .i64 t.lr, .int .i64 t.lo, .int .i64 t.hi] 44)) (q1.heap.size) 44 #[.int .i64 t.kd, .int .i64 t.lr, .int .i64 t.lo, .int .i64 t.hi]) := Blk.new (by simp) _ _
            have Ru1 := Lib.hid (HO1.out.since al2)
            have HAL : Hid (Since (q1) ((q1).alloc (.cells #[.int .i64 t.kd, .int .i64 t.lr, .int .i64 t.lo, .int .i64 t.hi] 44))) := al2
            refine hK.out _ _ (HKC.out _ c2) (fun hHeld2 => ?_)
            clear hK K hHeld1
            try simp only [Act.put, List.setIfInBounds_toArray, List.set_cons_zero, List.set_cons_succ]
            refine take_run 8 rfl (by kernel_rfl) (by rfl) (fun K hK => ?_)
            go_simp
            try rw [show ((q : Int) + (m : Int)).toNat - q = m from by omega]
            try rw [show ((q : Int) + (m : Int)).toNat = q + m from by omega]
            refine (hr (some ⟨b, off + q * 4, none⟩) m (ac - q) _ hro (HT2.out.since c2) (by omega) (by exact hmr.out) (by omega) HINR.out).mono ?_
            rintro en q3 ⟨v3, rfl, ho3, hs3⟩
            have c3 := Since.trans c2 hs3
            have hb3 := ho3.2.lt
            have z3 := hs3.size
            have HO3 := Lib.hid ho3
            obtain ⟨xo, xn, xc, hxN, rfl⟩ := ho3.lenN
            have HB3 := Lib.hid hb3
            clear ho3 hb3
            have Ru2 := Lib.hid (Ru1.out.since hs3)
            have LL3 := Lib.hid (LT2.out.since hs3)
            refine hK.out _ _ (HKC.out _ c3) (fun hHeld3 => ?_)
            clear hK K hHeld2
            try simp only [Act.put, List.setIfInBounds_toArray, List.set_cons_zero, List.set_cons_succ]
            refine take_run 9 rfl (by kernel_rfl) (by rfl) (fun K hK => ?_)
            refine wp_append_toks (o := ⟨some 55, _, _, _, _, _⟩) (.tmp 49) (.tmp 54) rfl (w2.drew.heap.size) _ (l.rev.post) rfl Ru2.out xo xn xc rfl (r.rev.post) HO3.out.at (by simp only [List.length_append, post_len, rev_len, List.length_cons, List.length_nil]; have := HQ.out; have := HMM.out; simp only [post_len] at *; omega) (by first | omega | (simp; omega)) ?_
            intro v4 w4 ho4 hg4 hn4
            have c4 : Since w2 w4 := Since.grown c3 hg4 (fun g hg => by have := HB1.out g hg; first | omega | (simp at *; omega))
            have z4 := hg4.size
            have HO4 := Lib.hid ho4
            clear ho4
            have LL4 := Lib.hid (LL3.out.grwK hg4 (fun e => by have := HB1.out _ e.symm; first | omega | (simp at *; omega)))
            have HN4 : Hid (∀ g, v4.ownBlock = some g → w2.drew.heap.size ≤ g ∧ g < w4.heap.size) := HO4.out.2.lt
            clear hg4 hn4
            refine hK.out _ _ (HKC.out _ c4) (fun hHeld4 => ?_)
            clear hK K hHeld3
            try simp only [Act.put, List.setIfInBounds_toArray, List.set_cons_zero, List.set_cons_succ]
            refine take_run 12 rfl (by kernel_rfl) (by rfl) (fun K hK => ?_)
            refine wp_append_toks (o := ⟨some 58, _, _, _, _, _⟩) (.tmp 55) (.tmp 57) rfl (w2.drew.heap.size) _ (l.rev.post ++ r.rev.post) rfl HO4.out _ _ _ rfl ([t]) (toks_blk LL4.out HTI.out) (by simp only [List.length_append, post_len, rev_len, List.length_cons, List.length_nil]; have := HQ.out; have := HMM.out; simp only [post_len] at *; omega) (by first | omega | (simp; omega)) ?_
            intro v5 w5 ho5 hg5 hn5
            have c5 : Since w2 w5 := Since.grown c4 hg5 (fun g hg => by have := HN4.out g hg; first | omega | (simp at *; omega))
            have z5 := hg5.size
            have HO5 := Lib.hid ho5
            clear ho5
            clear hg5 hn5
            refine hK.out _ _ (HKC.out _ c5) (fun hHeld5 => ?_)
            clear hK K hHeld4
            try simp only [Act.put, List.setIfInBounds_toArray, List.set_cons_zero, List.set_cons_succ]
            refine take_yes 13 (some 2) (v := ?_) rfl (by kernel_rfl) (by kernel_rfl) (by kernel_rfl) (by kernel_rfl) (fun _ _ _ h => h) (by rfl) (by assumption) ?_ ?_
            rotate_left
            · (intro w' hSw; (try dsimp only at hSw); go_simp; try with_reducible rfl)
            try simp only [Act.put, List.setIfInBounds_toArray, List.set_cons_zero, List.set_cons_succ]
            refine wpAnyH_done (by kernel_rfl) ?_ _
            clear hHeld5
            go_wp2
            go_ret
            exact ⟨_, rfl, by rw [HREV.out]; exact HO5.out.mono (by have := hyw2.size; first | omega | (simp; omega)), hyw2.trans c5⟩
        · skip
          go_simp
          have al1 : Since (w2.drew) ((w2.drew).alloc (.cells #[.int .i64 t.kd, .int .i64 t.lr, .int .i64 t.lo, .int .i64 t.hi] 44)) := (Since.refl _).alloc _
          have c1 := Since.trans (Since.refl w2).drew al1
          have z1 := al1.size
          have ze1 : ((w2.drew).alloc (.cells #[.int .i64 t.kd, .int .i64 t.lr, .int .i64 t.lo, .int .i64 t.hi] 44)).heap.size = w2.heap.size + 1 := by simp
          have LT1 : Hid (Blk ((w2.drew).alloc (.cells #[.int .i64 t.kd, .int .i64 t.lr, .int .i64 t.lo, .int .i64 t.hi] 44)) (w2.heap.size) 44 #[.int .i64 t.kd, .int .i64 t.lr, .int .i64 t.lo, .int .i64 t.hi]) := Blk.new (by simp) _ _
          have HAL : Hid (Since (w2.drew) ((w2.drew).alloc (.cells #[.int .i64 t.kd, .int .i64 t.lr, .int .i64 t.lo, .int .i64 t.hi] 44))) := al1
          refine hK.out _ _ (HKC.out _ c1) (fun hHeld1 => ?_)
          clear hK K hHeld
          try simp only [Act.put, List.setIfInBounds_toArray, List.set_cons_zero, List.set_cons_succ]
          refine take_run 3 rfl (by kernel_rfl) (by rfl) (fun K hK => ?_)
          go_simp
          try rw [show ((q : Int) + (m : Int)).toNat - q = m from by omega]
          try rw [show ((q : Int) + (m : Int)).toNat = q + m from by omega]
          refine (hl (some ⟨b, off, none⟩) q ac _ hlo (HT1.out.since c1) (by omega) (by exact hql.out) (by omega) HINL.out).mono ?_
          rintro en q2 ⟨v2, rfl, ho2, hs2⟩
          have c2 := Since.trans c1 hs2
          have hb2 := ho2.2.lt
          have z2 := hs2.size
          have HO2 := Lib.hid ho2
          obtain ⟨uo, un, uc, huN, rfl⟩ := ho2.lenN
          have HB2 := Lib.hid hb2
          clear ho2 hb2
          have LL1 := Lib.hid (LT1.out.since hs2)
          refine hK.out _ _ (HKC.out _ c2) (fun hHeld2 => ?_)
          clear hK K hHeld1
          try simp only [Act.put, List.setIfInBounds_toArray, List.set_cons_zero, List.set_cons_succ]
          refine take_run 8 rfl (by kernel_rfl) (by rfl) (fun K hK => ?_)
          go_simp
          try rw [show ((q : Int) + (m : Int)).toNat - q = m from by omega]
          try rw [show ((q : Int) + (m : Int)).toNat = q + m from by omega]
          refine (hr (some ⟨b, off + q * 4, none⟩) m (ac - q) _ hro (HT2.out.since c2) (by omega) (by exact hmr.out) (by omega) HINR.out).mono ?_
          rintro en q3 ⟨v3, rfl, ho3, hs3⟩
          have c3 := Since.trans c2 hs3
          have hb3 := ho3.2.lt
          have z3 := hs3.size
          have HO3 := Lib.hid ho3
          obtain ⟨xo, xn, xc, hxN, rfl⟩ := ho3.lenN
          have HB3 := Lib.hid hb3
          clear ho3 hb3
          have Ru2 := Lib.hid (HO2.out.since hs3)
          have LL3 := Lib.hid (LL1.out.since hs3)
          refine hK.out _ _ (HKC.out _ c3) (fun hHeld3 => ?_)
          clear hK K hHeld2
          try simp only [Act.put, List.setIfInBounds_toArray, List.set_cons_zero, List.set_cons_succ]
          refine take_run 9 rfl (by kernel_rfl) (by rfl) (fun K hK => ?_)
          refine wp_append_toks (o := ⟨some 55, _, _, _, _, _⟩) (.tmp 49) (.tmp 54) rfl ((w2.drew.alloc (.cells #[.int .i64 t.kd, .int .i64 t.lr, .int .i64 t.lo, .int .i64 t.hi] 44)).heap.size) _ (l.rev.post) rfl Ru2.out xo xn xc rfl (r.rev.post) HO3.out.at (by simp only [List.length_append, post_len, rev_len, List.length_cons, List.length_nil]; have := HQ.out; have := HMM.out; simp only [post_len] at *; omega) (by first | omega | (simp; omega)) ?_
          intro v4 w4 ho4 hg4 hn4
          have c4 : Since w2 w4 := Since.grown c3 hg4 (fun g hg => by have := HB2.out g hg; first | omega | (simp at *; omega))
          have z4 := hg4.size
          have HO4 := Lib.hid ho4
          clear ho4
          have LL4 := Lib.hid (LL3.out.grwK hg4 (fun e => by have := HB2.out _ e.symm; first | omega | (simp at *; omega)))
          have HN4 : Hid (∀ g, v4.ownBlock = some g → (w2.drew.alloc (.cells #[.int .i64 t.kd, .int .i64 t.lr, .int .i64 t.lo, .int .i64 t.hi] 44)).heap.size ≤ g ∧ g < w4.heap.size) := HO4.out.2.lt
          clear hg4 hn4
          refine hK.out _ _ (HKC.out _ c4) (fun hHeld4 => ?_)
          clear hK K hHeld3
          try simp only [Act.put, List.setIfInBounds_toArray, List.set_cons_zero, List.set_cons_succ]
          refine take_run 12 rfl (by kernel_rfl) (by rfl) (fun K hK => ?_)
          refine wp_append_toks (o := ⟨some 58, _, _, _, _, _⟩) (.tmp 55) (.tmp 57) rfl ((w2.drew.alloc (.cells #[.int .i64 t.kd, .int .i64 t.lr, .int .i64 t.lo, .int .i64 t.hi] 44)).heap.size) _ (l.rev.post ++ r.rev.post) rfl HO4.out _ _ _ rfl ([t]) (toks_blk LL4.out HTI.out) (by simp only [List.length_append, post_len, rev_len, List.length_cons, List.length_nil]; have := HQ.out; have := HMM.out; simp only [post_len] at *; omega) (by first | omega | (simp; omega)) ?_
          intro v5 w5 ho5 hg5 hn5
          have c5 : Since w2 w5 := Since.grown c4 hg5 (fun g hg => by have := HN4.out g hg; first | omega | (simp at *; omega))
          have z5 := hg5.size
          have HO5 := Lib.hid ho5
          clear ho5
          clear hg5 hn5
          refine hK.out _ _ (HKC.out _ c5) (fun hHeld5 => ?_)
          clear hK K hHeld4
          try simp only [Act.put, List.setIfInBounds_toArray, List.set_cons_zero, List.set_cons_succ]
          refine take_yes 13 (some 2) (v := ?_) rfl (by kernel_rfl) (by kernel_rfl) (by kernel_rfl) (by kernel_rfl) (fun _ _ _ h => h) (by rfl) (by assumption) ?_ ?_
          rotate_left
          · (intro w' hSw; (try dsimp only at hSw); go_simp; try with_reducible rfl)
          try simp only [Act.put, List.setIfInBounds_toArray, List.set_cons_zero, List.set_cons_succ]
          refine wpAnyH_done (by kernel_rfl) ?_ _
          clear hHeld5
          go_wp2
          go_ret
          exact ⟨_, rfl, by rw [HREV.out]; exact HO5.out.mono (by have := hyw2.size; first | omega | (simp; omega)), hyw2.trans c5⟩
end Go.Proofs.YthnppgcmmabolaaDoor
