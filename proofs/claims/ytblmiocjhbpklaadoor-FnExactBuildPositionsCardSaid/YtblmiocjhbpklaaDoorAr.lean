/- Which tokens are tokens: the program's isToken, the model's l8Arity. -/
import Derived.Test.YtblmiocjhbpklaaDoorForm
import Derived.Test.YtblmiocjhbpklaaDoorTokL
namespace Go.Proofs.YtblmiocjhbpklaaDoor
set_option maxRecDepth 100000
open Go.ChangeShapes Go.WideShapes Go.ChangeAt Go.RowKit
set_option linter.unusedVariables false
set_option linter.unusedSimpArgs false

theorem eql_tok (a b : Tok) (w : World) : (binOp .eql 90 (kv a) (kv b)).run Tryd.prog w = .ok (.bool (decide (a = b))) w := by
  have u3 := Tryd.underlying3
  have a3 := Tryd.isAgg3
  have z3 := Tryd.sizeOf3
  have hS : Tryd.prog.underlying 90 = some (.struct (Tryd.prog.fieldsOf 90)) := by kernel_rfl
  have hp : Tryd.prog.stoodInHeld 90 = false := by kernel_rfl
  have hd : decide (a = b) = (a.kd == b.kd && a.lr == b.lr && a.lo == b.lo && a.hi == b.hi) := by
    rw [Bool.eq_iff_iff]; simp only [decide_eq_true_eq, Tok.eq_iff, Bool.and_eq_true, beq_iff_eq]
    constructor
    · intro h; exact ⟨⟨⟨h.1, h.2.1⟩, h.2.2.1⟩, h.2.2.2⟩
    · intro h; exact ⟨h.1.1.1, h.1.1.2, h.1.2, h.2⟩
  rw [hd]
  unfold kv
  rw [run_eql_struct, show (10000 : Nat) = 9999 + 1 from rfl, run_equalIn_agg w 9999 90 _ _ hS hp]
  simp only [Program.fieldsOf, Tryd.underlying90]
  go_simp
  by_cases h1 : a.kd = b.kd <;> by_cases h2 : a.lr = b.lr <;> by_cases h3 : a.lo = b.lo <;> by_cases h4 : a.hi = b.hi <;> simp [h1, h2, h3, h4]
theorem okT_flat (k lr lo hi : Int) (hk : k = 1 ∨ k = 2 ∨ k = 4 ∨ k = 5 ∨ k = 6) : okT ⟨k, lr, lo, hi⟩ = decide ((⟨k, lr, lo, hi⟩ : Tok) = ⟨k, 0, 0, 0⟩) := by
  rcases hk with rfl | rfl | rfl | rfl | rfl <;> (rw [Bool.eq_iff_iff]; simp [okT, Tok.eq_iff])
theorem okT_let (lr lo hi : Int) : okT ⟨3, lr, lo, hi⟩ = (inB lr 0 8 && decide ((⟨3, lr, lo, hi⟩ : Tok) = ⟨3, lr, 0, 0⟩)) := by
  rw [Bool.eq_iff_iff]; simp [okT, Tok.eq_iff]
theorem okT_rep (lr lo hi : Int) : okT ⟨7, lr, lo, hi⟩ = (decide (0 ≤ lo ∧ lo ≤ hi ∧ 1 ≤ hi ∧ hi ≤ 3) && decide ((⟨7, lr, lo, hi⟩ : Tok) = ⟨7, 0, lo, hi⟩)) := by
  rw [Bool.eq_iff_iff]
  simp only [okT, Tok.eq_iff, Bool.or_eq_true, Bool.and_eq_true, decide_eq_true_eq]
  constructor
  · intro h
    rcases h with (h | h) | h
    · omega
    · omega
    · exact ⟨by omega, by simp; omega⟩
  · intro h
    have h2 := h.2
    simp at h2
    exact .inr ⟨by simp, by omega⟩
theorem okT_other (k lr lo hi : Int) (hk : k ≠ 1 ∧ k ≠ 2 ∧ k ≠ 3 ∧ k ≠ 4 ∧ k ≠ 5 ∧ k ≠ 6 ∧ k ≠ 7) : okT ⟨k, lr, lo, hi⟩ = false := by
  rw [Bool.eq_false_iff]
  simp only [okT, ne_eq, Bool.or_eq_true, Bool.and_eq_true, decide_eq_true_eq]
  omega
set_option maxHeartbeats 2000000 in
set_option maxRecDepth 100000 in
theorem isToken_any (t : Tok) (w : World) : Calls Tryd.prog 102 #[kv t] w fun e w' => e = .returned (.bool (okT t)) ∧ Since w w' := by
  obtain ⟨kd, lr, lo, hi⟩ := t
  unfold kv
  dsimp only
  have hs : ∀ k, Since w (w.alloc (.cells #[.int .i64 k, .int .i64 lr, .int .i64 lo, .int .i64 hi] 90)) := fun k => (Since.refl w).alloc _
  by_cases hk : kd = 1 ∨ kd = 2 ∨ kd = 4 ∨ kd = 5 ∨ kd = 6
  · have HOK := Lib.hid (okT_flat kd lr lo hi hk)
    have HE : ∀ W : World, (binOp .eql 90 (.agg #[.int .i64 kd, .int .i64 lr, .int .i64 lo, .int .i64 hi]) (.agg #[.int .i64 kd, .int .i64 0, .int .i64 0, .int .i64 0])).run Tryd.prog W = .ok (.bool (okT ⟨kd, lr, lo, hi⟩)) W := fun W => by
      rw [HOK.out]; exact eql_tok ⟨kd, lr, lo, hi⟩ ⟨kd, 0, 0, 0⟩ W
    clear HOK
    generalize okT ⟨kd, lr, lo, hi⟩ = z at HE ⊢
    rcases hk with rfl | rfl | rfl | rfl | rfl
    all_goals
      have HS := Lib.hid hs
      clear hs
      go_enter Tryd.func102, Tryd.ntmps102
      go_wp2
      go_ret
      exact ⟨rfl, HS.out _⟩
  · by_cases h3 : kd = 3
    · subst h3
      clear hk
      rw [okT_let]
      have HE : ∀ W : World, (binOp .eql 90 (.agg #[.int .i64 3, .int .i64 lr, .int .i64 lo, .int .i64 hi]) (.agg #[.int .i64 3, .int .i64 lr, .int .i64 0, .int .i64 0])).run Tryd.prog W = .ok (.bool (decide ((⟨3, lr, lo, hi⟩ : Tok) = ⟨3, lr, 0, 0⟩))) W := fun W => eql_tok ⟨3, lr, lo, hi⟩ ⟨3, lr, 0, 0⟩ W
      generalize decide ((⟨3, lr, lo, hi⟩ : Tok) = ⟨3, lr, 0, 0⟩) = z at HE ⊢
      have hs1 := hs 3
      clear hs
      obtain ⟨q, hq⟩ : ∃ q, q = inB lr 0 8 := ⟨_, rfl⟩
      rw [← hq]
      have HQ := Lib.hid hq
      clear hq
      cases q
      all_goals
        go_enter Tryd.func102, Tryd.ntmps102
        go_wp2_with fail
        refine (isLetter_any lr _).mono ?_
        rintro e w1 ⟨rfl, rfl⟩
        rw [← HQ.out]
        go_wp2
        go_ret
        exact ⟨rfl, hs1⟩
    · by_cases h7 : kd = 7
      · subst h7
        clear hk h3
        rw [okT_rep]
        have HE : ∀ W : World, (binOp .eql 90 (.agg #[.int .i64 7, .int .i64 lr, .int .i64 lo, .int .i64 hi]) (.agg #[.int .i64 7, .int .i64 0, .int .i64 lo, .int .i64 hi])).run Tryd.prog W = .ok (.bool (decide ((⟨7, lr, lo, hi⟩ : Tok) = ⟨7, 0, lo, hi⟩))) W := fun W => eql_tok ⟨7, lr, lo, hi⟩ ⟨7, 0, lo, hi⟩ W
        generalize decide ((⟨7, lr, lo, hi⟩ : Tok) = ⟨7, 0, lo, hi⟩) = z at HE ⊢
        have hs1 := hs 7
        clear hs
        by_cases b1 : 0 ≤ lo
        · by_cases b2 : lo ≤ hi
          · by_cases b3 : 1 ≤ hi
            · by_cases b4 : hi ≤ 3
              · have HD := Lib.hid (show decide (0 ≤ lo ∧ lo ≤ hi ∧ 1 ≤ hi ∧ hi ≤ 3) = true from decide_eq_true ⟨b1, b2, b3, b4⟩)
                rw [HD.out]
                clear HD
                go_enter Tryd.func102, Tryd.ntmps102
                go_wp2
                go_ret
                exact ⟨rfl, hs1⟩
              · have HD := Lib.hid (show decide (0 ≤ lo ∧ lo ≤ hi ∧ 1 ≤ hi ∧ hi ≤ 3) = false from decide_eq_false (by omega))
                rw [HD.out]
                clear HD
                go_enter Tryd.func102, Tryd.ntmps102
                go_wp2
                go_ret
                exact ⟨rfl, hs1⟩
            · have HD := Lib.hid (show decide (0 ≤ lo ∧ lo ≤ hi ∧ 1 ≤ hi ∧ hi ≤ 3) = false from decide_eq_false (by omega))
              rw [HD.out]
              clear HD
              go_enter Tryd.func102, Tryd.ntmps102
              go_wp2
              go_ret
              exact ⟨rfl, hs1⟩
          · have HD := Lib.hid (show decide (0 ≤ lo ∧ lo ≤ hi ∧ 1 ≤ hi ∧ hi ≤ 3) = false from decide_eq_false (by omega))
            rw [HD.out]
            clear HD
            go_enter Tryd.func102, Tryd.ntmps102
            go_wp2
            go_ret
            exact ⟨rfl, hs1⟩
        · have HD := Lib.hid (show decide (0 ≤ lo ∧ lo ≤ hi ∧ 1 ≤ hi ∧ hi ≤ 3) = false from decide_eq_false (by omega))
          rw [HD.out]
          clear HD
          go_enter Tryd.func102, Tryd.ntmps102
          go_wp2
          go_ret
          exact ⟨rfl, hs1⟩
      · rw [okT_other kd lr lo hi (by omega)]
        have n1 : (kd == 1) = false := by simp; omega
        have n2 : (kd == 2) = false := by simp; omega
        have n3 : (kd == 3) = false := by simp; omega
        have n4 : (kd == 4) = false := by simp; omega
        have n5 : (kd == 5) = false := by simp; omega
        have n6 : (kd == 6) = false := by simp; omega
        have n7 : (kd == 7) = false := by simp; omega
        have hs1 := hs kd
        clear hs hk h3 h7
        go_enter Tryd.func102, Tryd.ntmps102
        go_wp2
        go_ret
        exact ⟨rfl, hs1⟩
theorem ari_ok {t : Tok} (h : okT t = true) {n : Nat} (hn : opN t = n) : ariT t = (n : Int) := by unfold ariT; rw [if_pos h, hn]
theorem ari_no {t : Tok} (h : okT t = false) : ariT t = -1 := by unfold ariT; rw [h]; rfl
set_option maxHeartbeats 4000000 in
set_option maxRecDepth 100000 in
theorem l8Arity_any (t : Tok) (w : World) : Calls Tryd.prog 121 #[kv t] w fun e w' => e = .returned (.int .i64 (ariT t)) ∧ Since w w' := by
  obtain ⟨kd, lr, lo, hi⟩ := t
  unfold kv
  dsimp only
  have hs : ∀ k, Since w (w.alloc (.cells #[.int .i64 k, .int .i64 lr, .int .i64 lo, .int .i64 hi] 90)) := fun k => (Since.refl w).alloc _
  by_cases c1 : kd = 1
  · subst c1
    have hs1 := hs 1
    clear hs
    by_cases d1 : lr = 0
    · by_cases d2 : lo = 0
      · by_cases d3 : hi = 0
        · subst d1 d2 d3
          rw [show ariT ⟨1, 0, 0, 0⟩ = 0 from by decide]
          go_enter Tryd.func121, Tryd.ntmps121
          go_wp2
          go_ret
          exact ⟨rfl, hs1⟩
        · rw [ari_no (t := ⟨1, lr, lo, hi⟩) (by rw [okT_flat _ _ _ _ (by decide)]; exact decide_eq_false (by rw [Tok.eq_iff]; intro h; exact d3 h.2.2.2))]
          have e1 : (lr != 0) = false := by simp; omega
          have e2 : (lo != 0) = false := by simp; omega
          have e3 : (hi != 0) = true := by simp; omega
          clear d1 d2 d3
          go_enter Tryd.func121, Tryd.ntmps121
          go_wp2
          go_ret
          exact ⟨rfl, hs1⟩
      · rw [ari_no (t := ⟨1, lr, lo, hi⟩) (by rw [okT_flat _ _ _ _ (by decide)]; exact decide_eq_false (by rw [Tok.eq_iff]; intro h; exact d2 h.2.2.1))]
        have e1 : (lr != 0) = false := by simp; omega
        have e2 : (lo != 0) = true := by simp; omega
        clear d1 d2
        go_enter Tryd.func121, Tryd.ntmps121
        go_wp2
        go_ret
        exact ⟨rfl, hs1⟩
    · rw [ari_no (t := ⟨1, lr, lo, hi⟩) (by rw [okT_flat _ _ _ _ (by decide)]; exact decide_eq_false (by rw [Tok.eq_iff]; intro h; exact d1 h.2.1))]
      have e1 : (lr != 0) = true := by simp; omega
      clear d1
      go_enter Tryd.func121, Tryd.ntmps121
      go_wp2
      go_ret
      exact ⟨rfl, hs1⟩
  by_cases c2 : kd = 2
  · subst c2
    have hs1 := hs 2
    clear hs
    by_cases d1 : lr = 0
    · by_cases d2 : lo = 0
      · by_cases d3 : hi = 0
        · subst d1 d2 d3
          rw [show ariT ⟨2, 0, 0, 0⟩ = 0 from by decide]
          go_enter Tryd.func121, Tryd.ntmps121
          go_wp2
          go_ret
          exact ⟨rfl, hs1⟩
        · rw [ari_no (t := ⟨2, lr, lo, hi⟩) (by rw [okT_flat _ _ _ _ (by decide)]; exact decide_eq_false (by rw [Tok.eq_iff]; intro h; exact d3 h.2.2.2))]
          have e1 : (lr != 0) = false := by simp; omega
          have e2 : (lo != 0) = false := by simp; omega
          have e3 : (hi != 0) = true := by simp; omega
          clear d1 d2 d3
          go_enter Tryd.func121, Tryd.ntmps121
          go_wp2
          go_ret
          exact ⟨rfl, hs1⟩
      · rw [ari_no (t := ⟨2, lr, lo, hi⟩) (by rw [okT_flat _ _ _ _ (by decide)]; exact decide_eq_false (by rw [Tok.eq_iff]; intro h; exact d2 h.2.2.1))]
        have e1 : (lr != 0) = false := by simp; omega
        have e2 : (lo != 0) = true := by simp; omega
        clear d1 d2
        go_enter Tryd.func121, Tryd.ntmps121
        go_wp2
        go_ret
        exact ⟨rfl, hs1⟩
    · rw [ari_no (t := ⟨2, lr, lo, hi⟩) (by rw [okT_flat _ _ _ _ (by decide)]; exact decide_eq_false (by rw [Tok.eq_iff]; intro h; exact d1 h.2.1))]
      have e1 : (lr != 0) = true := by simp; omega
      clear d1
      go_enter Tryd.func121, Tryd.ntmps121
      go_wp2
      go_ret
      exact ⟨rfl, hs1⟩
  by_cases c4 : kd = 4
  · subst c4
    have hs1 := hs 4
    clear hs
    by_cases d1 : lr = 0
    · by_cases d2 : lo = 0
      · by_cases d3 : hi = 0
        · subst d1 d2 d3
          rw [show ariT ⟨4, 0, 0, 0⟩ = 2 from by decide]
          go_enter Tryd.func121, Tryd.ntmps121
          go_wp2
          go_ret
          exact ⟨rfl, hs1⟩
        · rw [ari_no (t := ⟨4, lr, lo, hi⟩) (by rw [okT_flat _ _ _ _ (by decide)]; exact decide_eq_false (by rw [Tok.eq_iff]; intro h; exact d3 h.2.2.2))]
          have e1 : (lr != 0) = false := by simp; omega
          have e2 : (lo != 0) = false := by simp; omega
          have e3 : (hi != 0) = true := by simp; omega
          clear d1 d2 d3
          go_enter Tryd.func121, Tryd.ntmps121
          go_wp2
          go_ret
          exact ⟨rfl, hs1⟩
      · rw [ari_no (t := ⟨4, lr, lo, hi⟩) (by rw [okT_flat _ _ _ _ (by decide)]; exact decide_eq_false (by rw [Tok.eq_iff]; intro h; exact d2 h.2.2.1))]
        have e1 : (lr != 0) = false := by simp; omega
        have e2 : (lo != 0) = true := by simp; omega
        clear d1 d2
        go_enter Tryd.func121, Tryd.ntmps121
        go_wp2
        go_ret
        exact ⟨rfl, hs1⟩
    · rw [ari_no (t := ⟨4, lr, lo, hi⟩) (by rw [okT_flat _ _ _ _ (by decide)]; exact decide_eq_false (by rw [Tok.eq_iff]; intro h; exact d1 h.2.1))]
      have e1 : (lr != 0) = true := by simp; omega
      clear d1
      go_enter Tryd.func121, Tryd.ntmps121
      go_wp2
      go_ret
      exact ⟨rfl, hs1⟩
  by_cases c5 : kd = 5
  · subst c5
    have hs1 := hs 5
    clear hs
    by_cases d1 : lr = 0
    · by_cases d2 : lo = 0
      · by_cases d3 : hi = 0
        · subst d1 d2 d3
          rw [show ariT ⟨5, 0, 0, 0⟩ = 2 from by decide]
          go_enter Tryd.func121, Tryd.ntmps121
          go_wp2
          go_ret
          exact ⟨rfl, hs1⟩
        · rw [ari_no (t := ⟨5, lr, lo, hi⟩) (by rw [okT_flat _ _ _ _ (by decide)]; exact decide_eq_false (by rw [Tok.eq_iff]; intro h; exact d3 h.2.2.2))]
          have e1 : (lr != 0) = false := by simp; omega
          have e2 : (lo != 0) = false := by simp; omega
          have e3 : (hi != 0) = true := by simp; omega
          clear d1 d2 d3
          go_enter Tryd.func121, Tryd.ntmps121
          go_wp2
          go_ret
          exact ⟨rfl, hs1⟩
      · rw [ari_no (t := ⟨5, lr, lo, hi⟩) (by rw [okT_flat _ _ _ _ (by decide)]; exact decide_eq_false (by rw [Tok.eq_iff]; intro h; exact d2 h.2.2.1))]
        have e1 : (lr != 0) = false := by simp; omega
        have e2 : (lo != 0) = true := by simp; omega
        clear d1 d2
        go_enter Tryd.func121, Tryd.ntmps121
        go_wp2
        go_ret
        exact ⟨rfl, hs1⟩
    · rw [ari_no (t := ⟨5, lr, lo, hi⟩) (by rw [okT_flat _ _ _ _ (by decide)]; exact decide_eq_false (by rw [Tok.eq_iff]; intro h; exact d1 h.2.1))]
      have e1 : (lr != 0) = true := by simp; omega
      clear d1
      go_enter Tryd.func121, Tryd.ntmps121
      go_wp2
      go_ret
      exact ⟨rfl, hs1⟩
  by_cases c6 : kd = 6
  · subst c6
    have hs1 := hs 6
    clear hs
    by_cases d1 : lr = 0
    · by_cases d2 : lo = 0
      · by_cases d3 : hi = 0
        · subst d1 d2 d3
          rw [show ariT ⟨6, 0, 0, 0⟩ = 1 from by decide]
          go_enter Tryd.func121, Tryd.ntmps121
          go_wp2
          go_ret
          exact ⟨rfl, hs1⟩
        · rw [ari_no (t := ⟨6, lr, lo, hi⟩) (by rw [okT_flat _ _ _ _ (by decide)]; exact decide_eq_false (by rw [Tok.eq_iff]; intro h; exact d3 h.2.2.2))]
          have e1 : (lr != 0) = false := by simp; omega
          have e2 : (lo != 0) = false := by simp; omega
          have e3 : (hi != 0) = true := by simp; omega
          clear d1 d2 d3
          go_enter Tryd.func121, Tryd.ntmps121
          go_wp2
          go_ret
          exact ⟨rfl, hs1⟩
      · rw [ari_no (t := ⟨6, lr, lo, hi⟩) (by rw [okT_flat _ _ _ _ (by decide)]; exact decide_eq_false (by rw [Tok.eq_iff]; intro h; exact d2 h.2.2.1))]
        have e1 : (lr != 0) = false := by simp; omega
        have e2 : (lo != 0) = true := by simp; omega
        clear d1 d2
        go_enter Tryd.func121, Tryd.ntmps121
        go_wp2
        go_ret
        exact ⟨rfl, hs1⟩
    · rw [ari_no (t := ⟨6, lr, lo, hi⟩) (by rw [okT_flat _ _ _ _ (by decide)]; exact decide_eq_false (by rw [Tok.eq_iff]; intro h; exact d1 h.2.1))]
      have e1 : (lr != 0) = true := by simp; omega
      clear d1
      go_enter Tryd.func121, Tryd.ntmps121
      go_wp2
      go_ret
      exact ⟨rfl, hs1⟩
  by_cases c3 : kd = 3
  · subst c3
    have hs1 := hs 3
    clear hs
    cases hb : inB lr 0 8 with
    | false =>
      have HB := Lib.hid hb
      rw [ari_no (t := ⟨3, lr, lo, hi⟩) (by rw [okT_let, hb]; rfl)]
      clear hb
      go_enter Tryd.func121, Tryd.ntmps121
      go_wp2_with fail
      refine (l2Letter_any lr _).mono ?_
      rintro e w1 ⟨rfl, rfl⟩
      rw [HB.out]
      go_wp2
      go_ret
      exact ⟨rfl, hs1⟩
    | true =>
      have HB := Lib.hid hb
      by_cases d2 : lo = 0
      · by_cases d3 : hi = 0
        · subst d2 d3
          rw [ari_ok (t := ⟨3, lr, 0, 0⟩) (n := 0) (by rw [okT_let, hb]; simp) (by simp [opN])]
          clear hb
          go_enter Tryd.func121, Tryd.ntmps121
          go_wp2_with fail
          refine (l2Letter_any lr _).mono ?_
          rintro e w1 ⟨rfl, rfl⟩
          rw [HB.out]
          go_wp2
          go_ret
          exact ⟨rfl, hs1⟩
        · rw [ari_no (t := ⟨3, lr, lo, hi⟩) (by rw [okT_let, hb]; exact decide_eq_false (by rw [Tok.eq_iff]; intro h; exact d3 h.2.2.2))]
          have e2 : (lo != 0) = false := by simp; omega
          have e3 : (hi != 0) = true := by simp; omega
          clear d2 d3 hb
          go_enter Tryd.func121, Tryd.ntmps121
          go_wp2_with fail
          refine (l2Letter_any lr _).mono ?_
          rintro e w1 ⟨rfl, rfl⟩
          rw [HB.out]
          go_wp2
          go_ret
          exact ⟨rfl, hs1⟩
      · rw [ari_no (t := ⟨3, lr, lo, hi⟩) (by rw [okT_let, hb]; exact decide_eq_false (by rw [Tok.eq_iff]; intro h; exact d2 h.2.2.1))]
        have e2 : (lo != 0) = true := by simp; omega
        clear d2 hb
        go_enter Tryd.func121, Tryd.ntmps121
        go_wp2_with fail
        refine (l2Letter_any lr _).mono ?_
        rintro e w1 ⟨rfl, rfl⟩
        rw [HB.out]
        go_wp2
        go_ret
        exact ⟨rfl, hs1⟩
  by_cases c7 : kd = 7
  · subst c7
    have hs1 := hs 7
    clear hs
    by_cases d1 : lr = 0
    · have e1 : (lr != 0) = false := by simp; omega
      cases h1 : inB hi 1 3 with
      | false =>
        have H1 := Lib.hid h1
        rw [ari_no (t := ⟨7, lr, lo, hi⟩) (by rw [okT_rep, decide_eq_false (by unfold inB at h1; simp only [decide_eq_false_iff_not] at h1; omega)]; rfl)]
        clear h1 d1
        go_enter Tryd.func121, Tryd.ntmps121
        go_wp2_with fail
        refine (l1In_any hi 1 3 _).mono ?_
        rintro e w1 ⟨rfl, rfl⟩
        rw [H1.out]
        go_wp2
        go_ret
        exact ⟨rfl, hs1⟩
      | true =>
        have H1 := Lib.hid h1
        cases h2 : inB lo 0 hi with
        | false =>
          have H2 := Lib.hid h2
          rw [ari_no (t := ⟨7, lr, lo, hi⟩) (by rw [okT_rep, decide_eq_false (by unfold inB at h2; simp only [decide_eq_false_iff_not] at h2; omega)]; rfl)]
          clear h1 h2 d1
          go_enter Tryd.func121, Tryd.ntmps121
          go_wp2_with fail
          refine (l1In_any hi 1 3 _).mono ?_
          rintro e w1 ⟨rfl, rfl⟩
          rw [H1.out]
          go_wp2_with fail
          refine (l1In_any lo 0 hi _).mono ?_
          rintro e w1 ⟨rfl, rfl⟩
          rw [H2.out]
          go_wp2
          go_ret
          exact ⟨rfl, hs1⟩
        | true =>
          have H2 := Lib.hid h2
          rw [ari_ok (t := ⟨7, lr, lo, hi⟩) (n := 1) (by rw [okT_rep, decide_eq_true (by unfold inB at h1 h2; simp only [decide_eq_true_eq] at h1 h2; omega), Bool.true_and]; exact decide_eq_true (by rw [Tok.eq_iff]; exact ⟨rfl, d1, rfl, rfl⟩)) (by simp [opN])]
          clear h1 h2 d1
          go_enter Tryd.func121, Tryd.ntmps121
          go_wp2_with fail
          refine (l1In_any hi 1 3 _).mono ?_
          rintro e w1 ⟨rfl, rfl⟩
          rw [H1.out]
          go_wp2_with fail
          refine (l1In_any lo 0 hi _).mono ?_
          rintro e w1 ⟨rfl, rfl⟩
          rw [H2.out]
          go_wp2
          go_ret
          exact ⟨rfl, hs1⟩
    · have e1 : (lr != 0) = true := by simp; omega
      rw [ari_no (t := ⟨7, lr, lo, hi⟩) (by rw [okT_rep, Bool.and_eq_false_iff]; exact .inr (decide_eq_false (by rw [Tok.eq_iff]; intro h; exact d1 h.2.1)))]
      clear d1
      go_enter Tryd.func121, Tryd.ntmps121
      go_wp2
      go_ret
      exact ⟨rfl, hs1⟩
  rw [ari_no (t := ⟨kd, lr, lo, hi⟩) (okT_other kd lr lo hi (by omega))]
  have n1 : (kd == 1) = false := by simp; omega
  have n2 : (kd == 2) = false := by simp; omega
  have n3 : (kd == 3) = false := by simp; omega
  have n4 : (kd == 4) = false := by simp; omega
  have n5 : (kd == 5) = false := by simp; omega
  have n6 : (kd == 6) = false := by simp; omega
  have n7 : (kd == 7) = false := by simp; omega
  have hs1 := hs kd
  clear hs c1 c2 c3 c4 c5 c6 c7
  go_enter Tryd.func121, Tryd.ntmps121
  go_wp2
  go_ret
  exact ⟨rfl, hs1⟩
end Go.Proofs.YtblmiocjhbpklaaDoor
