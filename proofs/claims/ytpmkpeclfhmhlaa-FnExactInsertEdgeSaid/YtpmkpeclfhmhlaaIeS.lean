/- InsertEdge, the model's. -/
import Derived.Test.YtpmkpeclfhmhlaaK2
import Derived.Test.YtpmkpeclfhmhlaaCopyS
import Derived.Test.YtpmkpeclfhmhlaaK1
import Derived.Test.YtpmkpeclfhmhlaaRvS
import Derived.Test.YtpmkpeclfhmhlaaBs
namespace Go.Proofs.Ytpmkpeclfhmhlaa
set_option maxRecDepth 100000
open Go.ChangeShapes Go.WideShapes Go.ChangeAt Go.RowKit
set_option linter.unusedVariables false
set_option linter.unusedSimpArgs false

theorem low_step {es : List Edg} {id : Int} {k : Nat} (h : lowTo es id k) (hk : k < es.length) (hx : (es[k]).id < id) : lowTo es id (k + 1) := by
  intro t ht hlt
  by_cases e : t = k
  · subst e; exact hx
  · exact h t ht (by omega)
theorem lb_of_low {es : List Edg} {id : Int} {k : Nat} (hk : k ≤ es.length) (h : lowTo es id k) (hx : ∀ h : k < es.length, id ≤ (es[k]).id) : lbE es id = k := lbE_is hk (fun j hj => h j _ hj) hx

set_option maxHeartbeats 20000000 in
set_option maxRecDepth 100000 in
theorem specIE_any (v : Value) (g : Grf) (e : Edg) (w : World) (h : GrfAt w v g) (hcap : CapE v) (h1 : g.vs.length ≤ 1048577) (h2 : g.es.length ≤ 1048577) (hei : e.In) :
    Calls Try.prog 19 #[v, ev e] w (GBOut w (insG g e) (canIns g e)) := by
  have HG := Lib.hid h
  obtain ⟨a, b, rfl, ha, hb⟩ := h
  have HA := Lib.hid ha
  have HB := Lib.hid hb
  obtain ⟨ao, ac, rfl, _⟩ := ha.row
  obtain ⟨bo, bc, rfl, HE⟩ := hb.row
  have hbc : g.es.length ≤ bc := hcap.out
  clear ha hb hcap
  obtain ⟨n, hn⟩ : ∃ n, n = g.vs.length := ⟨_, rfl⟩
  obtain ⟨m, hm⟩ : ∃ m, m = g.es.length := ⟨_, rfl⟩
  rw [← hn] at HA
  rw [← hm] at HB hbc
  rw [← hn, ← hm] at HG ⊢
  have hm9 : m ≤ 1048577 := by omega
  have HM := Lib.hid hm
  have hmx : g.vs.length ≤ maxLen := by unfold maxLen; omega
  clear hn hm
  unfold ev
  have hs0 : Since w (((w.alloc (.cells #[.slice ao n ac, .slice bo m bc] 30)).alloc (.cells #[.int .i64 e.id, .int .i64 e.fr, .int .i64 e.to, .int .i64 e.lb] 38)).alloc (.cells #[.slice none 0 0, .slice none 0 0] 30)) := (((Since.refl w).alloc _).alloc _).alloc _
  have b0 : Hid (Blk (((w.alloc (.cells #[.slice ao n ac, .slice bo m bc] 30)).alloc (.cells #[.int .i64 e.id, .int .i64 e.fr, .int .i64 e.to, .int .i64 e.lb] 38)).alloc (.cells #[.slice none 0 0, .slice none 0 0] 30)) w.heap.size 30 #[.slice ao n ac, .slice bo m bc]) := ((Blk.new rfl _ _).alloc _).alloc _
  have e0 : Hid (Blk (((w.alloc (.cells #[.slice ao n ac, .slice bo m bc] 30)).alloc (.cells #[.int .i64 e.id, .int .i64 e.fr, .int .i64 e.to, .int .i64 e.lb] 38)).alloc (.cells #[.slice none 0 0, .slice none 0 0] 30)) (w.heap.size + 1) 38 #[.int .i64 e.id, .int .i64 e.fr, .int .i64 e.to, .int .i64 e.lb]) := (Blk.new (by simp) _ _).alloc _
  have r0 : Hid (Blk (((w.alloc (.cells #[.slice ao n ac, .slice bo m bc] 30)).alloc (.cells #[.int .i64 e.id, .int .i64 e.fr, .int .i64 e.to, .int .i64 e.lb] 38)).alloc (.cells #[.slice none 0 0, .slice none 0 0] 30)) (w.heap.size + 1 + 1) 30 #[.slice none 0 0, .slice none 0 0]) := Blk.new (by simp) _ _
  have hz : Hid (w.heap.size + 3 = (((w.alloc (.cells #[.slice ao n ac, .slice bo m bc] 30)).alloc (.cells #[.int .i64 e.id, .int .i64 e.fr, .int .i64 e.to, .int .i64 e.lb] 38)).alloc (.cells #[.slice none 0 0, .slice none 0 0] 30)).heap.size) := by unfold Hid; simp
  rcases Bool.eq_false_or_eq_true (validB g) with hv | hv
  · have HV := Lib.hid hv
    rcases Bool.eq_false_or_eq_true (edB g.vs.length e) with heb | heb
    · have HEB := Lib.hid heb
      rcases idxE_cases g.es e.id with ⟨k, _, hi, _, _⟩ | ⟨hi, _⟩
      · have HI := Lib.hid hi
        have HO : Hid (canIns g e = false ∧ insG g e = g) := by
          have e1 : decide (idxE g.es e.id < 0) = false := decide_eq_false (by omega)
          have : canIns g e = false := by unfold canIns; rw [e1]; simp
          exact ⟨this, by unfold insG; rw [if_neg (by rw [this]; decide)]⟩
        have ik0 : (0 : Int) ≤ (k : Int) := by omega
        clear hv heb hi HE
        go_enter Try.func19, Try.ntmps19
        go_wp2_with fail
        generalize (((w.alloc (.cells #[.slice ao n ac, .slice bo m bc] 30)).alloc (.cells #[.int .i64 e.id, .int .i64 e.fr, .int .i64 e.to, .int .i64 e.lb] 38)).alloc (.cells #[.slice none 0 0, .slice none 0 0] 30)) = WR at hs0 b0 e0 r0 hz ⊢
        have hzz : w.heap.size + 3 ≤ WR.heap.size := by have := hz.out; omega
        refine (specVG_any _ g _ (HG.out.since hs0) h1 h2).mono ?_
        rintro en w1 ⟨rfl, hs1⟩
        rw [HV.out]
        have b1 := Lib.hid (b0.out.since hs1)
        have e1 := Lib.hid (e0.out.since hs1)
        have r1 := Lib.hid (r0.out.since hs1)
        have hs01 := hs0.trans hs1
        have z1 := hs1.size
        clear b0 e0 r0 hs0 hs1
        obtain ⟨p0, p1, _, _⟩ := b1.out.two
        obtain ⟨q0, q1, q2, q3, _, _, _, _⟩ := e1.out.four
        go_wp2_with fail
        clear p0 p1 q0 q1 q2 q3
        refine (l3Edge_is _ g e _ _ (HG.out.since hs01) hmx HEB.out).mono ?_
        rintro en w2 ⟨rfl, hs2⟩
        have b2 := Lib.hid (b1.out.since hs2)
        have e2 := Lib.hid (e1.out.since hs2)
        have r2 := Lib.hid (r1.out.since hs2)
        have hs02 := hs01.trans hs2
        have z2 := hs2.size
        clear b1 e1 r1 hs01 hs2
        obtain ⟨p0, p1, _, _⟩ := b2.out.two
        obtain ⟨q0, q1, q2, q3, _, _, _, _⟩ := e2.out.four
        go_wp2_with fail
        clear p0 p1 q0 q1 q2 q3
        refine (specEI_any _ g e.id _ (HG.out.since hs02) h2).mono ?_
        rintro en w3 ⟨rfl, hs3⟩
        rw [HI.out]
        have b3 := Lib.hid (b2.out.since hs3)
        have e3 := Lib.hid (e2.out.since hs3)
        have r3 := Lib.hid (r2.out.since hs3)
        have hs03 := hs02.trans hs3
        have z3 := hs3.size
        clear b2 e2 r2 hs02 hs3
        obtain ⟨p0, p1, _, _⟩ := b3.out.two
        obtain ⟨q0, q1, q2, q3, _, _, _, _⟩ := e3.out.four
        go_wp2_with fail
        clear p0 p1 q0 q1 q2 q3
        refine (l3Copy_any _ g _ (HG.out.since hs03) h1 h2).mono ?_
        rintro en w9 ⟨v1, rfl, ho1, hs9⟩
        obtain ⟨xa, xb, rfl, ka, ra, kb, rb⟩ := ho1
        obtain ⟨o1, c1, rfl⟩ := ka.len
        obtain ⟨o2, c2, rfl⟩ := kb.len
        have KA := Lib.hid ka
        have KB := Lib.hid kb
        have r9 := Lib.hid (r3.out.since hs9)
        obtain ⟨q0, q1, q2, q3⟩ := r9.out.two
        have hs09 := hs03.trans hs9
        clear ka kb ra rb r3 hs9
        go_wp2
        refine bodyPost_ret (v := .tuple #[.agg #[.slice o1 g.vs.length c1, .slice o2 g.es.length c2], .bool false]) (by simp [results, Try.results19, go_sem, *]) rfl ?_
        refine gbOut_mk HO.out.1 (HO.out.2.trans (by cases g; rfl)) (((KA.out.far (by simp; omega) _).far (by simp; omega) _).mono (by omega)) (((KB.out.far (by simp; omega) _).far (by simp; omega) _).mono (by omega)) ?_
        exact (hs09.setCell (by simp; omega) _).setCell (by simp; omega) _
      · have HI := Lib.hid hi
        by_cases h12 : m = 12
        · have HO : Hid (canIns g e = false ∧ insG g e = g) := by
            have : canIns g e = false := by unfold canIns; have := HM.out; simp; omega
            exact ⟨this, by unfold insG; rw [if_neg (by rw [this]; decide)]⟩
          have hd12 : ((m : Int) == 12) = true := by simp; omega
          clear hv heb hi HE h12
          go_enter Try.func19, Try.ntmps19
          go_wp2_with fail
          generalize (((w.alloc (.cells #[.slice ao n ac, .slice bo m bc] 30)).alloc (.cells #[.int .i64 e.id, .int .i64 e.fr, .int .i64 e.to, .int .i64 e.lb] 38)).alloc (.cells #[.slice none 0 0, .slice none 0 0] 30)) = WR at hs0 b0 e0 r0 hz ⊢
          have hzz : w.heap.size + 3 ≤ WR.heap.size := by have := hz.out; omega
          refine (specVG_any _ g _ (HG.out.since hs0) h1 h2).mono ?_
          rintro en w1 ⟨rfl, hs1⟩
          rw [HV.out]
          have b1 := Lib.hid (b0.out.since hs1)
          have e1 := Lib.hid (e0.out.since hs1)
          have r1 := Lib.hid (r0.out.since hs1)
          have hs01 := hs0.trans hs1
          have z1 := hs1.size
          clear b0 e0 r0 hs0 hs1
          obtain ⟨p0, p1, _, _⟩ := b1.out.two
          obtain ⟨q0, q1, q2, q3, _, _, _, _⟩ := e1.out.four
          go_wp2_with fail
          clear p0 p1 q0 q1 q2 q3
          refine (l3Edge_is _ g e _ _ (HG.out.since hs01) hmx HEB.out).mono ?_
          rintro en w2 ⟨rfl, hs2⟩
          have b2 := Lib.hid (b1.out.since hs2)
          have e2 := Lib.hid (e1.out.since hs2)
          have r2 := Lib.hid (r1.out.since hs2)
          have hs02 := hs01.trans hs2
          have z2 := hs2.size
          clear b1 e1 r1 hs01 hs2
          obtain ⟨p0, p1, _, _⟩ := b2.out.two
          obtain ⟨q0, q1, q2, q3, _, _, _, _⟩ := e2.out.four
          go_wp2_with fail
          clear p0 p1 q0 q1 q2 q3
          refine (specEI_any _ g e.id _ (HG.out.since hs02) h2).mono ?_
          rintro en w3 ⟨rfl, hs3⟩
          rw [HI.out]
          have b3 := Lib.hid (b2.out.since hs3)
          have e3 := Lib.hid (e2.out.since hs3)
          have r3 := Lib.hid (r2.out.since hs3)
          have hs03 := hs02.trans hs3
          have z3 := hs3.size
          clear b2 e2 r2 hs02 hs3
          obtain ⟨p0, p1, _, _⟩ := b3.out.two
          obtain ⟨q0, q1, q2, q3, _, _, _, _⟩ := e3.out.four
          go_wp2_with fail
          clear p0 p1 q0 q1 q2 q3
          refine (l3Copy_any _ g _ (HG.out.since hs03) h1 h2).mono ?_
          rintro en w9 ⟨v1, rfl, ho1, hs9⟩
          obtain ⟨xa, xb, rfl, ka, ra, kb, rb⟩ := ho1
          obtain ⟨o1, c1, rfl⟩ := ka.len
          obtain ⟨o2, c2, rfl⟩ := kb.len
          have KA := Lib.hid ka
          have KB := Lib.hid kb
          have r9 := Lib.hid (r3.out.since hs9)
          obtain ⟨q0, q1, q2, q3⟩ := r9.out.two
          have hs09 := hs03.trans hs9
          clear ka kb ra rb r3 hs9
          go_wp2
          refine bodyPost_ret (v := .tuple #[.agg #[.slice o1 g.vs.length c1, .slice o2 g.es.length c2], .bool false]) (by simp [results, Try.results19, go_sem, *]) rfl ?_
          refine gbOut_mk HO.out.1 (HO.out.2.trans (by cases g; rfl)) (((KA.out.far (by simp; omega) _).far (by simp; omega) _).mono (by omega)) (((KB.out.far (by simp; omega) _).far (by simp; omega) _).mono (by omega)) ?_
          exact (hs09.setCell (by simp; omega) _).setCell (by simp; omega) _
        · have HC : Hid (canIns g e = true) := by
            have e1 : decide (g.es.length ≠ 12) = true := decide_eq_true (by have := HM.out; omega)
            unfold Hid canIns; rw [hv, heb, hi, e1]; rfl
          have hd12 : ((m : Int) == 12) = false := by simp; omega
          clear hv heb hi h12
          go_enter Try.func19, Try.ntmps19
          go_wp2_with fail
          generalize (((w.alloc (.cells #[.slice ao n ac, .slice bo m bc] 30)).alloc (.cells #[.int .i64 e.id, .int .i64 e.fr, .int .i64 e.to, .int .i64 e.lb] 38)).alloc (.cells #[.slice none 0 0, .slice none 0 0] 30)) = WR at hs0 b0 e0 r0 hz ⊢
          have hzz : w.heap.size + 3 ≤ WR.heap.size := by have := hz.out; omega
          refine (specVG_any _ g _ (HG.out.since hs0) h1 h2).mono ?_
          rintro en w1 ⟨rfl, hs1⟩
          rw [HV.out]
          have b1 := Lib.hid (b0.out.since hs1)
          have e1 := Lib.hid (e0.out.since hs1)
          have r1 := Lib.hid (r0.out.since hs1)
          have hs01 := hs0.trans hs1
          have z1 := hs1.size
          clear b0 e0 r0 hs0 hs1
          obtain ⟨p0, p1, _, _⟩ := b1.out.two
          obtain ⟨q0, q1, q2, q3, _, _, _, _⟩ := e1.out.four
          go_wp2_with fail
          clear p0 p1 q0 q1 q2 q3
          refine (l3Edge_is _ g e _ _ (HG.out.since hs01) hmx HEB.out).mono ?_
          rintro en w2 ⟨rfl, hs2⟩
          have b2 := Lib.hid (b1.out.since hs2)
          have e2 := Lib.hid (e1.out.since hs2)
          have r2 := Lib.hid (r1.out.since hs2)
          have hs02 := hs01.trans hs2
          have z2 := hs2.size
          clear b1 e1 r1 hs01 hs2
          obtain ⟨p0, p1, _, _⟩ := b2.out.two
          obtain ⟨q0, q1, q2, q3, _, _, _, _⟩ := e2.out.four
          go_wp2_with fail
          clear p0 p1 q0 q1 q2 q3
          refine (specEI_any _ g e.id _ (HG.out.since hs02) h2).mono ?_
          rintro en w3 ⟨rfl, hs3⟩
          rw [HI.out]
          have b3 := Lib.hid (b2.out.since hs3)
          have e3 := Lib.hid (e2.out.since hs3)
          have r3 := Lib.hid (r2.out.since hs3)
          have hs03 := hs02.trans hs3
          have z3 := hs3.size
          clear b2 e2 r2 hs02 hs3
          obtain ⟨p0, p1, _, _⟩ := b3.out.two
          go_wp2_with fail
          clear p0 p1
          go_loopw [6] (fun i wr => ∃ k : Nat, k ≤ m ∧ i = .int .i64 k ∧ Hid (lowTo g.es e.id k) ∧ Hid (Since w3 wr)) (fun i _ => m - (intOf i).toNat)
          case atStart => exact ⟨0, Nat.zero_le _, rfl, fun t _ ht => absurd ht (Nat.not_lt_zero _), Since.refl _⟩
          case round =>
            obtain ⟨k, hk, rfl, HT, HS⟩ := hrel
            have hs04 := hs03.trans HS.out
            obtain ⟨cc, hcc⟩ : ∃ cc : Bool, Hid ((cc = true ∧ ∃ hx : k < g.es.length, (g.es[k]).id < e.id) ∨ (cc = false ∧ lbE g.es e.id = k)) := by
              by_cases hlt : k < g.es.length
              · by_cases hid : (g.es[k]).id < e.id
                · exact ⟨true, .inl ⟨rfl, hlt, hid⟩⟩
                · exact ⟨false, .inr ⟨rfl, lb_of_low (by omega) HT.out (fun _ => Int.not_lt.1 hid)⟩⟩
              · exact ⟨false, .inr ⟨rfl, lb_of_low (by have := HM.out; omega) HT.out (fun h => absurd h hlt)⟩⟩
            go_upto_region 4 with fail
            go_cut [47] from 32 to 49 (fun c wx => c = .bool cc ∧ wx = wr.drew)
            case first =>
              by_cases hlt : k < m
              · have hx : k < g.es.length := by have := HM.out; omega
                obtain ⟨be, oe, hbo, hbe, d0, _, _, _⟩ := HE.out k hx
                have HKC : Hid (∀ w', Since wr w' → w'.cell? ⟨w.heap.size, 0, none⟩ = some (.slice ao n ac) ∧ w'.cell? ⟨w.heap.size, 1, none⟩ = some (.slice (some ⟨be, oe, none⟩) m bc) ∧
                    w'.cell? ⟨be, oe + k * 4, none⟩ = some (.int .i64 g.es[k].id) ∧ w'.cell? ⟨w.heap.size + 1, 0, none⟩ = some (.int .i64 e.id)) := by
                  intro w' hs
                  obtain ⟨x0, x1, _, _⟩ := ((b3.out.since HS.out).since hs).two
                  obtain ⟨y0, _⟩ := ((e3.out.since HS.out).since hs).four
                  rw [hbo] at x1
                  exact ⟨x0, x1, (since_cells (hs04.trans hs) hbe _).trans d0, y0⟩
                clear d0
                have hdid : decide ((g.es[k]).id < e.id) = cc := by
                  rcases hcc.out with ⟨rfl, _, h⟩ | ⟨rfl, h⟩
                  · exact decide_eq_true h
                  · refine decide_eq_false (fun h5 => ?_)
                    have h6 := lbE_at (es := g.es) (id := e.id) (by omega)
                    simp only [h] at h6
                    omega
                have hki : decide ((k : Int) < (m : Int)) = true := decide_eq_true (by omega)
                go_wp2_with fail
                refine wp_region_held_drew (S := (fun w' => w'.cell? ⟨w.heap.size, 0, none⟩ = some (.slice ao n ac) ∧ w'.cell? ⟨w.heap.size, 1, none⟩ = some (.slice (some ⟨be, oe, none⟩) m bc) ∧ w'.cell? ⟨be, oe + k * 4, none⟩ = some (.int .i64 g.es[k].id) ∧ w'.cell? ⟨w.heap.size + 1, 0, none⟩ = some (.int .i64 e.id))) (by kernel_rfl) (HKC.out _ (Since.refl _).drew) (fun hHeld => ?_)
                refine take_yes 0 (some 32) (v := ?_) rfl (by kernel_rfl) (by kernel_rfl) (by kernel_rfl) (by kernel_rfl) (fun _ _ _ h => h) (by rfl) (by assumption) ?_ ?_
                rotate_left
                · (intro w' hSw; (try dsimp only at hSw); go_simp; try with_reducible rfl)
                try simp only [Act.put, List.setIfInBounds_toArray, List.set_cons_zero, List.set_cons_succ]
                refine take_yes 1 (some 33) (v := ?_) rfl (by kernel_rfl) (by kernel_rfl) (by kernel_rfl) (by kernel_rfl) (fun _ _ _ h => h) (by rfl) (by assumption) ?_ ?_
                rotate_left
                · (intro w' hSw; (try dsimp only at hSw); go_simp; try with_reducible rfl)
                try simp only [Act.put, List.setIfInBounds_toArray, List.set_cons_zero, List.set_cons_succ]
                refine take_yes 2 (some 34) (v := ?_) rfl (by kernel_rfl) (by kernel_rfl) (by kernel_rfl) (by kernel_rfl) (fun _ _ _ h => h) (by rfl) (by assumption) ?_ ?_
                rotate_left
                · (intro w' hSw; (try dsimp only at hSw); go_simp; try with_reducible rfl)
                try simp only [Act.put, List.setIfInBounds_toArray, List.set_cons_zero, List.set_cons_succ]
                refine take_yes 3 (some 35) (v := ?_) rfl (by kernel_rfl) (by kernel_rfl) (by kernel_rfl) (by kernel_rfl) (fun _ _ _ h => h) (by rfl) (by assumption) ?_ ?_
                rotate_left
                · (intro w' hSw; (try dsimp only at hSw); go_simp; try with_reducible rfl)
                try simp only [Act.put, List.setIfInBounds_toArray, List.set_cons_zero, List.set_cons_succ]
                refine take_yes 4 (some 36) (v := ?_) rfl (by kernel_rfl) (by kernel_rfl) (by kernel_rfl) (by kernel_rfl) (fun _ _ _ h => h) (by rfl) (by assumption) ?_ ?_
                rotate_left
                · (intro w' hSw; (try dsimp only at hSw); go_simp; try with_reducible rfl)
                try simp only [Act.put, List.setIfInBounds_toArray, List.set_cons_zero, List.set_cons_succ]
                refine take_yes 5 (some 37) (v := ?_) rfl (by kernel_rfl) (by kernel_rfl) (by kernel_rfl) (by kernel_rfl) (fun _ _ _ h => h) (by rfl) (by assumption) ?_ ?_
                rotate_left
                · (intro w' hSw; (try dsimp only at hSw); go_simp; try with_reducible rfl)
                try simp only [Act.put, List.setIfInBounds_toArray, List.set_cons_zero, List.set_cons_succ]
                refine take_yes 6 (some 38) (v := ?_) rfl (by kernel_rfl) (by kernel_rfl) (by kernel_rfl) (by kernel_rfl) (fun _ _ _ h => h) (by rfl) (by assumption) ?_ ?_
                rotate_left
                · (intro w' hSw; (try dsimp only at hSw); go_simp; try with_reducible rfl)
                try simp only [Act.put, List.setIfInBounds_toArray, List.set_cons_zero, List.set_cons_succ]
                refine take_yes 7 (some 39) (v := ?_) rfl (by kernel_rfl) (by kernel_rfl) (by kernel_rfl) (by kernel_rfl) (fun _ _ _ h => h) (by rfl) (by assumption) ?_ ?_
                rotate_left
                · (intro w' hSw; (try dsimp only at hSw); go_simp; try with_reducible rfl)
                try simp only [Act.put, List.setIfInBounds_toArray, List.set_cons_zero, List.set_cons_succ]
                refine take_yes 8 (some 40) (v := ?_) rfl (by kernel_rfl) (by kernel_rfl) (by kernel_rfl) (by kernel_rfl) (fun _ _ _ h => h) (by rfl) (by assumption) ?_ ?_
                rotate_left
                · (intro w' hSw; (try dsimp only at hSw); go_simp; try with_reducible rfl)
                try simp only [Act.put, List.setIfInBounds_toArray, List.set_cons_zero, List.set_cons_succ]
                refine take_yes 9 (some 41) (v := ?_) rfl (by kernel_rfl) (by kernel_rfl) (by kernel_rfl) (by kernel_rfl) (fun _ _ _ h => h) (by rfl) (by assumption) ?_ ?_
                rotate_left
                · (intro w' hSw; (try dsimp only at hSw); go_simp; try with_reducible rfl)
                try simp only [Act.put, List.setIfInBounds_toArray, List.set_cons_zero, List.set_cons_succ]
                refine take_yes 10 (some 42) (v := ?_) rfl (by kernel_rfl) (by kernel_rfl) (by kernel_rfl) (by kernel_rfl) (fun _ _ _ h => h) (by rfl) (by assumption) ?_ ?_
                rotate_left
                · (intro w' hSw; (try dsimp only at hSw); go_simp; try with_reducible rfl)
                try simp only [Act.put, List.setIfInBounds_toArray, List.set_cons_zero, List.set_cons_succ]
                refine take_yes 11 (some 43) (v := ?_) rfl (by kernel_rfl) (by kernel_rfl) (by kernel_rfl) (by kernel_rfl) (fun _ _ _ h => h) (by rfl) (by assumption) ?_ ?_
                rotate_left
                · (intro w' hSw; (try dsimp only at hSw); go_simp; try with_reducible rfl)
                try simp only [Act.put, List.setIfInBounds_toArray, List.set_cons_zero, List.set_cons_succ]
                refine take_yes 12 (some 44) (v := ?_) rfl (by kernel_rfl) (by kernel_rfl) (by kernel_rfl) (by kernel_rfl) (fun _ _ _ h => h) (by rfl) (by assumption) ?_ ?_
                rotate_left
                · (intro w' hSw; (try dsimp only at hSw); go_simp; try with_reducible rfl)
                try simp only [Act.put, List.setIfInBounds_toArray, List.set_cons_zero, List.set_cons_succ]
                refine take_yes 13 (some 45) (v := ?_) rfl (by kernel_rfl) (by kernel_rfl) (by kernel_rfl) (by kernel_rfl) (fun _ _ _ h => h) (by rfl) (by assumption) ?_ ?_
                rotate_left
                · (intro w' hSw; (try dsimp only at hSw); go_simp; try with_reducible rfl)
                try simp only [Act.put, List.setIfInBounds_toArray, List.set_cons_zero, List.set_cons_succ]
                refine take_yes 14 (some 46) (v := ?_) rfl (by kernel_rfl) (by kernel_rfl) (by kernel_rfl) (by kernel_rfl) (fun _ _ _ h => h) (by rfl) (by assumption) ?_ ?_
                rotate_left
                · (intro w' hSw; (try dsimp only at hSw); go_simp; try with_reducible rfl)
                try simp only [Act.put, List.setIfInBounds_toArray, List.set_cons_zero, List.set_cons_succ]
                refine take_yes 15 (some 47) (v := ?_) rfl (by kernel_rfl) (by kernel_rfl) (by kernel_rfl) (by kernel_rfl) (fun _ _ _ h => h) (by rfl) (by assumption) ?_ ?_
                rotate_left
                · (intro w' hSw; (try dsimp only at hSw); go_simp; try with_reducible rfl)
                try simp only [Act.put, List.setIfInBounds_toArray, List.set_cons_zero, List.set_cons_succ]
                refine wpAnyH_done (by kernel_rfl) ?_ _
                clear hHeld
                go_wp2_with fail
                go_meet
                case rel => exact ⟨rfl, rfl⟩
              · obtain rfl : k = m := by omega
                obtain rfl : cc = false := by
                  rcases hcc.out with ⟨_, h, _⟩ | ⟨h, _⟩
                  · have := HM.out; omega
                  · exact h
                have hki : decide ((k : Int) < (k : Int)) = false := by simp
                have HKC : Hid (∀ w', Since wr w' → w'.cell? ⟨w.heap.size, 0, none⟩ = some (.slice ao n ac) ∧ w'.cell? ⟨w.heap.size, 1, none⟩ = some (.slice bo k bc)) := by
                  intro w' hs
                  obtain ⟨x0, x1, _, _⟩ := ((b3.out.since HS.out).since hs).two
                  exact ⟨x0, x1⟩
                go_wp2_with fail
                refine wp_region_held_drew (S := (fun w' => w'.cell? ⟨w.heap.size, 0, none⟩ = some (.slice ao n ac) ∧ w'.cell? ⟨w.heap.size, 1, none⟩ = some (.slice bo k bc))) (by kernel_rfl) (HKC.out _ (Since.refl _).drew) (fun hHeld => ?_)
                refine take_yes 0 (some 32) (v := ?_) rfl (by kernel_rfl) (by kernel_rfl) (by kernel_rfl) (by kernel_rfl) (fun _ _ _ h => h) (by rfl) (by assumption) ?_ ?_
                rotate_left
                · (intro w' hSw; (try dsimp only at hSw); go_simp; try with_reducible rfl)
                try simp only [Act.put, List.setIfInBounds_toArray, List.set_cons_zero, List.set_cons_succ]
                refine take_yes 1 (some 33) (v := ?_) rfl (by kernel_rfl) (by kernel_rfl) (by kernel_rfl) (by kernel_rfl) (fun _ _ _ h => h) (by rfl) (by assumption) ?_ ?_
                rotate_left
                · (intro w' hSw; (try dsimp only at hSw); go_simp; try with_reducible rfl)
                try simp only [Act.put, List.setIfInBounds_toArray, List.set_cons_zero, List.set_cons_succ]
                refine take_yes 2 (some 34) (v := ?_) rfl (by kernel_rfl) (by kernel_rfl) (by kernel_rfl) (by kernel_rfl) (fun _ _ _ h => h) (by rfl) (by assumption) ?_ ?_
                rotate_left
                · (intro w' hSw; (try dsimp only at hSw); go_simp; try with_reducible rfl)
                try simp only [Act.put, List.setIfInBounds_toArray, List.set_cons_zero, List.set_cons_succ]
                refine take_yes 3 (some 35) (v := ?_) rfl (by kernel_rfl) (by kernel_rfl) (by kernel_rfl) (by kernel_rfl) (fun _ _ _ h => h) (by rfl) (by assumption) ?_ ?_
                rotate_left
                · (intro w' hSw; (try dsimp only at hSw); go_simp; try with_reducible rfl)
                try simp only [Act.put, List.setIfInBounds_toArray, List.set_cons_zero, List.set_cons_succ]
                refine take_yes 4 (some 36) (v := ?_) rfl (by kernel_rfl) (by kernel_rfl) (by kernel_rfl) (by kernel_rfl) (fun _ _ _ h => h) (by rfl) (by assumption) ?_ ?_
                rotate_left
                · (intro w' hSw; (try dsimp only at hSw); go_simp; try with_reducible rfl)
                try simp only [Act.put, List.setIfInBounds_toArray, List.set_cons_zero, List.set_cons_succ]
                refine take_yes 5 (some 37) (v := ?_) rfl (by kernel_rfl) (by kernel_rfl) (by kernel_rfl) (by kernel_rfl) (fun _ _ _ h => h) (by rfl) (by assumption) ?_ ?_
                rotate_left
                · (intro w' hSw; (try dsimp only at hSw); go_simp; try with_reducible rfl)
                try simp only [Act.put, List.setIfInBounds_toArray, List.set_cons_zero, List.set_cons_succ]
                refine take_no 6 (some 38) rfl (by kernel_rfl) (by kernel_rfl) (by kernel_rfl) (by kernel_rfl) (fun _ _ _ h => h) (by rfl) (by assumption) ?_
                try simp only [Act.put, List.setIfInBounds_toArray, List.set_cons_zero, List.set_cons_succ]
                refine take_no 7 (some 39) rfl (by kernel_rfl) (by kernel_rfl) (by kernel_rfl) (by kernel_rfl) (fun _ _ _ h => h) (by rfl) (by assumption) ?_
                try simp only [Act.put, List.setIfInBounds_toArray, List.set_cons_zero, List.set_cons_succ]
                refine take_no 8 (some 40) rfl (by kernel_rfl) (by kernel_rfl) (by kernel_rfl) (by kernel_rfl) (fun _ _ _ h => h) (by rfl) (by assumption) ?_
                try simp only [Act.put, List.setIfInBounds_toArray, List.set_cons_zero, List.set_cons_succ]
                refine take_no 9 (some 41) rfl (by kernel_rfl) (by kernel_rfl) (by kernel_rfl) (by kernel_rfl) (fun _ _ _ h => h) (by rfl) (by assumption) ?_
                try simp only [Act.put, List.setIfInBounds_toArray, List.set_cons_zero, List.set_cons_succ]
                refine take_no 10 (some 42) rfl (by kernel_rfl) (by kernel_rfl) (by kernel_rfl) (by kernel_rfl) (fun _ _ _ h => h) (by rfl) (by assumption) ?_
                try simp only [Act.put, List.setIfInBounds_toArray, List.set_cons_zero, List.set_cons_succ]
                refine take_no 11 (some 43) rfl (by kernel_rfl) (by kernel_rfl) (by kernel_rfl) (by kernel_rfl) (fun _ _ _ h => h) (by rfl) (by assumption) ?_
                try simp only [Act.put, List.setIfInBounds_toArray, List.set_cons_zero, List.set_cons_succ]
                refine take_no 12 (some 44) rfl (by kernel_rfl) (by kernel_rfl) (by kernel_rfl) (by kernel_rfl) (fun _ _ _ h => h) (by rfl) (by assumption) ?_
                try simp only [Act.put, List.setIfInBounds_toArray, List.set_cons_zero, List.set_cons_succ]
                refine take_no 13 (some 45) rfl (by kernel_rfl) (by kernel_rfl) (by kernel_rfl) (by kernel_rfl) (fun _ _ _ h => h) (by rfl) (by assumption) ?_
                try simp only [Act.put, List.setIfInBounds_toArray, List.set_cons_zero, List.set_cons_succ]
                refine take_no 14 (some 46) rfl (by kernel_rfl) (by kernel_rfl) (by kernel_rfl) (by kernel_rfl) (fun _ _ _ h => h) (by rfl) (by assumption) ?_
                try simp only [Act.put, List.setIfInBounds_toArray, List.set_cons_zero, List.set_cons_succ]
                refine take_yes 15 (some 47) (v := ?_) rfl (by kernel_rfl) (by kernel_rfl) (by kernel_rfl) (by kernel_rfl) (fun _ _ _ h => h) (by rfl) (by assumption) ?_ ?_
                rotate_left
                · (intro w' hSw; (try dsimp only at hSw); go_simp; try with_reducible rfl)
                try simp only [Act.put, List.setIfInBounds_toArray, List.set_cons_zero, List.set_cons_succ]
                refine wpAnyH_done (by kernel_rfl) ?_ _
                clear hHeld
                go_wp2_with fail
                go_meet
                case rel => exact ⟨rfl, rfl⟩
            case rest =>
              obtain ⟨rfl, rfl⟩ := hcut
              cases cc
              · have hlb : lbE g.es e.id = k := by
                  rcases hcc.out with ⟨h, _⟩ | ⟨_, h⟩
                  · cases h
                  · exact h
                clear hcc
                have HO : Hid (canIns g e = true ∧ insG g e = ⟨g.vs, insL g.es e⟩) := ⟨HC.out, by unfold insG; rw [if_pos HC.out]⟩
                have HL : Hid (insL g.es e = g.es.take k ++ [e] ++ g.es.drop k) := by unfold Hid insL; rw [hlb]; simp
                clear hlb
                obtain ⟨q, hq⟩ : ∃ q, (g.es.take k ++ [e] ++ g.es.drop k).length = q := ⟨_, rfl⟩
                have HQ := Lib.hid hq
                clear hq
                obtain ⟨A2, hA2⟩ : ∃ A2, (if bc = k then bo else Option.map (fun x => x.add (k * 4)) bo) = A2 := ⟨_, rfl⟩
                have HA2 := Lib.hid hA2
                have hkm : k ≤ m := by omega
                have hkc : k ≤ bc := by omega
                have ik0 : (0 : Int) ≤ (k : Int) := by omega
                have ik1 : (k : Int) ≤ (bc : Int) := by omega
                have ik3 : (k : Int) ≤ (m : Int) := by omega
                have hm12 : k ≤ g.es.length := by have := HM.out; omega
                have b4 := Lib.hid ((b3.out.since HS.out).drew)
                have e4 := Lib.hid ((e3.out.since HS.out).drew)
                have r4 := Lib.hid ((r3.out.since HS.out).drew)
                have hs05 := hs04.drew
                have z4 : w3.heap.size ≤ wr.drew.heap.size := HS.out.drew.size
                clear b3 e3 r3 hs04 HS HT hs03
                generalize wr.drew = w4 at b4 e4 r4 hs05 z4 ⊢
                have F0 := own_lit w4 w4 (Since.refl _) w4.heap.size rfl
                obtain ⟨p0, p1, _, _⟩ := (b4.out.alloc (.cells #[] 3)).two
                obtain ⟨p2, p3, _, _⟩ := b4.out.two
                go_wp2_with (at_builtin; go_must (refine wpList_append_ints rfl (.tmp 50) (.tmp 52) rfl w4.heap.size (.slice (some ⟨w4.heap.size, 0, none⟩) 0 0) [] rfl F0 ao n ac rfl g.vs (HA.out.since (hs05.alloc _)) (by simp; omega) (by simp) ?_); intro v3 w5 ho3 hg3 hb3; rw [List.nil_append] at ho3; obtain ⟨o3, c3, rfl⟩ := ho3.len)
                clear p0 p1 p2 p3
                have hs3 : Since w4 w5 := ((Since.refl w4).alloc _).grown hg3 (fun j hj => (F0.2.lt j hj).1)
                have b5 := Lib.hid ((b4.out.since hs3).alloc (.cells #[.slice o3 g.vs.length c3, .slice none 0 0] 30))
                have e5 := Lib.hid ((e4.out.since hs3).alloc (.cells #[.slice o3 g.vs.length c3, .slice none 0 0] 30))
                have r5 := Lib.hid ((r4.out.since hs3).alloc (.cells #[.slice o3 g.vs.length c3, .slice none 0 0] 30))
                have hsy := (hs05.trans hs3).alloc (.cells #[.slice o3 g.vs.length c3, .slice none 0 0] 30)
                have z5 := hs3.size
                have HR3 := Lib.hid ho3.inR
                have X3 : Hid (Blk (w5.alloc (.cells #[.slice o3 g.vs.length c3, .slice none 0 0] 30)) w5.heap.size 30 #[.slice o3 g.vs.length c3, .slice none 0 0]) := Blk.new rfl _ _
                have HA3 := Lib.hid (ho3.since ((Since.refl w5).alloc (.cells #[.slice o3 g.vs.length c3, .slice none 0 0] 30)))
                have zy : Hid (w5.heap.size + 1 = (w5.alloc (.cells #[.slice o3 g.vs.length c3, .slice none 0 0] 30)).heap.size) := by unfold Hid; simp
                clear F0 ho3 hg3 hb3 b4 e4 r4 hs05 hs3
                generalize (w5.alloc (.cells #[.slice o3 g.vs.length c3, .slice none 0 0] 30)) = y3 at b5 e5 r5 hsy X3 HA3 zy ⊢
                have hzy : w5.heap.size + 1 ≤ y3.heap.size := by have := zy.out; omega
                have HKC : Hid (∀ w', Since y3 w' → w'.cell? ⟨w.heap.size, 0, none⟩ = some (.slice ao n ac) ∧ w'.cell? ⟨w.heap.size, 1, none⟩ = some (.slice bo m bc) ∧ w'.cell? ⟨w.heap.size + 1, 0, none⟩ = some (.int .i64 e.id) ∧ w'.cell? ⟨w.heap.size + 1, 1, none⟩ = some (.int .i64 e.fr) ∧ w'.cell? ⟨w.heap.size + 1, 2, none⟩ = some (.int .i64 e.to) ∧ w'.cell? ⟨w.heap.size + 1, 3, none⟩ = some (.int .i64 e.lb)) := by
                  intro w' hs
                  obtain ⟨x0, x1, _, _⟩ := (b5.out.since hs).two
                  obtain ⟨u0, u1, u2, u3, _, _, _, _⟩ := (e5.out.since hs).four
                  exact ⟨x0, x1, u0, u1, u2, u3⟩
                refine wp_region_held_drew (S := (fun w' => w'.cell? ⟨w.heap.size, 0, none⟩ = some (.slice ao n ac) ∧ w'.cell? ⟨w.heap.size, 1, none⟩ = some (.slice bo m bc) ∧ w'.cell? ⟨w.heap.size + 1, 0, none⟩ = some (.int .i64 e.id) ∧ w'.cell? ⟨w.heap.size + 1, 1, none⟩ = some (.int .i64 e.fr) ∧ w'.cell? ⟨w.heap.size + 1, 2, none⟩ = some (.int .i64 e.to) ∧ w'.cell? ⟨w.heap.size + 1, 3, none⟩ = some (.int .i64 e.lb))) (by kernel_rfl) (HKC.out _ (Since.refl _).drew) (fun hHeld => ?_)
                refine take_yes 1 (some 56) (v := ?_) rfl (by kernel_rfl) (by kernel_rfl) (by kernel_rfl) (by kernel_rfl) (fun _ _ _ h => h) (by rfl) (by assumption) ?_ ?_
                rotate_left
                · (intro w' hSw; (try dsimp only at hSw); go_simp; try with_reducible rfl)
                try simp only [Act.put, List.setIfInBounds_toArray, List.set_cons_zero, List.set_cons_succ]
                refine take_yes 2 (some 57) (v := ?_) rfl (by kernel_rfl) (by kernel_rfl) (by kernel_rfl) (by kernel_rfl) (fun _ _ _ h => h) (by rfl) (by assumption) ?_ ?_
                rotate_left
                · (intro w' hSw; (try dsimp only at hSw); go_simp; try with_reducible rfl)
                try simp only [Act.put, List.setIfInBounds_toArray, List.set_cons_zero, List.set_cons_succ]
                refine take_yes 3 (some 58) (v := ?_) rfl (by kernel_rfl) (by kernel_rfl) (by kernel_rfl) (by kernel_rfl) (fun _ _ _ h => h) (by rfl) (by assumption) ?_ ?_
                rotate_left
                · (intro w' hSw; (try dsimp only at hSw); go_simp; try with_reducible rfl)
                try simp only [Act.put, List.setIfInBounds_toArray, List.set_cons_zero, List.set_cons_succ]
                refine take_yes 4 (some 59) (v := ?_) rfl (by kernel_rfl) (by kernel_rfl) (by kernel_rfl) (by kernel_rfl) (fun _ _ _ h => h) (by rfl) (by assumption) ?_ ?_
                rotate_left
                · (intro w' hSw; (try dsimp only at hSw); go_simp; try with_reducible rfl)
                try simp only [Act.put, List.setIfInBounds_toArray, List.set_cons_zero, List.set_cons_succ]
                refine take_yes 6 (some 61) (v := ?_) rfl (by kernel_rfl) (by kernel_rfl) (by kernel_rfl) (by kernel_rfl) (fun _ _ _ h => h) (by rfl) (by assumption) ?_ ?_
                rotate_left
                · (intro w' hSw; (try dsimp only at hSw); go_simp; try with_reducible rfl)
                try simp only [Act.put, List.setIfInBounds_toArray, List.set_cons_zero, List.set_cons_succ]
                refine take_yes 9 (some 64) (v := ?_) rfl (by kernel_rfl) (by kernel_rfl) (by kernel_rfl) (by kernel_rfl) (fun _ _ _ h => h) (by rfl) (by assumption) ?_ ?_
                rotate_left
                · (intro w' hSw; (try dsimp only at hSw); go_simp; try with_reducible rfl)
                try simp only [Act.put, List.setIfInBounds_toArray, List.set_cons_zero, List.set_cons_succ]
                refine take_yes 10 (some 65) (v := ?_) rfl (by kernel_rfl) (by kernel_rfl) (by kernel_rfl) (by kernel_rfl) (fun _ _ _ h => h) (by rfl) (by assumption) ?_ ?_
                rotate_left
                · (intro w' hSw; (try dsimp only at hSw); go_simp; try with_reducible rfl)
                try simp only [Act.put, List.setIfInBounds_toArray, List.set_cons_zero, List.set_cons_succ]
                refine take_yes 11 (some 66) (v := ?_) rfl (by kernel_rfl) (by kernel_rfl) (by kernel_rfl) (by kernel_rfl) (fun _ _ _ h => h) (by rfl) (by assumption) ?_ ?_
                rotate_left
                · (intro w' hSw; (try dsimp only at hSw); go_simp; try with_reducible rfl)
                try simp only [Act.put, List.setIfInBounds_toArray, List.set_cons_zero, List.set_cons_succ]
                refine take_yes 12 (some 67) (v := ?_) rfl (by kernel_rfl) (by kernel_rfl) (by kernel_rfl) (by kernel_rfl) (fun _ _ _ h => h) (by rfl) (by assumption) ?_ ?_
                rotate_left
                · (intro w' hSw; (try dsimp only at hSw); go_simp; try with_reducible rfl)
                try simp only [Act.put, List.setIfInBounds_toArray, List.set_cons_zero, List.set_cons_succ]
                refine take_two 0 7 rfl rfl (by kernel_rfl) (by rfl) (by rfl) (fun K hK => ?_) (fun K hK => ?_)
                · skip
                  go_simp
                  have FE1 := ownE_lit y3 _ (Since.refl y3).drew (y3.heap.size) (by simp)
                  have hc1 := ((Since.refl y3).drew).alloc (.cells #[] 38)
                  refine hK.out _ _ (HKC.out _ hc1) (fun hHeld1 => ?_)
                  clear hK K hHeld
                  try simp only [Act.put, List.setIfInBounds_toArray, List.set_cons_zero, List.set_cons_succ]
                  refine take_two 5 7 rfl rfl (by kernel_rfl) (by rfl) (by rfl) (fun K hK => ?_) (fun K hK => ?_)
                  · skip
                    refine wp_append_edges (.tmp 55) (.tmp 59) rfl y3.heap.size (.slice (some ⟨y3.heap.size, 0, none⟩) 0 0) ([]) rfl FE1 _ _ _ rfl (g.es.take k) (edges_takeO (HB.out.since (hsy.trans hc1)) hkm _ _ (by intro b' off' hbo'; subst hbo'; simp [Addr.add])) (by simp; omega) hc1.size ?_
                    intro v2 w2x ho2 hg2 hb2
                    rw [List.nil_append] at ho2
                    obtain ⟨ox2, cx2, rfl⟩ := ho2.len' (k) (by simp; omega)
                    have hc2 := Since.grown hc1 hg2 (fun j hj => (FE1.2.lt j hj).1)
                    refine hK.out _ _ (HKC.out _ hc2) (fun hHeld2 => ?_)
                    clear hK K hHeld1
                    try simp only [Act.put, List.setIfInBounds_toArray, List.set_cons_zero, List.set_cons_succ]
                    refine take_run 7 rfl (by kernel_rfl) (by rfl) (fun K hK => ?_)
                    go_simp
                    have LE3 := (ownE_one y3 _ hc2 e hei (w2x.heap.size) (by simp)).at
                    have FE3 := ho2.since ((Since.refl _).alloc (.cells #[.int .i64 e.id, .int .i64 e.fr, .int .i64 e.to, .int .i64 e.lb] 38))
                    have hc3 := (hc2).alloc (.cells #[.int .i64 e.id, .int .i64 e.fr, .int .i64 e.to, .int .i64 e.lb] 38)
                    refine hK.out _ _ (HKC.out _ hc3) (fun hHeld3 => ?_)
                    clear hK K hHeld2
                    try simp only [Act.put, List.setIfInBounds_toArray, List.set_cons_zero, List.set_cons_succ]
                    refine take_run 8 rfl (by kernel_rfl) (by rfl) (fun K hK => ?_)
                    refine wp_append_edges (.tmp 60) (.tmp 62) rfl y3.heap.size (.slice ox2 (k) cx2) (g.es.take k) rfl FE3 (some ⟨w2x.heap.size, 0, none⟩) 1 1 rfl [e] LE3 (by simp; omega) hc3.size ?_
                    intro v4 w4x ho4 hg4 hb4
                    obtain ⟨ox4, cx4, rfl⟩ := ho4.len' (k + 1) (by simp; omega)
                    have hc4 := Since.grown hc3 hg4 (fun j hj => (FE3.2.lt j hj).1)
                    refine hK.out _ _ (HKC.out _ hc4) (fun hHeld4 => ?_)
                    clear hK K hHeld3
                    try simp only [Act.put, List.setIfInBounds_toArray, List.set_cons_zero, List.set_cons_succ]
                    refine take_run 13 rfl (by kernel_rfl) (by rfl) (fun K hK => ?_)
                    refine wp_append_edges (.tmp 63) (.tmp 67) rfl y3.heap.size (.slice ox4 (k + 1) cx4) (g.es.take k ++ [e]) rfl ho4 _ _ _ rfl (g.es.drop k) (edges_dropO (HB.out.since (hsy.trans hc4)) hkm _ _ _ (by simp) (by intro hlt b' off' hbo'; subst hbo'; rw [← HA2.out, if_neg (by omega)]; simp [add_plain])) (by simp; omega) hc4.size ?_
                    intro v5 w5x ho5 hg5 hb5
                    obtain ⟨ox5, cx5, rfl⟩ := ho5.len' (q) HQ.out
                    have hc5 := Since.grown hc4 hg5 (fun j hj => (ho4.2.lt j hj).1)
                    refine hK.out _ _ (HKC.out _ hc5) (fun hHeld5 => ?_)
                    clear hK K hHeld4
                    try simp only [Act.put, List.setIfInBounds_toArray, List.set_cons_zero, List.set_cons_succ]
                    refine take_yes 14 (some 69) (v := ?_) rfl (by kernel_rfl) (by kernel_rfl) (by kernel_rfl) (by kernel_rfl) (fun _ _ _ h => h) (by rfl) (by assumption) ?_ ?_
                    rotate_left
                    · (intro w' hSw; (try dsimp only at hSw); go_simp; try with_reducible rfl)
                    try simp only [Act.put, List.setIfInBounds_toArray, List.set_cons_zero, List.set_cons_succ]
                    refine take_run 15 rfl (by kernel_rfl) (by rfl) (fun K hK => ?_)
                    obtain ⟨s0, s1, s2, s3⟩ := (X3.out.since hc5).two
                    go_simp
                    clear s0 s1 s2 s3
                    refine hK.out _ _ ?_ (fun hHeldz => ?_)
                    · obtain ⟨t0, t1, _, _⟩ := (((b5.out.since hc5).far (p := ⟨w5.heap.size, 1, none⟩) (by simp; omega) (.slice ox5 (q) cx5))).two
                      obtain ⟨u0, u1, u2, u3, _, _, _, _⟩ := (((e5.out.since hc5).far (p := ⟨w5.heap.size, 1, none⟩) (by simp; omega) (.slice ox5 (q) cx5))).four
                      exact ⟨t0, t1, u0, u1, u2, u3⟩
                    clear hK K hHeld5
                    try simp only [Act.put, List.setIfInBounds_toArray, List.set_cons_zero, List.set_cons_succ]
                    refine wpAnyH_done (by kernel_rfl) ?_ _
                    clear hHeldz
                    have ho9 := ho5
                    rw [← HL.out] at ho9
                    obtain ⟨y0, y1, _, _⟩ := ((X3.out.since hc5).set 1 (.slice ox5 (q) cx5)).two
                    obtain ⟨q0, q1, q2, q3⟩ := ((r5.out.since hc5).far (p := ⟨w5.heap.size, 1, none⟩) (by simp; omega) (.slice ox5 (q) cx5)).two
                    have HA5 := Lib.hid ((HA3.out.since hc5).within HR3.out (Within.cell _ ⟨w5.heap.size, 1, none⟩ (.slice ox5 (q) cx5)) (.inl (Nat.le_refl _)))
                    have HB5 := Lib.hid (ho9.far (p := ⟨w5.heap.size, 1, none⟩) (by simp; omega) (.slice ox5 (q) cx5))
                    have hs5 := (hsy.trans hc5).setCell (a := ⟨w5.heap.size, 1, none⟩) (by simp; omega) (.slice ox5 (q) cx5)
                    generalize (w5x.setCell ⟨w5.heap.size, 1, none⟩ (.slice ox5 (q) cx5)) = wf at y0 y1 q0 q1 q2 q3 HA5 HB5 hs5 ⊢
                    clear ho9 ho5
                    go_wp2_with fail
                    all_goals
                      refine bodyPost_ret (v := .tuple #[.agg #[.slice o3 g.vs.length c3, .slice ox5 (q) cx5], .bool true]) (by simp [results, Try.results19, go_sem, *]) rfl ?_
                      refine gbOut_mk HO.out.1 HO.out.2 (((HA5.out.far (by simp; omega) _).far (by simp; omega) _).mono (by omega)) (((HB5.out.far (by simp; omega) _).far (by simp; omega) _).mono (by omega)) ?_
                      exact (hs5.setCell (by simp; omega) _).setCell (by simp; omega) _
                  · skip
                    go_simp
                    have LE2 := (ownE_one y3 _ hc1 e hei (y3.heap.size + 1) (by simp)).at
                    have FE2 := FE1.since ((Since.refl _).alloc (.cells #[.int .i64 e.id, .int .i64 e.fr, .int .i64 e.to, .int .i64 e.lb] 38))
                    have hc2 := (hc1).alloc (.cells #[.int .i64 e.id, .int .i64 e.fr, .int .i64 e.to, .int .i64 e.lb] 38)
                    refine hK.out _ _ (HKC.out _ hc2) (fun hHeld2 => ?_)
                    clear hK K hHeld1
                    try simp only [Act.put, List.setIfInBounds_toArray, List.set_cons_zero, List.set_cons_succ]
                    refine take_run 5 rfl (by kernel_rfl) (by rfl) (fun K hK => ?_)
                    refine wp_append_edges (.tmp 55) (.tmp 59) rfl y3.heap.size (.slice (some ⟨y3.heap.size, 0, none⟩) 0 0) ([]) rfl FE2 _ _ _ rfl (g.es.take k) (edges_takeO (HB.out.since (hsy.trans hc2)) hkm _ _ (by intro b' off' hbo'; subst hbo'; simp [Addr.add])) (by simp; omega) hc2.size ?_
                    intro v3 w3x ho3 hg3 hb3
                    rw [List.nil_append] at ho3
                    obtain ⟨ox3, cx3, rfl⟩ := ho3.len' (k) (by simp; omega)
                    have hc3 := Since.grown hc2 hg3 (fun j hj => (FE2.2.lt j hj).1)
                    have LE3 := LE2.grown hg3 (.inr (by simp [Value.ownBlock]))
                    refine hK.out _ _ (HKC.out _ hc3) (fun hHeld3 => ?_)
                    clear hK K hHeld2
                    try simp only [Act.put, List.setIfInBounds_toArray, List.set_cons_zero, List.set_cons_succ]
                    refine take_run 8 rfl (by kernel_rfl) (by rfl) (fun K hK => ?_)
                    refine wp_append_edges (.tmp 60) (.tmp 62) rfl y3.heap.size (.slice ox3 (k) cx3) (g.es.take k) rfl ho3 (some ⟨y3.heap.size + 1, 0, none⟩) 1 1 rfl [e] LE3 (by simp; omega) hc3.size ?_
                    intro v4 w4x ho4 hg4 hb4
                    obtain ⟨ox4, cx4, rfl⟩ := ho4.len' (k + 1) (by simp; omega)
                    have hc4 := Since.grown hc3 hg4 (fun j hj => (ho3.2.lt j hj).1)
                    refine hK.out _ _ (HKC.out _ hc4) (fun hHeld4 => ?_)
                    clear hK K hHeld3
                    try simp only [Act.put, List.setIfInBounds_toArray, List.set_cons_zero, List.set_cons_succ]
                    refine take_run 13 rfl (by kernel_rfl) (by rfl) (fun K hK => ?_)
                    refine wp_append_edges (.tmp 63) (.tmp 67) rfl y3.heap.size (.slice ox4 (k + 1) cx4) (g.es.take k ++ [e]) rfl ho4 _ _ _ rfl (g.es.drop k) (edges_dropO (HB.out.since (hsy.trans hc4)) hkm _ _ _ (by simp) (by intro hlt b' off' hbo'; subst hbo'; rw [← HA2.out, if_neg (by omega)]; simp [add_plain])) (by simp; omega) hc4.size ?_
                    intro v5 w5x ho5 hg5 hb5
                    obtain ⟨ox5, cx5, rfl⟩ := ho5.len' (q) HQ.out
                    have hc5 := Since.grown hc4 hg5 (fun j hj => (ho4.2.lt j hj).1)
                    refine hK.out _ _ (HKC.out _ hc5) (fun hHeld5 => ?_)
                    clear hK K hHeld4
                    try simp only [Act.put, List.setIfInBounds_toArray, List.set_cons_zero, List.set_cons_succ]
                    refine take_yes 14 (some 69) (v := ?_) rfl (by kernel_rfl) (by kernel_rfl) (by kernel_rfl) (by kernel_rfl) (fun _ _ _ h => h) (by rfl) (by assumption) ?_ ?_
                    rotate_left
                    · (intro w' hSw; (try dsimp only at hSw); go_simp; try with_reducible rfl)
                    try simp only [Act.put, List.setIfInBounds_toArray, List.set_cons_zero, List.set_cons_succ]
                    refine take_run 15 rfl (by kernel_rfl) (by rfl) (fun K hK => ?_)
                    obtain ⟨s0, s1, s2, s3⟩ := (X3.out.since hc5).two
                    go_simp
                    clear s0 s1 s2 s3
                    refine hK.out _ _ ?_ (fun hHeldz => ?_)
                    · obtain ⟨t0, t1, _, _⟩ := (((b5.out.since hc5).far (p := ⟨w5.heap.size, 1, none⟩) (by simp; omega) (.slice ox5 (q) cx5))).two
                      obtain ⟨u0, u1, u2, u3, _, _, _, _⟩ := (((e5.out.since hc5).far (p := ⟨w5.heap.size, 1, none⟩) (by simp; omega) (.slice ox5 (q) cx5))).four
                      exact ⟨t0, t1, u0, u1, u2, u3⟩
                    clear hK K hHeld5
                    try simp only [Act.put, List.setIfInBounds_toArray, List.set_cons_zero, List.set_cons_succ]
                    refine wpAnyH_done (by kernel_rfl) ?_ _
                    clear hHeldz
                    have ho9 := ho5
                    rw [← HL.out] at ho9
                    obtain ⟨y0, y1, _, _⟩ := ((X3.out.since hc5).set 1 (.slice ox5 (q) cx5)).two
                    obtain ⟨q0, q1, q2, q3⟩ := ((r5.out.since hc5).far (p := ⟨w5.heap.size, 1, none⟩) (by simp; omega) (.slice ox5 (q) cx5)).two
                    have HA5 := Lib.hid ((HA3.out.since hc5).within HR3.out (Within.cell _ ⟨w5.heap.size, 1, none⟩ (.slice ox5 (q) cx5)) (.inl (Nat.le_refl _)))
                    have HB5 := Lib.hid (ho9.far (p := ⟨w5.heap.size, 1, none⟩) (by simp; omega) (.slice ox5 (q) cx5))
                    have hs5 := (hsy.trans hc5).setCell (a := ⟨w5.heap.size, 1, none⟩) (by simp; omega) (.slice ox5 (q) cx5)
                    generalize (w5x.setCell ⟨w5.heap.size, 1, none⟩ (.slice ox5 (q) cx5)) = wf at y0 y1 q0 q1 q2 q3 HA5 HB5 hs5 ⊢
                    clear ho9 ho5
                    go_wp2_with fail
                    all_goals
                      refine bodyPost_ret (v := .tuple #[.agg #[.slice o3 g.vs.length c3, .slice ox5 (q) cx5], .bool true]) (by simp [results, Try.results19, go_sem, *]) rfl ?_
                      refine gbOut_mk HO.out.1 HO.out.2 (((HA5.out.far (by simp; omega) _).far (by simp; omega) _).mono (by omega)) (((HB5.out.far (by simp; omega) _).far (by simp; omega) _).mono (by omega)) ?_
                      exact (hs5.setCell (by simp; omega) _).setCell (by simp; omega) _
                · skip
                  go_simp
                  have LE1 := (ownE_one y3 _ (Since.refl y3).drew e hei (y3.heap.size) (by simp)).at
                  have hc1 := ((Since.refl y3).drew).alloc (.cells #[.int .i64 e.id, .int .i64 e.fr, .int .i64 e.to, .int .i64 e.lb] 38)
                  refine hK.out _ _ (HKC.out _ hc1) (fun hHeld1 => ?_)
                  clear hK K hHeld
                  try simp only [Act.put, List.setIfInBounds_toArray, List.set_cons_zero, List.set_cons_succ]
                  refine take_run 0 rfl (by kernel_rfl) (by rfl) (fun K hK => ?_)
                  go_simp
                  have FE2 := ownE_lit y3 _ hc1 (y3.heap.size + 1) (by simp)
                  have LE2 := LE1.since ((Since.refl _).alloc (.cells #[] 38))
                  have hc2 := (hc1).alloc (.cells #[] 38)
                  refine hK.out _ _ (HKC.out _ hc2) (fun hHeld2 => ?_)
                  clear hK K hHeld1
                  try simp only [Act.put, List.setIfInBounds_toArray, List.set_cons_zero, List.set_cons_succ]
                  refine take_run 5 rfl (by kernel_rfl) (by rfl) (fun K hK => ?_)
                  refine wp_append_edges (.tmp 55) (.tmp 59) rfl y3.heap.size (.slice (some ⟨y3.heap.size + 1, 0, none⟩) 0 0) ([]) rfl FE2 _ _ _ rfl (g.es.take k) (edges_takeO (HB.out.since (hsy.trans hc2)) hkm _ _ (by intro b' off' hbo'; subst hbo'; simp [Addr.add])) (by simp; omega) hc2.size ?_
                  intro v3 w3x ho3 hg3 hb3
                  rw [List.nil_append] at ho3
                  obtain ⟨ox3, cx3, rfl⟩ := ho3.len' (k) (by simp; omega)
                  have hc3 := Since.grown hc2 hg3 (fun j hj => (FE2.2.lt j hj).1)
                  have LE3 := LE2.grown hg3 (.inr (by simp [Value.ownBlock]))
                  refine hK.out _ _ (HKC.out _ hc3) (fun hHeld3 => ?_)
                  clear hK K hHeld2
                  try simp only [Act.put, List.setIfInBounds_toArray, List.set_cons_zero, List.set_cons_succ]
                  refine take_run 8 rfl (by kernel_rfl) (by rfl) (fun K hK => ?_)
                  refine wp_append_edges (.tmp 60) (.tmp 62) rfl y3.heap.size (.slice ox3 (k) cx3) (g.es.take k) rfl ho3 (some ⟨y3.heap.size, 0, none⟩) 1 1 rfl [e] LE3 (by simp; omega) hc3.size ?_
                  intro v4 w4x ho4 hg4 hb4
                  obtain ⟨ox4, cx4, rfl⟩ := ho4.len' (k + 1) (by simp; omega)
                  have hc4 := Since.grown hc3 hg4 (fun j hj => (ho3.2.lt j hj).1)
                  refine hK.out _ _ (HKC.out _ hc4) (fun hHeld4 => ?_)
                  clear hK K hHeld3
                  try simp only [Act.put, List.setIfInBounds_toArray, List.set_cons_zero, List.set_cons_succ]
                  refine take_run 13 rfl (by kernel_rfl) (by rfl) (fun K hK => ?_)
                  refine wp_append_edges (.tmp 63) (.tmp 67) rfl y3.heap.size (.slice ox4 (k + 1) cx4) (g.es.take k ++ [e]) rfl ho4 _ _ _ rfl (g.es.drop k) (edges_dropO (HB.out.since (hsy.trans hc4)) hkm _ _ _ (by simp) (by intro hlt b' off' hbo'; subst hbo'; rw [← HA2.out, if_neg (by omega)]; simp [add_plain])) (by simp; omega) hc4.size ?_
                  intro v5 w5x ho5 hg5 hb5
                  obtain ⟨ox5, cx5, rfl⟩ := ho5.len' (q) HQ.out
                  have hc5 := Since.grown hc4 hg5 (fun j hj => (ho4.2.lt j hj).1)
                  refine hK.out _ _ (HKC.out _ hc5) (fun hHeld5 => ?_)
                  clear hK K hHeld4
                  try simp only [Act.put, List.setIfInBounds_toArray, List.set_cons_zero, List.set_cons_succ]
                  refine take_yes 14 (some 69) (v := ?_) rfl (by kernel_rfl) (by kernel_rfl) (by kernel_rfl) (by kernel_rfl) (fun _ _ _ h => h) (by rfl) (by assumption) ?_ ?_
                  rotate_left
                  · (intro w' hSw; (try dsimp only at hSw); go_simp; try with_reducible rfl)
                  try simp only [Act.put, List.setIfInBounds_toArray, List.set_cons_zero, List.set_cons_succ]
                  refine take_run 15 rfl (by kernel_rfl) (by rfl) (fun K hK => ?_)
                  obtain ⟨s0, s1, s2, s3⟩ := (X3.out.since hc5).two
                  go_simp
                  clear s0 s1 s2 s3
                  refine hK.out _ _ ?_ (fun hHeldz => ?_)
                  · obtain ⟨t0, t1, _, _⟩ := (((b5.out.since hc5).far (p := ⟨w5.heap.size, 1, none⟩) (by simp; omega) (.slice ox5 (q) cx5))).two
                    obtain ⟨u0, u1, u2, u3, _, _, _, _⟩ := (((e5.out.since hc5).far (p := ⟨w5.heap.size, 1, none⟩) (by simp; omega) (.slice ox5 (q) cx5))).four
                    exact ⟨t0, t1, u0, u1, u2, u3⟩
                  clear hK K hHeld5
                  try simp only [Act.put, List.setIfInBounds_toArray, List.set_cons_zero, List.set_cons_succ]
                  refine wpAnyH_done (by kernel_rfl) ?_ _
                  clear hHeldz
                  have ho9 := ho5
                  rw [← HL.out] at ho9
                  obtain ⟨y0, y1, _, _⟩ := ((X3.out.since hc5).set 1 (.slice ox5 (q) cx5)).two
                  obtain ⟨q0, q1, q2, q3⟩ := ((r5.out.since hc5).far (p := ⟨w5.heap.size, 1, none⟩) (by simp; omega) (.slice ox5 (q) cx5)).two
                  have HA5 := Lib.hid ((HA3.out.since hc5).within HR3.out (Within.cell _ ⟨w5.heap.size, 1, none⟩ (.slice ox5 (q) cx5)) (.inl (Nat.le_refl _)))
                  have HB5 := Lib.hid (ho9.far (p := ⟨w5.heap.size, 1, none⟩) (by simp; omega) (.slice ox5 (q) cx5))
                  have hs5 := (hsy.trans hc5).setCell (a := ⟨w5.heap.size, 1, none⟩) (by simp; omega) (.slice ox5 (q) cx5)
                  generalize (w5x.setCell ⟨w5.heap.size, 1, none⟩ (.slice ox5 (q) cx5)) = wf at y0 y1 q0 q1 q2 q3 HA5 HB5 hs5 ⊢
                  clear ho9 ho5
                  go_wp2_with fail
                  all_goals
                    refine bodyPost_ret (v := .tuple #[.agg #[.slice o3 g.vs.length c3, .slice ox5 (q) cx5], .bool true]) (by simp [results, Try.results19, go_sem, *]) rfl ?_
                    refine gbOut_mk HO.out.1 HO.out.2 (((HA5.out.far (by simp; omega) _).far (by simp; omega) _).mono (by omega)) (((HB5.out.far (by simp; omega) _).far (by simp; omega) _).mono (by omega)) ?_
                    exact (hs5.setCell (by simp; omega) _).setCell (by simp; omega) _
              · have HT2 : Hid (lowTo g.es e.id (k + 1) ∧ k < m) := by
                  rcases hcc.out with ⟨_, hx, h⟩ | ⟨h, _⟩
                  · exact ⟨low_step HT.out hx h, by have := HM.out; omega⟩
                  · cases h
                have hs5 := HS.out.trans (Since.refl wr).drew
                clear hcc
                go_wp2
                go_roundw
                case rel => exact ⟨k + 1, HT2.out.2, by go_num, HT2.out.1, hs5⟩
                case measure => have := HT2.out.2; simp [intOf]; omega
    · have HEB := Lib.hid heb
      have HO : Hid (canIns g e = false ∧ insG g e = g) := by
        have : canIns g e = false := by unfold canIns; rw [heb]; simp
        exact ⟨this, by unfold insG; rw [if_neg (by rw [this]; decide)]⟩
      clear hv heb HE
      go_enter Try.func19, Try.ntmps19
      go_wp2_with fail
      generalize (((w.alloc (.cells #[.slice ao n ac, .slice bo m bc] 30)).alloc (.cells #[.int .i64 e.id, .int .i64 e.fr, .int .i64 e.to, .int .i64 e.lb] 38)).alloc (.cells #[.slice none 0 0, .slice none 0 0] 30)) = WR at hs0 b0 e0 r0 hz ⊢
      have hzz : w.heap.size + 3 ≤ WR.heap.size := by have := hz.out; omega
      refine (specVG_any _ g _ (HG.out.since hs0) h1 h2).mono ?_
      rintro en w1 ⟨rfl, hs1⟩
      rw [HV.out]
      have b1 := Lib.hid (b0.out.since hs1)
      have e1 := Lib.hid (e0.out.since hs1)
      have r1 := Lib.hid (r0.out.since hs1)
      have hs01 := hs0.trans hs1
      have z1 := hs1.size
      clear b0 e0 r0 hs0 hs1
      obtain ⟨p0, p1, _, _⟩ := b1.out.two
      obtain ⟨q0, q1, q2, q3, _, _, _, _⟩ := e1.out.four
      go_wp2_with fail
      clear p0 p1 q0 q1 q2 q3
      refine (l3Edge_is _ g e _ _ (HG.out.since hs01) hmx HEB.out).mono ?_
      rintro en w2 ⟨rfl, hs2⟩
      have b2 := Lib.hid (b1.out.since hs2)
      have e2 := Lib.hid (e1.out.since hs2)
      have r2 := Lib.hid (r1.out.since hs2)
      have hs02 := hs01.trans hs2
      have z2 := hs2.size
      clear b1 e1 r1 hs01 hs2
      obtain ⟨p0, p1, _, _⟩ := b2.out.two
      obtain ⟨q0, q1, q2, q3, _, _, _, _⟩ := e2.out.four
      go_wp2_with fail
      clear p0 p1 q0 q1 q2 q3
      refine (l3Copy_any _ g _ (HG.out.since hs02) h1 h2).mono ?_
      rintro en w9 ⟨v1, rfl, ho1, hs9⟩
      obtain ⟨xa, xb, rfl, ka, ra, kb, rb⟩ := ho1
      obtain ⟨o1, c1, rfl⟩ := ka.len
      obtain ⟨o2, c2, rfl⟩ := kb.len
      have KA := Lib.hid ka
      have KB := Lib.hid kb
      have r9 := Lib.hid (r2.out.since hs9)
      obtain ⟨q0, q1, q2, q3⟩ := r9.out.two
      have hs09 := hs02.trans hs9
      clear ka kb ra rb r2 hs9
      go_wp2
      refine bodyPost_ret (v := .tuple #[.agg #[.slice o1 g.vs.length c1, .slice o2 g.es.length c2], .bool false]) (by simp [results, Try.results19, go_sem, *]) rfl ?_
      refine gbOut_mk HO.out.1 (HO.out.2.trans (by cases g; rfl)) (((KA.out.far (by simp; omega) _).far (by simp; omega) _).mono (by omega)) (((KB.out.far (by simp; omega) _).far (by simp; omega) _).mono (by omega)) ?_
      exact (hs09.setCell (by simp; omega) _).setCell (by simp; omega) _
  · have HV := Lib.hid hv
    have HO : Hid (canIns g e = false ∧ insG g e = g) := by
      have : canIns g e = false := by unfold canIns; rw [hv]; simp
      exact ⟨this, by unfold insG; rw [if_neg (by rw [this]; decide)]⟩
    clear hv HE
    go_enter Try.func19, Try.ntmps19
    go_wp2_with fail
    generalize (((w.alloc (.cells #[.slice ao n ac, .slice bo m bc] 30)).alloc (.cells #[.int .i64 e.id, .int .i64 e.fr, .int .i64 e.to, .int .i64 e.lb] 38)).alloc (.cells #[.slice none 0 0, .slice none 0 0] 30)) = WR at hs0 b0 e0 r0 hz ⊢
    have hzz : w.heap.size + 3 ≤ WR.heap.size := by have := hz.out; omega
    refine (specVG_any _ g _ (HG.out.since hs0) h1 h2).mono ?_
    rintro en w1 ⟨rfl, hs1⟩
    rw [HV.out]
    have b1 := Lib.hid (b0.out.since hs1)
    have e1 := Lib.hid (e0.out.since hs1)
    have r1 := Lib.hid (r0.out.since hs1)
    have hs01 := hs0.trans hs1
    have z1 := hs1.size
    clear b0 e0 r0 hs0 hs1
    obtain ⟨p0, p1, _, _⟩ := b1.out.two
    obtain ⟨q0, q1, q2, q3, _, _, _, _⟩ := e1.out.four
    go_wp2_with fail
    clear p0 p1 q0 q1 q2 q3
    refine (l3Copy_any _ g _ (HG.out.since hs01) h1 h2).mono ?_
    rintro en w9 ⟨v1, rfl, ho1, hs9⟩
    obtain ⟨xa, xb, rfl, ka, ra, kb, rb⟩ := ho1
    obtain ⟨o1, c1, rfl⟩ := ka.len
    obtain ⟨o2, c2, rfl⟩ := kb.len
    have KA := Lib.hid ka
    have KB := Lib.hid kb
    have r9 := Lib.hid (r1.out.since hs9)
    obtain ⟨q0, q1, q2, q3⟩ := r9.out.two
    have hs09 := hs01.trans hs9
    clear ka kb ra rb r1 hs9
    go_wp2
    refine bodyPost_ret (v := .tuple #[.agg #[.slice o1 g.vs.length c1, .slice o2 g.es.length c2], .bool false]) (by simp [results, Try.results19, go_sem, *]) rfl ?_
    refine gbOut_mk HO.out.1 (HO.out.2.trans (by cases g; rfl)) (((KA.out.far (by simp; omega) _).far (by simp; omega) _).mono (by omega)) (((KB.out.far (by simp; omega) _).far (by simp; omega) _).mono (by omega)) ?_
    exact (hs09.setCell (by simp; omega) _).setCell (by simp; omega) _
end Go.Proofs.Ytpmkpeclfhmhlaa
