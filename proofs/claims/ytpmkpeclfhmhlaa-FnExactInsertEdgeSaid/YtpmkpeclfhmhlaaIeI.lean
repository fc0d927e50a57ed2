/- InsertEdge, the program's. -/
import Derived.Test.YtpmkpeclfhmhlaaK2
import Derived.Test.YtpmkpeclfhmhlaaCopyC
import Derived.Test.YtpmkpeclfhmhlaaK1
import Derived.Test.YtpmkpeclfhmhlaaBs
import Derived.Test.YtpmkpeclfhmhlaaIns
import Derived.Test.YtpmkpeclfhmhlaaRvS
namespace Go.Proofs.Ytpmkpeclfhmhlaa
set_option maxRecDepth 100000
open Go.ChangeShapes Go.WideShapes Go.ChangeAt Go.RowKit
set_option linter.unusedVariables false
set_option linter.unusedSimpArgs false

set_option maxHeartbeats 2000000 in
set_option maxRecDepth 100000 in
theorem implIE_any (v : Value) (g : Grf) (e : Edg) (w : World) (h : GrfAt w v g) (h1 : g.vs.length ≤ 1048577) (h2 : g.es.length ≤ 1048577) (hei : e.In) :
    Calls Try.prog 21 #[v, ev e] w (GBOut w (insG g e) (canIns g e)) := by
  have HG := Lib.hid h
  obtain ⟨a, b, rfl, ha, hb⟩ := h
  obtain ⟨ao, ac, rfl, _⟩ := ha.row
  have HB := Lib.hid hb
  obtain ⟨bo, bc, rfl⟩ := hb.len
  clear ha hb
  obtain ⟨n, hn⟩ : ∃ n, n = g.vs.length := ⟨_, rfl⟩
  obtain ⟨m, hm⟩ : ∃ m, m = g.es.length := ⟨_, rfl⟩
  rw [← hm] at HB
  rw [← hn, ← hm] at HG ⊢
  have hm9 : m ≤ 1048577 := by omega
  have HM := Lib.hid hm
  have HN := Lib.hid hn
  clear hn hm
  unfold ev
  have hs0 : Since w (((w.alloc (.cells #[.slice ao n ac, .slice bo m bc] 30)).alloc (.cells #[.int .i64 e.id, .int .i64 e.fr, .int .i64 e.to, .int .i64 e.lb] 38)).alloc (.cells #[.slice none 0 0, .slice none 0 0] 30)) := (((Since.refl w).alloc _).alloc _).alloc _
  have b0 : Hid (Blk (((w.alloc (.cells #[.slice ao n ac, .slice bo m bc] 30)).alloc (.cells #[.int .i64 e.id, .int .i64 e.fr, .int .i64 e.to, .int .i64 e.lb] 38)).alloc (.cells #[.slice none 0 0, .slice none 0 0] 30)) w.heap.size 30 #[.slice ao n ac, .slice bo m bc]) := ((Blk.new rfl _ _).alloc _).alloc _
  have e0 : Hid (Blk (((w.alloc (.cells #[.slice ao n ac, .slice bo m bc] 30)).alloc (.cells #[.int .i64 e.id, .int .i64 e.fr, .int .i64 e.to, .int .i64 e.lb] 38)).alloc (.cells #[.slice none 0 0, .slice none 0 0] 30)) (w.heap.size + 1) 38 #[.int .i64 e.id, .int .i64 e.fr, .int .i64 e.to, .int .i64 e.lb]) := (Blk.new (by simp) _ _).alloc _
  have r0 : Hid (Blk (((w.alloc (.cells #[.slice ao n ac, .slice bo m bc] 30)).alloc (.cells #[.int .i64 e.id, .int .i64 e.fr, .int .i64 e.to, .int .i64 e.lb] 38)).alloc (.cells #[.slice none 0 0, .slice none 0 0] 30)) (w.heap.size + 1 + 1) 30 #[.slice none 0 0, .slice none 0 0]) := Blk.new (by simp) _ _
  have hz : Hid (w.heap.size + 3 = (((w.alloc (.cells #[.slice ao n ac, .slice bo m bc] 30)).alloc (.cells #[.int .i64 e.id, .int .i64 e.fr, .int .i64 e.to, .int .i64 e.lb] 38)).alloc (.cells #[.slice none 0 0, .slice none 0 0] 30)).heap.size) := by unfold Hid; simp
  rcases Bool.eq_false_or_eq_true (validB g) with hv | hv
  · have HV := Lib.hid hv
    have hsrt : g.es.Pairwise idLt := ((validB_iff g).1 hv).2.2.2
    rcases Bool.eq_false_or_eq_true (edB g.vs.length e) with heb | heb
    · have HEB : Hid (edB n e = true) := by rw [HN.out]; exact heb
      by_cases h12 : m = 12
      · have HO : Hid (canIns g e = false ∧ insG g e = g) := by
          have : canIns g e = false := by unfold canIns; have := HM.out; simp; omega
          exact ⟨this, by unfold insG; rw [if_neg (by rw [this]; decide)]⟩
        have hd12 : ((m : Int) == 12) = true := by simp; omega
        clear hv heb hsrt h12
        go_enter Try.func21, Try.ntmps21
        go_wp2_with fail
        generalize (((w.alloc (.cells #[.slice ao n ac, .slice bo m bc] 30)).alloc (.cells #[.int .i64 e.id, .int .i64 e.fr, .int .i64 e.to, .int .i64 e.lb] 38)).alloc (.cells #[.slice none 0 0, .slice none 0 0] 30)) = WR at hs0 b0 e0 r0 hz ⊢
        have hzz : w.heap.size + 3 ≤ WR.heap.size := by have := hz.out; omega
        refine (copyGraphC_any _ g _ (HG.out.since hs0) h1 h2).mono ?_
        rintro en w1 ⟨v1, rfl, ho1, ⟨xa', o2, hxe⟩, hs1⟩
        obtain ⟨xa, xb, rfl, ka, ra, kb, rb⟩ := ho1
        obtain ⟨o1, c1, rfl⟩ := ka.len
        obtain rfl : xb = .slice o2 m m := by injection hxe with hxe; injection hxe with hxe; injection hxe with _ hxe; injection hxe with hxe; rw [hxe, ← HM.out]
        clear hxe
        have z1 := hs1.size
        have b1 := Lib.hid ((b0.out.since hs1).alloc (.cells #[.slice o1 g.vs.length c1, .slice o2 m m] 30))
        have e1 := Lib.hid ((e0.out.since hs1).alloc (.cells #[.slice o1 g.vs.length c1, .slice o2 m m] 30))
        have r1 := Lib.hid ((r0.out.since hs1).alloc (.cells #[.slice o1 g.vs.length c1, .slice o2 m m] 30))
        have x1 : Hid (Blk (w1.alloc (.cells #[.slice o1 g.vs.length c1, .slice o2 m m] 30)) w1.heap.size 30 #[.slice o1 g.vs.length c1, .slice o2 m m]) := Blk.new rfl _ _
        have KA := Lib.hid (ka.since ((Since.refl w1).alloc (.cells #[.slice o1 g.vs.length c1, .slice o2 m m] 30)))
        have KB := Lib.hid (kb.since ((Since.refl w1).alloc (.cells #[.slice o1 g.vs.length c1, .slice o2 m m] 30)))
        have hs01 := (hs0.trans hs1).alloc (.cells #[.slice o1 g.vs.length c1, .slice o2 m m] 30)
        have zy : Hid (w1.heap.size + 1 = (w1.alloc (.cells #[.slice o1 g.vs.length c1, .slice o2 m m] 30)).heap.size) := by unfold Hid; simp
        have RA := Lib.hid ra
        have RB := Lib.hid rb
        clear ka kb ra rb b0 e0 r0 hs0 hs1
        obtain ⟨p0, p1, _, _⟩ := b1.out.two
        go_wp2_with fail
        clear p0 p1
        generalize (w1.alloc (.cells #[.slice o1 g.vs.length c1, .slice o2 m m] 30)) = y1 at b1 e1 r1 x1 KA KB hs01 zy ⊢
        have hzy : w1.heap.size + 1 ≤ y1.heap.size := by have := zy.out; omega
        refine (implVG_any _ g _ (HG.out.since hs01) h1 h2).mono ?_
        rintro en w2 ⟨rfl, hs2⟩
        rw [HV.out]
        have b2 := Lib.hid (b1.out.since hs2)
        have e2 := Lib.hid (e1.out.since hs2)
        have r2 := Lib.hid (r1.out.since hs2)
        have x2 := Lib.hid (x1.out.since hs2)
        have KA2 := Lib.hid (KA.out.since hs2)
        have KB2 := Lib.hid (KB.out.since hs2)
        have hs02 := hs01.trans hs2
        have z2 := hs2.size
        clear b1 e1 r1 x1 KA KB hs01 hs2
        obtain ⟨p0, p1, _, _⟩ := b2.out.two
        obtain ⟨q0, q1, q2, q3, _, _, _, _⟩ := e2.out.four
        obtain ⟨s0, s1, _, _⟩ := x2.out.two
        obtain ⟨t0, t1, t2, t3⟩ := r2.out.two
        go_wp2_with fail
        clear p0 p1 q0 q1 q2 q3 s0 s1 t0 t1 t2 t3
        refine (isEdge_is e n _ _ HEB.out).mono ?_
        rintro en w3 ⟨rfl, hs3⟩
        have b3 := Lib.hid (b2.out.since hs3)
        have e3 := Lib.hid (e2.out.since hs3)
        have r3 := Lib.hid (r2.out.since hs3)
        have x3 := Lib.hid (x2.out.since hs3)
        have KA3 := Lib.hid (KA2.out.since hs3)
        have KB3 := Lib.hid (KB2.out.since hs3)
        have hs03 := hs02.trans hs3
        have z3 := hs3.size
        clear b2 e2 r2 x2 KA2 KB2 hs02 hs3
        obtain ⟨p0, p1, _, _⟩ := b3.out.two
        obtain ⟨s0, s1, _, _⟩ := x3.out.two
        obtain ⟨q0, q1, q2, q3⟩ := r3.out.two
        go_wp2
        refine bodyPost_ret (v := .tuple #[.agg #[.slice o1 g.vs.length c1, .slice o2 m m], .bool false]) (by simp [results, Try.results21, go_sem, *]) rfl ?_
        refine gbOut_mk HO.out.1 (HO.out.2.trans (by cases g; rfl)) (((KA3.out.far (by simp; omega) _).far (by simp; omega) _).mono (by omega)) (((KB3.out.far (by simp; omega) _).far (by simp; omega) _).mono (by omega)) ?_
        exact (hs03.setCell (by simp; omega) _).setCell (by simp; omega) _
      · have hd12 : ((m : Int) == 12) = false := by simp; omega
        rcases idxE_cases g.es e.id with ⟨k, hk, hi, hid, _⟩ | ⟨hi, hni⟩
        · obtain ⟨L, hL⟩ : ∃ L, L = lbE g.es e.id := ⟨_, rfl⟩
          have hdec : decide (0 ≤ idxE g.es e.id) = true := decide_eq_true (by omega)
          have HF : Hid (∀ W, EdgesAt W (.slice bo m bc) g.es → Calls Try.prog 61 #[.slice bo m bc, .int .i64 e.id] W (BSOut W L true)) := fun W hW => by
            rw [hL, ← hdec]; exact findEdge_any _ g.es e.id W hW hsrt h2
          have HO : Hid (canIns g e = false ∧ insG g e = g) := by
            have e1 : decide (idxE g.es e.id < 0) = false := decide_eq_false (by omega)
            have : canIns g e = false := by unfold canIns; rw [e1]; simp
            exact ⟨this, by unfold insG; rw [if_neg (by rw [this]; decide)]⟩
          clear hv heb hsrt h12 hi hid hdec hL
          go_enter Try.func21, Try.ntmps21
          go_wp2_with fail
          generalize (((w.alloc (.cells #[.slice ao n ac, .slice bo m bc] 30)).alloc (.cells #[.int .i64 e.id, .int .i64 e.fr, .int .i64 e.to, .int .i64 e.lb] 38)).alloc (.cells #[.slice none 0 0, .slice none 0 0] 30)) = WR at hs0 b0 e0 r0 hz ⊢
          have hzz : w.heap.size + 3 ≤ WR.heap.size := by have := hz.out; omega
          refine (copyGraphC_any _ g _ (HG.out.since hs0) h1 h2).mono ?_
          rintro en w1 ⟨v1, rfl, ho1, ⟨xa', o2, hxe⟩, hs1⟩
          obtain ⟨xa, xb, rfl, ka, ra, kb, rb⟩ := ho1
          obtain ⟨o1, c1, rfl⟩ := ka.len
          obtain rfl : xb = .slice o2 m m := by injection hxe with hxe; injection hxe with hxe; injection hxe with _ hxe; injection hxe with hxe; rw [hxe, ← HM.out]
          clear hxe
          have z1 := hs1.size
          have b1 := Lib.hid ((b0.out.since hs1).alloc (.cells #[.slice o1 g.vs.length c1, .slice o2 m m] 30))
          have e1 := Lib.hid ((e0.out.since hs1).alloc (.cells #[.slice o1 g.vs.length c1, .slice o2 m m] 30))
          have r1 := Lib.hid ((r0.out.since hs1).alloc (.cells #[.slice o1 g.vs.length c1, .slice o2 m m] 30))
          have x1 : Hid (Blk (w1.alloc (.cells #[.slice o1 g.vs.length c1, .slice o2 m m] 30)) w1.heap.size 30 #[.slice o1 g.vs.length c1, .slice o2 m m]) := Blk.new rfl _ _
          have KA := Lib.hid (ka.since ((Since.refl w1).alloc (.cells #[.slice o1 g.vs.length c1, .slice o2 m m] 30)))
          have KB := Lib.hid (kb.since ((Since.refl w1).alloc (.cells #[.slice o1 g.vs.length c1, .slice o2 m m] 30)))
          have hs01 := (hs0.trans hs1).alloc (.cells #[.slice o1 g.vs.length c1, .slice o2 m m] 30)
          have zy : Hid (w1.heap.size + 1 = (w1.alloc (.cells #[.slice o1 g.vs.length c1, .slice o2 m m] 30)).heap.size) := by unfold Hid; simp
          have RA := Lib.hid ra
          have RB := Lib.hid rb
          clear ka kb ra rb b0 e0 r0 hs0 hs1
          obtain ⟨p0, p1, _, _⟩ := b1.out.two
          go_wp2_with fail
          clear p0 p1
          generalize (w1.alloc (.cells #[.slice o1 g.vs.length c1, .slice o2 m m] 30)) = y1 at b1 e1 r1 x1 KA KB hs01 zy ⊢
          have hzy : w1.heap.size + 1 ≤ y1.heap.size := by have := zy.out; omega
          refine (implVG_any _ g _ (HG.out.since hs01) h1 h2).mono ?_
          rintro en w2 ⟨rfl, hs2⟩
          rw [HV.out]
          have b2 := Lib.hid (b1.out.since hs2)
          have e2 := Lib.hid (e1.out.since hs2)
          have r2 := Lib.hid (r1.out.since hs2)
          have x2 := Lib.hid (x1.out.since hs2)
          have KA2 := Lib.hid (KA.out.since hs2)
          have KB2 := Lib.hid (KB.out.since hs2)
          have hs02 := hs01.trans hs2
          have z2 := hs2.size
          clear b1 e1 r1 x1 KA KB hs01 hs2
          obtain ⟨p0, p1, _, _⟩ := b2.out.two
          obtain ⟨q0, q1, q2, q3, _, _, _, _⟩ := e2.out.four
          obtain ⟨s0, s1, _, _⟩ := x2.out.two
          obtain ⟨t0, t1, t2, t3⟩ := r2.out.two
          go_wp2_with fail
          clear p0 p1 q0 q1 q2 q3 s0 s1 t0 t1 t2 t3
          refine (isEdge_is e n _ _ HEB.out).mono ?_
          rintro en w3 ⟨rfl, hs3⟩
          have b3 := Lib.hid (b2.out.since hs3)
          have e3 := Lib.hid (e2.out.since hs3)
          have r3 := Lib.hid (r2.out.since hs3)
          have x3 := Lib.hid (x2.out.since hs3)
          have KA3 := Lib.hid (KA2.out.since hs3)
          have KB3 := Lib.hid (KB2.out.since hs3)
          have hs03 := hs02.trans hs3
          have z3 := hs3.size
          clear b2 e2 r2 x2 KA2 KB2 hs02 hs3
          obtain ⟨p0, p1, _, _⟩ := b3.out.two
          obtain ⟨q0, q1, q2, q3, _, _, _, _⟩ := e3.out.four
          go_wp2_with fail
          clear p0 p1 q0 q1 q2 q3
          refine (HF.out _ (HB.out.since hs03)).mono ?_
          rintro en w4 ⟨rfl, hs4⟩
          have e4 := Lib.hid (e3.out.since hs4)
          have r4 := Lib.hid (r3.out.since hs4)
          have x4 := Lib.hid (x3.out.since hs4)
          have KA4 := Lib.hid (KA3.out.since hs4)
          have KB4 := Lib.hid (KB3.out.since hs4)
          have hs04 := hs03.trans hs4
          have z4 := hs4.size
          clear b3 e3 r3 x3 KA3 KB3 hs03 hs4
          obtain ⟨s0, s1, _, _⟩ := x4.out.two
          obtain ⟨q0, q1, q2, q3⟩ := r4.out.two
          go_wp2
          refine bodyPost_ret (v := .tuple #[.agg #[.slice o1 g.vs.length c1, .slice o2 m m], .bool false]) (by simp [results, Try.results21, go_sem, *]) rfl ?_
          refine gbOut_mk HO.out.1 (HO.out.2.trans (by cases g; rfl)) (((KA4.out.far (by simp; omega) _).far (by simp; omega) _).mono (by omega)) (((KB4.out.far (by simp; omega) _).far (by simp; omega) _).mono (by omega)) ?_
          exact (hs04.setCell (by simp; omega) _).setCell (by simp; omega) _
        · obtain ⟨k, hkl⟩ : ∃ k, lbE g.es e.id = k := ⟨_, rfl⟩
          have hkm : k ≤ m := by rw [← hkl, HM.out]; exact lbE_le _ _
          have hdec : decide (0 ≤ idxE g.es e.id) = false := decide_eq_false (by omega)
          have HF : Hid (∀ W, EdgesAt W (.slice bo m bc) g.es → Calls Try.prog 61 #[.slice bo m bc, .int .i64 e.id] W (BSOut W k false)) := fun W hW => by
            rw [← hkl, ← hdec]; exact findEdge_any _ g.es e.id W hW hsrt h2
          have hcan : canIns g e = true := by
            have e1 : decide (g.es.length ≠ 12) = true := decide_eq_true (by have := HM.out; omega)
            unfold canIns; rw [hv, heb, hi, e1]; rfl
          have HO : Hid (canIns g e = true ∧ insG g e = ⟨g.vs, insL g.es e⟩) := ⟨hcan, by unfold insG; rw [if_pos hcan]⟩
          clear hv heb hsrt h12 hi hdec hni hcan
          by_cases hlt : k < m
          · have HL : Hid (insL g.es e = g.es.take k ++ e :: g.es.drop k) := by unfold Hid insL; rw [hkl]
            clear hkl
            go_enter Try.func21, Try.ntmps21
            go_wp2_with fail
            generalize (((w.alloc (.cells #[.slice ao n ac, .slice bo m bc] 30)).alloc (.cells #[.int .i64 e.id, .int .i64 e.fr, .int .i64 e.to, .int .i64 e.lb] 38)).alloc (.cells #[.slice none 0 0, .slice none 0 0] 30)) = WR at hs0 b0 e0 r0 hz ⊢
            have hzz : w.heap.size + 3 ≤ WR.heap.size := by have := hz.out; omega
            refine (copyGraphC_any _ g _ (HG.out.since hs0) h1 h2).mono ?_
            rintro en w1 ⟨v1, rfl, ho1, ⟨xa', o2, hxe⟩, hs1⟩
            obtain ⟨xa, xb, rfl, ka, ra, kb, rb⟩ := ho1
            obtain ⟨o1, c1, rfl⟩ := ka.len
            obtain rfl : xb = .slice o2 m m := by injection hxe with hxe; injection hxe with hxe; injection hxe with _ hxe; injection hxe with hxe; rw [hxe, ← HM.out]
            clear hxe
            have z1 := hs1.size
            have b1 := Lib.hid ((b0.out.since hs1).alloc (.cells #[.slice o1 g.vs.length c1, .slice o2 m m] 30))
            have e1 := Lib.hid ((e0.out.since hs1).alloc (.cells #[.slice o1 g.vs.length c1, .slice o2 m m] 30))
            have r1 := Lib.hid ((r0.out.since hs1).alloc (.cells #[.slice o1 g.vs.length c1, .slice o2 m m] 30))
            have x1 : Hid (Blk (w1.alloc (.cells #[.slice o1 g.vs.length c1, .slice o2 m m] 30)) w1.heap.size 30 #[.slice o1 g.vs.length c1, .slice o2 m m]) := Blk.new rfl _ _
            have KA := Lib.hid (ka.since ((Since.refl w1).alloc (.cells #[.slice o1 g.vs.length c1, .slice o2 m m] 30)))
            have KB := Lib.hid (kb.since ((Since.refl w1).alloc (.cells #[.slice o1 g.vs.length c1, .slice o2 m m] 30)))
            have hs01 := (hs0.trans hs1).alloc (.cells #[.slice o1 g.vs.length c1, .slice o2 m m] 30)
            have zy : Hid (w1.heap.size + 1 = (w1.alloc (.cells #[.slice o1 g.vs.length c1, .slice o2 m m] 30)).heap.size) := by unfold Hid; simp
            have RA := Lib.hid ra
            have RB := Lib.hid rb
            clear ka kb ra rb b0 e0 r0 hs0 hs1
            obtain ⟨p0, p1, _, _⟩ := b1.out.two
            go_wp2_with fail
            clear p0 p1
            generalize (w1.alloc (.cells #[.slice o1 g.vs.length c1, .slice o2 m m] 30)) = y1 at b1 e1 r1 x1 KA KB hs01 zy ⊢
            have hzy : w1.heap.size + 1 ≤ y1.heap.size := by have := zy.out; omega
            refine (implVG_any _ g _ (HG.out.since hs01) h1 h2).mono ?_
            rintro en w2 ⟨rfl, hs2⟩
            rw [HV.out]
            have b2 := Lib.hid (b1.out.since hs2)
            have e2 := Lib.hid (e1.out.since hs2)
            have r2 := Lib.hid (r1.out.since hs2)
            have x2 := Lib.hid (x1.out.since hs2)
            have KA2 := Lib.hid (KA.out.since hs2)
            have KB2 := Lib.hid (KB.out.since hs2)
            have hs02 := hs01.trans hs2
            have z2 := hs2.size
            clear b1 e1 r1 x1 KA KB hs01 hs2
            obtain ⟨p0, p1, _, _⟩ := b2.out.two
            obtain ⟨q0, q1, q2, q3, _, _, _, _⟩ := e2.out.four
            obtain ⟨s0, s1, _, _⟩ := x2.out.two
            obtain ⟨t0, t1, t2, t3⟩ := r2.out.two
            go_wp2_with fail
            clear p0 p1 q0 q1 q2 q3 s0 s1 t0 t1 t2 t3
            refine (isEdge_is e n _ _ HEB.out).mono ?_
            rintro en w3 ⟨rfl, hs3⟩
            have b3 := Lib.hid (b2.out.since hs3)
            have e3 := Lib.hid (e2.out.since hs3)
            have r3 := Lib.hid (r2.out.since hs3)
            have x3 := Lib.hid (x2.out.since hs3)
            have KA3 := Lib.hid (KA2.out.since hs3)
            have KB3 := Lib.hid (KB2.out.since hs3)
            have hs03 := hs02.trans hs3
            have z3 := hs3.size
            clear b2 e2 r2 x2 KA2 KB2 hs02 hs3
            obtain ⟨p0, p1, _, _⟩ := b3.out.two
            obtain ⟨q0, q1, q2, q3, _, _, _, _⟩ := e3.out.four
            go_wp2_with fail
            clear p0 p1 q0 q1 q2 q3
            refine (HF.out _ (HB.out.since hs03)).mono ?_
            rintro en w4 ⟨rfl, hs4⟩
            have e4 := Lib.hid (e3.out.since hs4)
            have r4 := Lib.hid (r3.out.since hs4)
            have x4 := Lib.hid (x3.out.since hs4)
            have KA4 := Lib.hid (KA3.out.since hs4)
            have KB4 := Lib.hid (KB3.out.since hs4)
            have hs04 := hs03.trans hs4
            have z4 := hs4.size
            clear b3 e3 r3 x3 KA3 KB3 hs03 hs4
            have LE := (ownE_one w4 w4 (Since.refl _) e hei w4.heap.size rfl).at
            have x5 := Lib.hid (x4.out.alloc (.cells #[.int .i64 e.id, .int .i64 e.fr, .int .i64 e.to, .int .i64 e.lb] 38))
            have r5 := Lib.hid (r4.out.alloc (.cells #[.int .i64 e.id, .int .i64 e.fr, .int .i64 e.to, .int .i64 e.lb] 38))
            have KA5 := Lib.hid (KA4.out.since ((Since.refl w4).alloc (.cells #[.int .i64 e.id, .int .i64 e.fr, .int .i64 e.to, .int .i64 e.lb] 38)))
            have KB5 := Lib.hid (KB4.out.since ((Since.refl w4).alloc (.cells #[.int .i64 e.id, .int .i64 e.fr, .int .i64 e.to, .int .i64 e.lb] 38)))
            have hs05 := hs04.alloc (.cells #[.int .i64 e.id, .int .i64 e.fr, .int .i64 e.to, .int .i64 e.lb] 38)
            obtain ⟨s0, s1, _, _⟩ := x4.out.two
            obtain ⟨s5, s6, _, _⟩ := x5.out.two
            obtain ⟨q0, q1, q2, q3, _, _, _, _⟩ := e4.out.four
            go_wp2_with fail
            clear s0 s1 s5 s6 q0 q1 q2 q3
            have zl : Hid (w4.heap.size + 1 = (w4.alloc (.cells #[.int .i64 e.id, .int .i64 e.fr, .int .i64 e.to, .int .i64 e.lb] 38)).heap.size) := by unfold Hid; simp
            generalize (w4.alloc (.cells #[.int .i64 e.id, .int .i64 e.fr, .int .i64 e.to, .int .i64 e.lb] 38)) = y5 at LE x5 r5 KA5 KB5 hs05 zl ⊢
            have hzl := zl.out
            obtain ⟨gb, c2', e1, _⟩ := own_block KB5.out.2 (by have := HM.out; omega)
            injection e1 with e1 e0 e2
            clear e0
            subst e1
            clear e2
            have hgb := RB.out gb rfl
            refine (slicesInsertMid_any g.es WR.heap.size m k gb w4.heap.size e _ HM.out KB5.out (by omega) LE (by omega) hlt hm9).mono ?_
            rintro en w6 ⟨v5, rfl, ho5, hs6⟩
            obtain ⟨o5, c5, rfl⟩ := ho5.len' (m + 1) (by have := HM.out; simp; omega)
            have x6a := x5.out.since hs6
            have r6a := r5.out.since hs6
            have KA6a := KA5.out.since hs6
            have hs06a := hs05.trans hs6
            rw [← HL.out] at ho5
            have KB6 : Hid (OwnE WR.heap.size (w6.setCell ⟨w1.heap.size, 1, none⟩ (.slice o5 (m + 1) c5)) (.slice o5 (m + 1) c5) (insL g.es e)) :=
              Lib.hid ((ho5.far (p := ⟨w1.heap.size, 1, none⟩) (by simp; omega) _).mono (by omega))
            have KA6 := Lib.hid (KA6a.within RA.out (Within.cell _ ⟨w1.heap.size, 1, none⟩ (.slice o5 (m + 1) c5)) (.inl (Nat.le_refl _)))
            have x6 := x6a
            have r6 := Lib.hid (r6a.far (p := ⟨w1.heap.size, 1, none⟩) (by simp; omega) (.slice o5 (m + 1) c5))
            have hs06 := hs06a.setCell (a := ⟨w1.heap.size, 1, none⟩) (by simp; omega) (.slice o5 (m + 1) c5)
            obtain ⟨s0, s1, s2, s3⟩ := x6.two
            obtain ⟨t0, t1, _, _⟩ := (x6.set 1 (.slice o5 (m + 1) c5)).two
            obtain ⟨q0, q1, q2, q3⟩ := r6.out.two
            clear ho5
            go_wp2
            refine bodyPost_ret (v := .tuple #[.agg #[.slice o1 g.vs.length c1, .slice o5 (m + 1) c5], .bool true]) (by simp [results, Try.results21, go_sem, *]) rfl ?_
            refine gbOut_mk HO.out.1 HO.out.2 (((KA6.out.far (by simp; omega) _).far (by simp; omega) _).mono (by omega)) (((KB6.out.far (by simp; omega) _).far (by simp; omega) _).mono (by omega)) ?_
            exact (hs06.setCell (by simp; omega) _).setCell (by simp; omega) _
          · obtain rfl : k = m := by omega
            have HL : Hid (insL g.es e = g.es ++ [e]) := by unfold Hid insL; rw [hkl, HM.out, List.take_of_length_le (Nat.le_refl _), List.drop_of_length_le (Nat.le_refl _)]
            clear hkl
            go_enter Try.func21, Try.ntmps21
            go_wp2_with fail
            generalize (((w.alloc (.cells #[.slice ao n ac, .slice bo k bc] 30)).alloc (.cells #[.int .i64 e.id, .int .i64 e.fr, .int .i64 e.to, .int .i64 e.lb] 38)).alloc (.cells #[.slice none 0 0, .slice none 0 0] 30)) = WR at hs0 b0 e0 r0 hz ⊢
            have hzz : w.heap.size + 3 ≤ WR.heap.size := by have := hz.out; omega
            refine (copyGraphC_any _ g _ (HG.out.since hs0) h1 h2).mono ?_
            rintro en w1 ⟨v1, rfl, ho1, ⟨xa', o2, hxe⟩, hs1⟩
            obtain ⟨xa, xb, rfl, ka, ra, kb, rb⟩ := ho1
            obtain ⟨o1, c1, rfl⟩ := ka.len
            obtain rfl : xb = .slice o2 k k := by injection hxe with hxe; injection hxe with hxe; injection hxe with _ hxe; injection hxe with hxe; rw [hxe, ← HM.out]
            clear hxe
            have z1 := hs1.size
            have b1 := Lib.hid ((b0.out.since hs1).alloc (.cells #[.slice o1 g.vs.length c1, .slice o2 k k] 30))
            have e1 := Lib.hid ((e0.out.since hs1).alloc (.cells #[.slice o1 g.vs.length c1, .slice o2 k k] 30))
            have r1 := Lib.hid ((r0.out.since hs1).alloc (.cells #[.slice o1 g.vs.length c1, .slice o2 k k] 30))
            have x1 : Hid (Blk (w1.alloc (.cells #[.slice o1 g.vs.length c1, .slice o2 k k] 30)) w1.heap.size 30 #[.slice o1 g.vs.length c1, .slice o2 k k]) := Blk.new rfl _ _
            have KA := Lib.hid (ka.since ((Since.refl w1).alloc (.cells #[.slice o1 g.vs.length c1, .slice o2 k k] 30)))
            have KB := Lib.hid (kb.since ((Since.refl w1).alloc (.cells #[.slice o1 g.vs.length c1, .slice o2 k k] 30)))
            have hs01 := (hs0.trans hs1).alloc (.cells #[.slice o1 g.vs.length c1, .slice o2 k k] 30)
            have zy : Hid (w1.heap.size + 1 = (w1.alloc (.cells #[.slice o1 g.vs.length c1, .slice o2 k k] 30)).heap.size) := by unfold Hid; simp
            have RA := Lib.hid ra
            have RB := Lib.hid rb
            clear ka kb ra rb b0 e0 r0 hs0 hs1
            obtain ⟨p0, p1, _, _⟩ := b1.out.two
            go_wp2_with fail
            clear p0 p1
            generalize (w1.alloc (.cells #[.slice o1 g.vs.length c1, .slice o2 k k] 30)) = y1 at b1 e1 r1 x1 KA KB hs01 zy ⊢
            have hzy : w1.heap.size + 1 ≤ y1.heap.size := by have := zy.out; omega
            refine (implVG_any _ g _ (HG.out.since hs01) h1 h2).mono ?_
            rintro en w2 ⟨rfl, hs2⟩
            rw [HV.out]
            have b2 := Lib.hid (b1.out.since hs2)
            have e2 := Lib.hid (e1.out.since hs2)
            have r2 := Lib.hid (r1.out.since hs2)
            have x2 := Lib.hid (x1.out.since hs2)
            have KA2 := Lib.hid (KA.out.since hs2)
            have KB2 := Lib.hid (KB.out.since hs2)
            have hs02 := hs01.trans hs2
            have z2 := hs2.size
            clear b1 e1 r1 x1 KA KB hs01 hs2
            obtain ⟨p0, p1, _, _⟩ := b2.out.two
            obtain ⟨q0, q1, q2, q3, _, _, _, _⟩ := e2.out.four
            obtain ⟨s0, s1, _, _⟩ := x2.out.two
            obtain ⟨t0, t1, t2, t3⟩ := r2.out.two
            go_wp2_with fail
            clear p0 p1 q0 q1 q2 q3 s0 s1 t0 t1 t2 t3
            refine (isEdge_is e n _ _ HEB.out).mono ?_
            rintro en w3 ⟨rfl, hs3⟩
            have b3 := Lib.hid (b2.out.since hs3)
            have e3 := Lib.hid (e2.out.since hs3)
            have r3 := Lib.hid (r2.out.since hs3)
            have x3 := Lib.hid (x2.out.since hs3)
            have KA3 := Lib.hid (KA2.out.since hs3)
            have KB3 := Lib.hid (KB2.out.since hs3)
            have hs03 := hs02.trans hs3
            have z3 := hs3.size
            clear b2 e2 r2 x2 KA2 KB2 hs02 hs3
            obtain ⟨p0, p1, _, _⟩ := b3.out.two
            obtain ⟨q0, q1, q2, q3, _, _, _, _⟩ := e3.out.four
            go_wp2_with fail
            clear p0 p1 q0 q1 q2 q3
            refine (HF.out _ (HB.out.since hs03)).mono ?_
            rintro en w4 ⟨rfl, hs4⟩
            have e4 := Lib.hid (e3.out.since hs4)
            have r4 := Lib.hid (r3.out.since hs4)
            have x4 := Lib.hid (x3.out.since hs4)
            have KA4 := Lib.hid (KA3.out.since hs4)
            have KB4 := Lib.hid (KB3.out.since hs4)
            have hs04 := hs03.trans hs4
            have z4 := hs4.size
            clear b3 e3 r3 x3 KA3 KB3 hs03 hs4
            have LE := (ownE_one w4 w4 (Since.refl _) e hei w4.heap.size rfl).at
            have x5 := Lib.hid (x4.out.alloc (.cells #[.int .i64 e.id, .int .i64 e.fr, .int .i64 e.to, .int .i64 e.lb] 38))
            have r5 := Lib.hid (r4.out.alloc (.cells #[.int .i64 e.id, .int .i64 e.fr, .int .i64 e.to, .int .i64 e.lb] 38))
            have KA5 := Lib.hid (KA4.out.since ((Since.refl w4).alloc (.cells #[.int .i64 e.id, .int .i64 e.fr, .int .i64 e.to, .int .i64 e.lb] 38)))
            have KB5 := Lib.hid (KB4.out.since ((Since.refl w4).alloc (.cells #[.int .i64 e.id, .int .i64 e.fr, .int .i64 e.to, .int .i64 e.lb] 38)))
            have hs05 := hs04.alloc (.cells #[.int .i64 e.id, .int .i64 e.fr, .int .i64 e.to, .int .i64 e.lb] 38)
            obtain ⟨s0, s1, _, _⟩ := x4.out.two
            obtain ⟨s5, s6, _, _⟩ := x5.out.two
            obtain ⟨q0, q1, q2, q3, _, _, _, _⟩ := e4.out.four
            go_wp2_with fail
            clear s0 s1 s5 s6 q0 q1 q2 q3
            have zl : Hid (w4.heap.size + 1 = (w4.alloc (.cells #[.int .i64 e.id, .int .i64 e.fr, .int .i64 e.to, .int .i64 e.lb] 38)).heap.size) := by unfold Hid; simp
            generalize (w4.alloc (.cells #[.int .i64 e.id, .int .i64 e.fr, .int .i64 e.to, .int .i64 e.lb] 38)) = y5 at LE x5 r5 KA5 KB5 hs05 zl ⊢
            have hzl := zl.out
            refine (slicesInsertEnd_any g.es WR.heap.size k o2 k e w4.heap.size _ HM.out KB5.out (by omega) LE hm9 (Nat.le_refl _)).mono ?_
            rintro en w6 ⟨v5, rfl, ho5, hg6, hb6⟩
            obtain ⟨o5, c5, rfl⟩ := ho5.len' (k + 1) (by have := HM.out; simp; omega)
            have x6a := x5.out.grown hg6 (fun h => by have := RB.out _ h.symm; omega)
            have r6a := r5.out.grown hg6 (fun h => by have := RB.out _ h.symm; omega)
            have KA6a := KA5.out.grownX hg6 (own_apart KA5.out KB5.out)
            have hs06a := hs05.grown hg6 (fun j hj => by have := RB.out j hj; omega)
            rw [← HL.out] at ho5
            have KB6 : Hid (OwnE WR.heap.size (w6.setCell ⟨w1.heap.size, 1, none⟩ (.slice o5 (k + 1) c5)) (.slice o5 (k + 1) c5) (insL g.es e)) := by
              rcases hb6 with h | h
              · exact ho5.within (a := WR.heap.size) (b := w1.heap.size) (fun j hj => RB.out j (by rw [← h]; exact hj)) (Within.cell _ ⟨w1.heap.size, 1, none⟩ _) (.inl (Nat.le_refl _))
              · exact ho5.within (a := y5.heap.size) (b := y5.heap.size + 1) (fun j hj => by rw [h] at hj; injection hj with hj; omega) (Within.cell _ ⟨w1.heap.size, 1, none⟩ _) (.inr (by show w1.heap.size + 1 ≤ y5.heap.size; omega))
            have KA6 := Lib.hid (KA6a.within RA.out (Within.cell _ ⟨w1.heap.size, 1, none⟩ (.slice o5 (k + 1) c5)) (.inl (Nat.le_refl _)))
            have x6 := x6a
            have r6 := Lib.hid (r6a.far (p := ⟨w1.heap.size, 1, none⟩) (by simp; omega) (.slice o5 (k + 1) c5))
            have hs06 := hs06a.setCell (a := ⟨w1.heap.size, 1, none⟩) (by simp; omega) (.slice o5 (k + 1) c5)
            obtain ⟨s0, s1, s2, s3⟩ := x6.two
            obtain ⟨t0, t1, _, _⟩ := (x6.set 1 (.slice o5 (k + 1) c5)).two
            obtain ⟨q0, q1, q2, q3⟩ := r6.out.two
            clear ho5
            go_wp2
            refine bodyPost_ret (v := .tuple #[.agg #[.slice o1 g.vs.length c1, .slice o5 (k + 1) c5], .bool true]) (by simp [results, Try.results21, go_sem, *]) rfl ?_
            refine gbOut_mk HO.out.1 HO.out.2 (((KA6.out.far (by simp; omega) _).far (by simp; omega) _).mono (by omega)) (((KB6.out.far (by simp; omega) _).far (by simp; omega) _).mono (by omega)) ?_
            exact (hs06.setCell (by simp; omega) _).setCell (by simp; omega) _
    · have HEB : Hid (edB n e = false) := by rw [HN.out]; exact heb
      have HO : Hid (canIns g e = false ∧ insG g e = g) := by
        have : canIns g e = false := by unfold canIns; rw [heb]; simp
        exact ⟨this, by unfold insG; rw [if_neg (by rw [this]; decide)]⟩
      clear hv heb hsrt
      go_enter Try.func21, Try.ntmps21
      go_wp2_with fail
      generalize (((w.alloc (.cells #[.slice ao n ac, .slice bo m bc] 30)).alloc (.cells #[.int .i64 e.id, .int .i64 e.fr, .int .i64 e.to, .int .i64 e.lb] 38)).alloc (.cells #[.slice none 0 0, .slice none 0 0] 30)) = WR at hs0 b0 e0 r0 hz ⊢
      have hzz : w.heap.size + 3 ≤ WR.heap.size := by have := hz.out; omega
      refine (copyGraphC_any _ g _ (HG.out.since hs0) h1 h2).mono ?_
      rintro en w1 ⟨v1, rfl, ho1, ⟨xa', o2, hxe⟩, hs1⟩
      obtain ⟨xa, xb, rfl, ka, ra, kb, rb⟩ := ho1
      obtain ⟨o1, c1, rfl⟩ := ka.len
      obtain rfl : xb = .slice o2 m m := by injection hxe with hxe; injection hxe with hxe; injection hxe with _ hxe; injection hxe with hxe; rw [hxe, ← HM.out]
      clear hxe
      have z1 := hs1.size
      have b1 := Lib.hid ((b0.out.since hs1).alloc (.cells #[.slice o1 g.vs.length c1, .slice o2 m m] 30))
      have e1 := Lib.hid ((e0.out.since hs1).alloc (.cells #[.slice o1 g.vs.length c1, .slice o2 m m] 30))
      have r1 := Lib.hid ((r0.out.since hs1).alloc (.cells #[.slice o1 g.vs.length c1, .slice o2 m m] 30))
      have x1 : Hid (Blk (w1.alloc (.cells #[.slice o1 g.vs.length c1, .slice o2 m m] 30)) w1.heap.size 30 #[.slice o1 g.vs.length c1, .slice o2 m m]) := Blk.new rfl _ _
      have KA := Lib.hid (ka.since ((Since.refl w1).alloc (.cells #[.slice o1 g.vs.length c1, .slice o2 m m] 30)))
      have KB := Lib.hid (kb.since ((Since.refl w1).alloc (.cells #[.slice o1 g.vs.length c1, .slice o2 m m] 30)))
      have hs01 := (hs0.trans hs1).alloc (.cells #[.slice o1 g.vs.length c1, .slice o2 m m] 30)
      have zy : Hid (w1.heap.size + 1 = (w1.alloc (.cells #[.slice o1 g.vs.length c1, .slice o2 m m] 30)).heap.size) := by unfold Hid; simp
      have RA := Lib.hid ra
      have RB := Lib.hid rb
      clear ka kb ra rb b0 e0 r0 hs0 hs1
      obtain ⟨p0, p1, _, _⟩ := b1.out.two
      go_wp2_with fail
      clear p0 p1
      generalize (w1.alloc (.cells #[.slice o1 g.vs.length c1, .slice o2 m m] 30)) = y1 at b1 e1 r1 x1 KA KB hs01 zy ⊢
      have hzy : w1.heap.size + 1 ≤ y1.heap.size := by have := zy.out; omega
      refine (implVG_any _ g _ (HG.out.since hs01) h1 h2).mono ?_
      rintro en w2 ⟨rfl, hs2⟩
      rw [HV.out]
      have b2 := Lib.hid (b1.out.since hs2)
      have e2 := Lib.hid (e1.out.since hs2)
      have r2 := Lib.hid (r1.out.since hs2)
      have x2 := Lib.hid (x1.out.since hs2)
      have KA2 := Lib.hid (KA.out.since hs2)
      have KB2 := Lib.hid (KB.out.since hs2)
      have hs02 := hs01.trans hs2
      have z2 := hs2.size
      clear b1 e1 r1 x1 KA KB hs01 hs2
      obtain ⟨p0, p1, _, _⟩ := b2.out.two
      obtain ⟨q0, q1, q2, q3, _, _, _, _⟩ := e2.out.four
      obtain ⟨s0, s1, _, _⟩ := x2.out.two
      obtain ⟨t0, t1, t2, t3⟩ := r2.out.two
      go_wp2_with fail
      clear p0 p1 q0 q1 q2 q3 s0 s1 t0 t1 t2 t3
      refine (isEdge_is e n _ _ HEB.out).mono ?_
      rintro en w3 ⟨rfl, hs3⟩
      have b3 := Lib.hid (b2.out.since hs3)
      have e3 := Lib.hid (e2.out.since hs3)
      have r3 := Lib.hid (r2.out.since hs3)
      have x3 := Lib.hid (x2.out.since hs3)
      have KA3 := Lib.hid (KA2.out.since hs3)
      have KB3 := Lib.hid (KB2.out.since hs3)
      have hs03 := hs02.trans hs3
      have z3 := hs3.size
      clear b2 e2 r2 x2 KA2 KB2 hs02 hs3
      obtain ⟨p0, p1, _, _⟩ := b3.out.two
      obtain ⟨s0, s1, _, _⟩ := x3.out.two
      obtain ⟨q0, q1, q2, q3⟩ := r3.out.two
      go_wp2
      refine bodyPost_ret (v := .tuple #[.agg #[.slice o1 g.vs.length c1, .slice o2 m m], .bool false]) (by simp [results, Try.results21, go_sem, *]) rfl ?_
      refine gbOut_mk HO.out.1 (HO.out.2.trans (by cases g; rfl)) (((KA3.out.far (by simp; omega) _).far (by simp; omega) _).mono (by omega)) (((KB3.out.far (by simp; omega) _).far (by simp; omega) _).mono (by omega)) ?_
      exact (hs03.setCell (by simp; omega) _).setCell (by simp; omega) _
  · have HV := Lib.hid hv
    have HO : Hid (canIns g e = false ∧ insG g e = g) := by
      have : canIns g e = false := by unfold canIns; rw [hv]; simp
      exact ⟨this, by unfold insG; rw [if_neg (by rw [this]; decide)]⟩
    clear hv
    go_enter Try.func21, Try.ntmps21
    go_wp2_with fail
    generalize (((w.alloc (.cells #[.slice ao n ac, .slice bo m bc] 30)).alloc (.cells #[.int .i64 e.id, .int .i64 e.fr, .int .i64 e.to, .int .i64 e.lb] 38)).alloc (.cells #[.slice none 0 0, .slice none 0 0] 30)) = WR at hs0 b0 e0 r0 hz ⊢
    have hzz : w.heap.size + 3 ≤ WR.heap.size := by have := hz.out; omega
    refine (copyGraphC_any _ g _ (HG.out.since hs0) h1 h2).mono ?_
    rintro en w1 ⟨v1, rfl, ho1, ⟨xa', o2, hxe⟩, hs1⟩
    obtain ⟨xa, xb, rfl, ka, ra, kb, rb⟩ := ho1
    obtain ⟨o1, c1, rfl⟩ := ka.len
    obtain rfl : xb = .slice o2 m m := by injection hxe with hxe; injection hxe with hxe; injection hxe with _ hxe; injection hxe with hxe; rw [hxe, ← HM.out]
    clear hxe
    have z1 := hs1.size
    have b1 := Lib.hid ((b0.out.since hs1).alloc (.cells #[.slice o1 g.vs.length c1, .slice o2 m m] 30))
    have e1 := Lib.hid ((e0.out.since hs1).alloc (.cells #[.slice o1 g.vs.length c1, .slice o2 m m] 30))
    have r1 := Lib.hid ((r0.out.since hs1).alloc (.cells #[.slice o1 g.vs.length c1, .slice o2 m m] 30))
    have x1 : Hid (Blk (w1.alloc (.cells #[.slice o1 g.vs.length c1, .slice o2 m m] 30)) w1.heap.size 30 #[.slice o1 g.vs.length c1, .slice o2 m m]) := Blk.new rfl _ _
    have KA := Lib.hid (ka.since ((Since.refl w1).alloc (.cells #[.slice o1 g.vs.length c1, .slice o2 m m] 30)))
    have KB := Lib.hid (kb.since ((Since.refl w1).alloc (.cells #[.slice o1 g.vs.length c1, .slice o2 m m] 30)))
    have hs01 := (hs0.trans hs1).alloc (.cells #[.slice o1 g.vs.length c1, .slice o2 m m] 30)
    have zy : Hid (w1.heap.size + 1 = (w1.alloc (.cells #[.slice o1 g.vs.length c1, .slice o2 m m] 30)).heap.size) := by unfold Hid; simp
    have RA := Lib.hid ra
    have RB := Lib.hid rb
    clear ka kb ra rb b0 e0 r0 hs0 hs1
    obtain ⟨p0, p1, _, _⟩ := b1.out.two
    go_wp2_with fail
    clear p0 p1
    generalize (w1.alloc (.cells #[.slice o1 g.vs.length c1, .slice o2 m m] 30)) = y1 at b1 e1 r1 x1 KA KB hs01 zy ⊢
    have hzy : w1.heap.size + 1 ≤ y1.heap.size := by have := zy.out; omega
    refine (implVG_any _ g _ (HG.out.since hs01) h1 h2).mono ?_
    rintro en w2 ⟨rfl, hs2⟩
    rw [HV.out]
    have b2 := Lib.hid (b1.out.since hs2)
    have e2 := Lib.hid (e1.out.since hs2)
    have r2 := Lib.hid (r1.out.since hs2)
    have x2 := Lib.hid (x1.out.since hs2)
    have KA2 := Lib.hid (KA.out.since hs2)
    have KB2 := Lib.hid (KB.out.since hs2)
    have hs02 := hs01.trans hs2
    have z2 := hs2.size
    clear b1 e1 r1 x1 KA KB hs01 hs2
    obtain ⟨p0, p1, _, _⟩ := b2.out.two
    obtain ⟨s0, s1, _, _⟩ := x2.out.two
    obtain ⟨q0, q1, q2, q3⟩ := r2.out.two
    go_wp2
    refine bodyPost_ret (v := .tuple #[.agg #[.slice o1 g.vs.length c1, .slice o2 m m], .bool false]) (by simp [results, Try.results21, go_sem, *]) rfl ?_
    refine gbOut_mk HO.out.1 (HO.out.2.trans (by cases g; rfl)) (((KA2.out.far (by simp; omega) _).far (by simp; omega) _).mono (by omega)) (((KB2.out.far (by simp; omega) _).far (by simp; omega) _).mono (by omega)) ?_
    exact (hs02.setCell (by simp; omega) _).setCell (by simp; omega) _
end Go.Proofs.Ytpmkpeclfhmhlaa
