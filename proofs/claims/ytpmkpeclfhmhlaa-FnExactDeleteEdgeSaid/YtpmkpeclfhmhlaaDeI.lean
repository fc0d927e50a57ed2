/- DeleteEdge, the program's. -/
import Derived.Test.YtpmkpeclfhmhlaaK2
import Derived.Test.YtpmkpeclfhmhlaaCopyI
import Derived.Test.YtpmkpeclfhmhlaaK1
import Derived.Test.YtpmkpeclfhmhlaaBs
import Derived.Test.YtpmkpeclfhmhlaaK3
import Derived.Test.YtpmkpeclfhmhlaaRvS
namespace Go.Proofs.Ytpmkpeclfhmhlaa
set_option maxRecDepth 100000
open Go.ChangeShapes Go.WideShapes Go.ChangeAt Go.RowKit
set_option linter.unusedVariables false
set_option linter.unusedSimpArgs false

set_option maxHeartbeats 2000000 in
set_option maxRecDepth 100000 in
theorem implDE_any (v : Value) (g : Grf) (id : Int) (w : World) (h : GrfAt w v g) (h1 : g.vs.length ≤ 1048577) (h2 : g.es.length ≤ 1048577) :
    Calls Try.prog 25 #[v, .int .i64 id] w (GBOut w (delG g id) (canDel g id)) := by
  have HG := Lib.hid h
  obtain ⟨a, b, rfl, ha, hb⟩ := h
  obtain ⟨ao, ac, rfl, _⟩ := ha.row
  have HB := Lib.hid hb
  obtain ⟨bo, bc, rfl⟩ := hb.len
  clear ha hb
  obtain ⟨n, hn⟩ : ∃ n, n = g.vs.length := ⟨_, rfl⟩
  obtain ⟨m, hm⟩ : ∃ m, m = g.es.length := ⟨_, rfl⟩
  rw [← hm] at HB
  rw [← hn, ← hm] at HG ⊢
  have hm9 : m ≤ 1048577 := by omega
  have HM := Lib.hid hm
  clear hn hm
  have hs0 : Since w ((w.alloc (.cells #[.slice ao n ac, .slice bo m bc] 30)).alloc (.cells #[.slice none 0 0, .slice none 0 0] 30)) := ((Since.refl w).alloc _).alloc _
  have b0 : Hid (Blk ((w.alloc (.cells #[.slice ao n ac, .slice bo m bc] 30)).alloc (.cells #[.slice none 0 0, .slice none 0 0] 30)) w.heap.size 30 #[.slice ao n ac, .slice bo m bc]) := (Blk.new rfl _ _).alloc _
  have r0 : Hid (Blk ((w.alloc (.cells #[.slice ao n ac, .slice bo m bc] 30)).alloc (.cells #[.slice none 0 0, .slice none 0 0] 30)) (w.heap.size + 1) 30 #[.slice none 0 0, .slice none 0 0]) := Blk.new (by simp) _ _
  have hz : Hid (w.heap.size + 2 = ((w.alloc (.cells #[.slice ao n ac, .slice bo m bc] 30)).alloc (.cells #[.slice none 0 0, .slice none 0 0] 30)).heap.size) := by unfold Hid; simp
  rcases Bool.eq_false_or_eq_true (validB g) with hv | hv
  · have HV := Lib.hid hv
    have hsrt : g.es.Pairwise idLt := ((validB_iff g).1 hv).2.2.2
    rcases idxE_cases g.es id with ⟨k, hk, hi, hid, _⟩ | ⟨hi, _⟩
    · have hlb : lbE g.es id = k := by
        rcases lbE_idx (es := g.es) (id := id) hsrt with ⟨_, _, h⟩ | ⟨_, h⟩
        · omega
        · omega
      have hdec : decide (0 ≤ idxE g.es id) = true := decide_eq_true (by omega)
      have HF : Hid (∀ W, EdgesAt W (.slice bo m bc) g.es → Calls Try.prog 61 #[.slice bo m bc, .int .i64 id] W (BSOut W k true)) := fun W hW => by
        rw [← hlb, ← hdec]; exact findEdge_any _ g.es id W hW hsrt h2
      have HO : Hid (canDel g id = true ∧ delG g id = ⟨g.vs, delL g.es k⟩) := by
        have : canDel g id = true := by unfold canDel; rw [hv, hi]; simp
        exact ⟨this, by unfold delG; rw [if_pos this, hi]; simp⟩
      have hlt : k < m := by have := HM.out; omega
      obtain ⟨p, hp⟩ : ∃ p, p + 1 = m := ⟨m - 1, by omega⟩
      have HP := Lib.hid hp
      have hwr : IntKind.i64.wrap ((k : Int) + 1) = (k : Int) + 1 := by rw [IntKind.wrap_i64]; omega
      clear hv hi hid hlb hdec hsrt hp
      go_enter Try.func25, Try.ntmps25
      go_wp2_with fail
      generalize ((w.alloc (.cells #[.slice ao n ac, .slice bo m bc] 30)).alloc (.cells #[.slice none 0 0, .slice none 0 0] 30)) = WR at hs0 b0 r0 hz ⊢
      have hzz : w.heap.size + 2 ≤ WR.heap.size := by have := hz.out; omega
      refine (copyGraph_any _ g _ (HG.out.since hs0) h1 h2).mono ?_
      rintro e w1 ⟨v1, rfl, ho1, hs1⟩
      obtain ⟨xa, xb, rfl, ka, ra, kb, rb⟩ := ho1
      obtain ⟨o1, c1, rfl⟩ := ka.len
      obtain ⟨o2, c2, rfl⟩ := kb.len' m HM.out.symm
      have z1 := hs1.size
      have b1 := Lib.hid ((b0.out.since hs1).alloc (.cells #[.slice o1 g.vs.length c1, .slice o2 m c2] 30))
      have r1 := Lib.hid ((r0.out.since hs1).alloc (.cells #[.slice o1 g.vs.length c1, .slice o2 m c2] 30))
      have x1 : Hid (Blk (w1.alloc (.cells #[.slice o1 g.vs.length c1, .slice o2 m c2] 30)) w1.heap.size 30 #[.slice o1 g.vs.length c1, .slice o2 m c2]) := Blk.new rfl _ _
      have KA := Lib.hid (ka.since ((Since.refl w1).alloc (.cells #[.slice o1 g.vs.length c1, .slice o2 m c2] 30)))
      have KB := Lib.hid (kb.since ((Since.refl w1).alloc (.cells #[.slice o1 g.vs.length c1, .slice o2 m c2] 30)))
      have hs01 := (hs0.trans hs1).alloc (.cells #[.slice o1 g.vs.length c1, .slice o2 m c2] 30)
      have zy : Hid (w1.heap.size + 1 = (w1.alloc (.cells #[.slice o1 g.vs.length c1, .slice o2 m c2] 30)).heap.size) := by unfold Hid; simp
      have RA := Lib.hid ra
      have RB := Lib.hid rb
      clear ka kb ra rb b0 r0 hs0 hs1
      obtain ⟨p0, p1, _, _⟩ := b1.out.two
      go_wp2_with fail
      clear p0 p1
      generalize (w1.alloc (.cells #[.slice o1 g.vs.length c1, .slice o2 m c2] 30)) = y1 at b1 r1 x1 KA KB hs01 zy ⊢
      have hzy : w1.heap.size + 1 ≤ y1.heap.size := by have := zy.out; omega
      refine (implVG_any _ g _ (HG.out.since hs01) h1 h2).mono ?_
      rintro e w2 ⟨rfl, hs2⟩
      rw [HV.out]
      have b2 := Lib.hid (b1.out.since hs2)
      have r2 := Lib.hid (r1.out.since hs2)
      have x2 := Lib.hid (x1.out.since hs2)
      have KA2 := Lib.hid (KA.out.since hs2)
      have KB2 := Lib.hid (KB.out.since hs2)
      have hs02 := hs01.trans hs2
      have z2 := hs2.size
      clear b1 r1 x1 KA KB hs01 hs2
      obtain ⟨p0, p1, _, _⟩ := b2.out.two
      go_wp2_with fail
      clear p0 p1
      refine (HF.out _ (HB.out.since hs02)).mono ?_
      rintro e w3 ⟨rfl, hs3⟩
      have r3 := Lib.hid (r2.out.since hs3)
      have x3 := Lib.hid (x2.out.since hs3)
      have KA3 := Lib.hid (KA2.out.since hs3)
      have KB3 := Lib.hid (KB2.out.since hs3)
      have hs03 := hs02.trans hs3
      have z3 := hs3.size
      clear b2 r2 x2 KA2 KB2 hs02 hs3
      obtain ⟨gb, c2', e1, _⟩ := own_block KB3.out.2 (by have := HM.out; omega)
      injection e1 with e1 e0 e2
      clear e0
      subst e1; subst e2
      have hgb := RB.out gb rfl
      obtain ⟨s0, s1, _, _⟩ := x3.out.two
      go_wp2_with fail
      clear s0 s1
      with_reducible refine (slicesDelete_any g.es WR.heap.size gb c2 k p m _ HM.out KB3.out hlt HP.out hm9).mono ?_
      rintro e w4 ⟨rfl, ho4, hg4⟩
      have x4 := Lib.hid (x3.out.grown hg4 (fun e => by injection e with e; omega))
      have r4 := Lib.hid ((r3.out.grown hg4 (fun e => by injection e with e; omega)).far (p := ⟨w1.heap.size, 1, none⟩) (by simp; omega) (.slice (some ⟨gb, 0, none⟩) p c2))
      have KA4 := Lib.hid ((KA3.out.grownX hg4 (own_apart KA3.out KB3.out)).within RA.out (Within.cell _ ⟨w1.heap.size, 1, none⟩ (.slice (some ⟨gb, 0, none⟩) p c2)) (.inl (Nat.le_refl _)))
      have KB4 := Lib.hid (ho4.within (RB.out : InR _ _ (.slice (some ⟨gb, 0, none⟩) m c2)) (Within.cell _ ⟨w1.heap.size, 1, none⟩ (.slice (some ⟨gb, 0, none⟩) p c2)) (.inl (Nat.le_refl _)))
      have hs04 := (hs03.grown hg4 (fun j hj => by injection hj with hj; omega)).setCell (a := ⟨w1.heap.size, 1, none⟩) (by simp; omega) (.slice (some ⟨gb, 0, none⟩) p c2)
      obtain ⟨s0, s1, s2, s3⟩ := x4.out.two
      obtain ⟨t0, t1, _, _⟩ := (x4.out.set 1 (.slice (some ⟨gb, 0, none⟩) p c2)).two
      obtain ⟨q0, q1, q2, q3⟩ := r4.out.two
      clear ho4 hg4
      go_wp2
      refine bodyPost_ret (v := .tuple #[.agg #[.slice o1 g.vs.length c1, .slice (some ⟨gb, 0, none⟩) p c2], .bool true]) (by simp [results, Try.results25, go_sem, *]) rfl ?_
      refine gbOut_mk HO.out.1 HO.out.2 (((KA4.out.far (by simp; omega) _).far (by simp; omega) _).mono (by omega)) (((KB4.out.far (by simp; omega) _).far (by simp; omega) _).mono (by omega)) ?_
      exact (hs04.setCell (by simp) _).setCell (by simp) _
    · obtain ⟨L, hL⟩ : ∃ L, L = lbE g.es id := ⟨_, rfl⟩
      have hdec : decide (0 ≤ idxE g.es id) = false := decide_eq_false (by omega)
      have HF : Hid (∀ W, EdgesAt W (.slice bo m bc) g.es → Calls Try.prog 61 #[.slice bo m bc, .int .i64 id] W (BSOut W L false)) := fun W hW => by
        rw [hL, ← hdec]; exact findEdge_any _ g.es id W hW hsrt h2
      have HO : Hid (canDel g id = false ∧ delG g id = g) := by
        have : canDel g id = false := by unfold canDel; rw [hi]; simp
        exact ⟨this, by unfold delG; rw [if_neg (by rw [this]; decide)]⟩
      clear hv hi hdec hsrt hL
      go_enter Try.func25, Try.ntmps25
      go_wp2_with fail
      generalize ((w.alloc (.cells #[.slice ao n ac, .slice bo m bc] 30)).alloc (.cells #[.slice none 0 0, .slice none 0 0] 30)) = WR at hs0 b0 r0 hz ⊢
      have hzz : w.heap.size + 2 ≤ WR.heap.size := by have := hz.out; omega
      refine (copyGraph_any _ g _ (HG.out.since hs0) h1 h2).mono ?_
      rintro e w1 ⟨v1, rfl, ho1, hs1⟩
      obtain ⟨xa, xb, rfl, ka, ra, kb, rb⟩ := ho1
      obtain ⟨o1, c1, rfl⟩ := ka.len
      obtain ⟨o2, c2, rfl⟩ := kb.len' m HM.out.symm
      have z1 := hs1.size
      have b1 := Lib.hid ((b0.out.since hs1).alloc (.cells #[.slice o1 g.vs.length c1, .slice o2 m c2] 30))
      have r1 := Lib.hid ((r0.out.since hs1).alloc (.cells #[.slice o1 g.vs.length c1, .slice o2 m c2] 30))
      have x1 : Hid (Blk (w1.alloc (.cells #[.slice o1 g.vs.length c1, .slice o2 m c2] 30)) w1.heap.size 30 #[.slice o1 g.vs.length c1, .slice o2 m c2]) := Blk.new rfl _ _
      have KA := Lib.hid (ka.since ((Since.refl w1).alloc (.cells #[.slice o1 g.vs.length c1, .slice o2 m c2] 30)))
      have KB := Lib.hid (kb.since ((Since.refl w1).alloc (.cells #[.slice o1 g.vs.length c1, .slice o2 m c2] 30)))
      have hs01 := (hs0.trans hs1).alloc (.cells #[.slice o1 g.vs.length c1, .slice o2 m c2] 30)
      have zy : Hid (w1.heap.size + 1 = (w1.alloc (.cells #[.slice o1 g.vs.length c1, .slice o2 m c2] 30)).heap.size) := by unfold Hid; simp
      have RA := Lib.hid ra
      have RB := Lib.hid rb
      clear ka kb ra rb b0 r0 hs0 hs1
      obtain ⟨p0, p1, _, _⟩ := b1.out.two
      go_wp2_with fail
      clear p0 p1
      generalize (w1.alloc (.cells #[.slice o1 g.vs.length c1, .slice o2 m c2] 30)) = y1 at b1 r1 x1 KA KB hs01 zy ⊢
      have hzy : w1.heap.size + 1 ≤ y1.heap.size := by have := zy.out; omega
      refine (implVG_any _ g _ (HG.out.since hs01) h1 h2).mono ?_
      rintro e w2 ⟨rfl, hs2⟩
      rw [HV.out]
      have b2 := Lib.hid (b1.out.since hs2)
      have r2 := Lib.hid (r1.out.since hs2)
      have x2 := Lib.hid (x1.out.since hs2)
      have KA2 := Lib.hid (KA.out.since hs2)
      have KB2 := Lib.hid (KB.out.since hs2)
      have hs02 := hs01.trans hs2
      have z2 := hs2.size
      clear b1 r1 x1 KA KB hs01 hs2
      obtain ⟨p0, p1, _, _⟩ := b2.out.two
      go_wp2_with fail
      clear p0 p1
      refine (HF.out _ (HB.out.since hs02)).mono ?_
      rintro e w3 ⟨rfl, hs3⟩
      have r3 := Lib.hid (r2.out.since hs3)
      have x3 := Lib.hid (x2.out.since hs3)
      have KA3 := Lib.hid (KA2.out.since hs3)
      have KB3 := Lib.hid (KB2.out.since hs3)
      have hs03 := hs02.trans hs3
      have z3 := hs3.size
      clear b2 r2 x2 KA2 KB2 hs02 hs3
      obtain ⟨s0, s1, _, _⟩ := x3.out.two
      obtain ⟨q0, q1, q2, q3⟩ := r3.out.two
      go_wp2
      refine bodyPost_ret (v := .tuple #[.agg #[.slice o1 g.vs.length c1, .slice o2 m c2], .bool false]) (by simp [results, Try.results25, go_sem, *]) rfl ?_
      refine gbOut_mk HO.out.1 (HO.out.2.trans (by cases g; rfl)) (((KA3.out.far (by simp; omega) _).far (by simp; omega) _).mono (by omega)) (((KB3.out.far (by simp; omega) _).far (by simp; omega) _).mono (by omega)) ?_
      exact (hs03.setCell (by simp) _).setCell (by simp) _
  · have HV := Lib.hid hv
    have HO : Hid (canDel g id = false ∧ delG g id = g) := by
      have : canDel g id = false := by unfold canDel; rw [hv]; simp
      exact ⟨this, by unfold delG; rw [if_neg (by rw [this]; decide)]⟩
    clear hv
    go_enter Try.func25, Try.ntmps25
    go_wp2_with fail
    generalize ((w.alloc (.cells #[.slice ao n ac, .slice bo m bc] 30)).alloc (.cells #[.slice none 0 0, .slice none 0 0] 30)) = WR at hs0 b0 r0 hz ⊢
    have hzz : w.heap.size + 2 ≤ WR.heap.size := by have := hz.out; omega
    refine (copyGraph_any _ g _ (HG.out.since hs0) h1 h2).mono ?_
    rintro e w1 ⟨v1, rfl, ho1, hs1⟩
    obtain ⟨xa, xb, rfl, ka, ra, kb, rb⟩ := ho1
    obtain ⟨o1, c1, rfl⟩ := ka.len
    obtain ⟨o2, c2, rfl⟩ := kb.len' m HM.out.symm
    have z1 := hs1.size
    have b1 := Lib.hid ((b0.out.since hs1).alloc (.cells #[.slice o1 g.vs.length c1, .slice o2 m c2] 30))
    have r1 := Lib.hid ((r0.out.since hs1).alloc (.cells #[.slice o1 g.vs.length c1, .slice o2 m c2] 30))
    have x1 : Hid (Blk (w1.alloc (.cells #[.slice o1 g.vs.length c1, .slice o2 m c2] 30)) w1.heap.size 30 #[.slice o1 g.vs.length c1, .slice o2 m c2]) := Blk.new rfl _ _
    have KA := Lib.hid (ka.since ((Since.refl w1).alloc (.cells #[.slice o1 g.vs.length c1, .slice o2 m c2] 30)))
    have KB := Lib.hid (kb.since ((Since.refl w1).alloc (.cells #[.slice o1 g.vs.length c1, .slice o2 m c2] 30)))
    have hs01 := (hs0.trans hs1).alloc (.cells #[.slice o1 g.vs.length c1, .slice o2 m c2] 30)
    have zy : Hid (w1.heap.size + 1 = (w1.alloc (.cells #[.slice o1 g.vs.length c1, .slice o2 m c2] 30)).heap.size) := by unfold Hid; simp
    have RA := Lib.hid ra
    have RB := Lib.hid rb
    clear ka kb ra rb b0 r0 hs0 hs1
    obtain ⟨p0, p1, _, _⟩ := b1.out.two
    go_wp2_with fail
    clear p0 p1
    generalize (w1.alloc (.cells #[.slice o1 g.vs.length c1, .slice o2 m c2] 30)) = y1 at b1 r1 x1 KA KB hs01 zy ⊢
    have hzy : w1.heap.size + 1 ≤ y1.heap.size := by have := zy.out; omega
    refine (implVG_any _ g _ (HG.out.since hs01) h1 h2).mono ?_
    rintro e w2 ⟨rfl, hs2⟩
    rw [HV.out]
    have b2 := Lib.hid (b1.out.since hs2)
    have r2 := Lib.hid (r1.out.since hs2)
    have x2 := Lib.hid (x1.out.since hs2)
    have KA2 := Lib.hid (KA.out.since hs2)
    have KB2 := Lib.hid (KB.out.since hs2)
    have hs02 := hs01.trans hs2
    have z2 := hs2.size
    clear b1 r1 x1 KA KB hs01 hs2
    obtain ⟨s0, s1, _, _⟩ := x2.out.two
    obtain ⟨q0, q1, q2, q3⟩ := r2.out.two
    go_wp2
    refine bodyPost_ret (v := .tuple #[.agg #[.slice o1 g.vs.length c1, .slice o2 m c2], .bool false]) (by simp [results, Try.results25, go_sem, *]) rfl ?_
    refine gbOut_mk HO.out.1 (HO.out.2.trans (by cases g; rfl)) (((KA2.out.far (by simp; omega) _).far (by simp; omega) _).mono (by omega)) (((KB2.out.far (by simp; omega) _).far (by simp; omega) _).mono (by omega)) ?_
    exact (hs02.setCell (by simp) _).setCell (by simp) _
end Go.Proofs.Ytpmkpeclfhmhlaa
