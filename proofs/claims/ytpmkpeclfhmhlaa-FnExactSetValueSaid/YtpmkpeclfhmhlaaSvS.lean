/- SetValue, the model's. -/
import Derived.Test.YtpmkpeclfhmhlaaK2
import Derived.Test.YtpmkpeclfhmhlaaCopyS
import Derived.Test.YtpmkpeclfhmhlaaK1
namespace Go.Proofs.Ytpmkpeclfhmhlaa
set_option maxRecDepth 100000
open Go.ChangeShapes Go.WideShapes Go.ChangeAt Go.RowKit
set_option linter.unusedVariables false
set_option linter.unusedSimpArgs false

set_option maxHeartbeats 2000000 in
set_option maxRecDepth 100000 in
theorem specSV_any (v : Value) (g : Grf) (node x : Int) (w : World) (h : GrfAt w v g) (h1 : g.vs.length ≤ 1048577) (h2 : g.es.length ≤ 1048577) (hxi : InI x) :
    Calls Try.prog 26 #[v, .int .i64 node, .int .i64 x] w (GBOut w (setG g node x) (canSet g node x)) := by
  have HG := Lib.hid h
  obtain ⟨a, b, rfl, ha, hb⟩ := h
  obtain ⟨ao, ac, rfl, _⟩ := ha.row
  obtain ⟨bo, bc, rfl⟩ := hb.len
  clear ha hb
  obtain ⟨n, hn⟩ : ∃ n, n = g.vs.length := ⟨_, rfl⟩
  obtain ⟨m, hm⟩ : ∃ m, m = g.es.length := ⟨_, rfl⟩
  rw [← hn, ← hm] at HG ⊢
  have hn9 : n ≤ 1048577 := by omega
  have HN := Lib.hid hn
  clear hn hm
  have hs0 : Since w ((w.alloc (.cells #[.slice ao n ac, .slice bo m bc] 30)).alloc (.cells #[.slice none 0 0, .slice none 0 0] 30)) := ((Since.refl w).alloc _).alloc _
  have b0 : Hid (Blk ((w.alloc (.cells #[.slice ao n ac, .slice bo m bc] 30)).alloc (.cells #[.slice none 0 0, .slice none 0 0] 30)) w.heap.size 30 #[.slice ao n ac, .slice bo m bc]) := (Blk.new rfl _ _).alloc _
  have r0 : Hid (Blk ((w.alloc (.cells #[.slice ao n ac, .slice bo m bc] 30)).alloc (.cells #[.slice none 0 0, .slice none 0 0] 30)) (w.heap.size + 1) 30 #[.slice none 0 0, .slice none 0 0]) := Blk.new (by simp) _ _
  have hz : Hid (((w.alloc (.cells #[.slice ao n ac, .slice bo m bc] 30)).alloc (.cells #[.slice none 0 0, .slice none 0 0] 30)).heap.size = w.heap.size + 2) := by unfold Hid; simp
  rcases Bool.eq_false_or_eq_true (validB g) with hv | hv
  · have HV := Lib.hid hv
    rcases Bool.eq_false_or_eq_true (inB node 0 ((n : Int) - 1)) with hnd | hnd
    · have HND := Lib.hid hnd
      rcases Bool.eq_false_or_eq_true (inB x 0 2) with hvl | hvl
      · have HVL := Lib.hid hvl
        have HO : Hid (canSet g node x = true ∧ setG g node x = ⟨g.vs.set node.toNat x, g.es⟩) := by
          have : canSet g node x = true := by unfold canSet; rw [hv, ← HN.out, hnd, hvl]; rfl
          exact ⟨this, by unfold setG; rw [if_pos this]⟩
        obtain ⟨k, hk⟩ : ∃ k : Nat, node = (k : Int) ∧ k < n := by
          have := inB_bounds hnd
          exact ⟨node.toNat, by omega, by omega⟩
        obtain ⟨rfl, hkn⟩ := hk
        have hkv : k < g.vs.length := by have := HN.out; omega
        clear hv hnd hvl
        go_enter Try.func26, Try.ntmps26
        go_wp2_with fail
        generalize ((w.alloc (.cells #[.slice ao n ac, .slice bo m bc] 30)).alloc (.cells #[.slice none 0 0, .slice none 0 0] 30)) = WR at hs0 b0 r0 hz ⊢
        refine (l3Copy_any _ g _ (HG.out.since hs0) h1 h2).mono ?_
        rintro e w1 ⟨v1, rfl, ho1, hs1⟩
        obtain ⟨xa, xb, rfl, ka, ra, kb, rb⟩ := ho1
        obtain ⟨o1, c1, rfl⟩ := ka.len
        obtain ⟨o2, c2, rfl⟩ := kb.len
        have hsw := hs1.size
        have HZ2 : Hid (w.heap.size + 2 ≤ WR.heap.size) := by have := hz.out; unfold Hid; omega
        have b1 := Lib.hid ((b0.out.since hs1).alloc (.cells #[.slice o1 g.vs.length c1, .slice o2 g.es.length c2] 30))
        have r1 := Lib.hid ((r0.out.since hs1).alloc (.cells #[.slice o1 g.vs.length c1, .slice o2 g.es.length c2] 30))
        have x1 : Hid (Blk (w1.alloc (.cells #[.slice o1 g.vs.length c1, .slice o2 g.es.length c2] 30)) w1.heap.size 30 #[.slice o1 g.vs.length c1, .slice o2 g.es.length c2]) := Blk.new rfl _ _
        have KA := Lib.hid (ka.since ((Since.refl w1).alloc (.cells #[.slice o1 g.vs.length c1, .slice o2 g.es.length c2] 30)))
        have KB := Lib.hid (kb.since ((Since.refl w1).alloc (.cells #[.slice o1 g.vs.length c1, .slice o2 g.es.length c2] 30)))
        have hs01 := (hs0.trans hs1).alloc (.cells #[.slice o1 g.vs.length c1, .slice o2 g.es.length c2] 30)
        clear b0 r0 ka kb
        obtain ⟨p0, p1, _, _⟩ := b1.out.two
        go_wp2_with fail
        clear p0 p1
        refine (specVG_any _ g _ (HG.out.since hs01) h1 h2).mono ?_
        rintro e w2 ⟨rfl, hs2⟩
        rw [HV.out]
        have b2 := Lib.hid (b1.out.since hs2)
        have r2 := Lib.hid (r1.out.since hs2)
        have x2 := Lib.hid (x1.out.since hs2)
        have KA2 := Lib.hid (KA.out.since hs2)
        have KB2 := Lib.hid (KB.out.since hs2)
        have hs02 := hs01.trans hs2
        have hsz2 := hs2.size
        clear b1 r1 x1 KA KB
        obtain ⟨p0, p1, _, _⟩ := b2.out.two
        obtain ⟨q0, q1, q2, q3⟩ := r2.out.two
        obtain ⟨s0, s1, _, _⟩ := x2.out.two
        go_wp2_with fail
        with_reducible refine (l1In_any (k : Int) 0 ((n : Int) - 1) _).mono ?_
        rintro e w' ⟨rfl, rfl⟩
        rw [HND.out]
        go_wp2_with fail
        with_reducible refine (l1In_any x 0 2 _).mono ?_
        rintro e w' ⟨rfl, rfl⟩
        rw [HVL.out]
        have hown := KA2.out.2
        obtain ⟨gb, cap, e1, e2⟩ := own_block hown (by omega)
        have hrg := ra gb (by rw [e1]; rfl)
        injection e1 with e1 _ e3
        subst e1; subst e3
        have hdst := hown.cellAt k (by omega)
        have hdst2 : w2.cell? ⟨gb, k, none⟩ = some (.int .i64 g.vs[k]) := by rw [hdst, List.getElem?_map, List.getElem?_eq_getElem hkv]; rfl
        have hfz := hown.frozenAt k
        have hst := hown.stored k (.int .i64 x)
        rw [show (g.vs.map icell).set k (.int .i64 x) = (g.vs.set k x).map icell from by rw [List.map_set]; rfl] at hst
        have HA3 : Hid (Own WR.heap.size (w2.setCell ⟨gb, k, none⟩ (.int .i64 x)) (.slice (some ⟨gb, 0, none⟩) g.vs.length c1) (g.vs.set k x)) := by
          refine ⟨fun y hy => ?_, by rw [List.length_set]; exact hst.1⟩
          rcases List.mem_or_eq_of_mem_set hy with hy | hy
          · exact KA2.out.1 y hy
          · subst hy; exact hxi
        have HB3 := Lib.hid (KB2.out.grownX hst.2 (own_apart' KA2.out KB2.out))
        have hz2 := HZ2.out
        have x3 := Lib.hid (x2.out.far (p := ⟨gb, k, none⟩) (by simp; omega) (.int .i64 x))
        have r3 := Lib.hid (r2.out.far (p := ⟨gb, k, none⟩) (by simp; omega) (.int .i64 x))
        have hs03 := hs02.setCell (a := ⟨gb, k, none⟩) (by simp; omega) (.int .i64 x)
        have hw2 : w1.heap.size + 1 ≤ w2.heap.size := by simpa using hsz2
        have hlt : k < g.vs.length := hkv
        clear hst hown hdst e2 s0 s1 q0 q1 q2 q3
        obtain ⟨s0, s1, _, _⟩ := x3.out.two
        obtain ⟨q0, q1, q2, q3⟩ := r3.out.two
        obtain ⟨t0, t1, _, _⟩ := x2.out.two
        go_wp2
        refine bodyPost_ret (v := .tuple #[.agg #[.slice (some ⟨gb, 0, none⟩) g.vs.length c1, .slice o2 g.es.length c2], .bool true]) (by simp [results, Try.results26, go_sem, *]) rfl ?_
        have hl2 : g.vs.length = (g.vs.set k x).length := by simp
        refine gbOut_mk HO.out.1 (by have := HO.out.2; simpa using this) (((HA3.out.far (by simp; omega) _).far (by simp; omega) _).mono (by omega)) (((HB3.out.far (by simp; omega) _).far (by simp; omega) _).mono (by omega)) ?_
        exact (hs03.setCell (by simp) _).setCell (by simp) _
      · have HVL := Lib.hid hvl
        have HO : Hid (canSet g node x = false ∧ setG g node x = g) := by
          have : canSet g node x = false := by unfold canSet; rw [hvl]; simp
          exact ⟨this, by unfold setG; rw [if_neg (by rw [this]; decide)]⟩
        clear hv hnd hvl
        go_enter Try.func26, Try.ntmps26
        go_wp2_with fail
        generalize ((w.alloc (.cells #[.slice ao n ac, .slice bo m bc] 30)).alloc (.cells #[.slice none 0 0, .slice none 0 0] 30)) = WR at hs0 b0 r0 hz ⊢
        refine (l3Copy_any _ g _ (HG.out.since hs0) h1 h2).mono ?_
        rintro e w1 ⟨v1, rfl, ho1, hs1⟩
        obtain ⟨xa, xb, rfl, ka, ra, kb, rb⟩ := ho1
        obtain ⟨o1, c1, rfl⟩ := ka.len
        obtain ⟨o2, c2, rfl⟩ := kb.len
        have hsw := hs1.size
        have HZ2 : Hid (w.heap.size + 2 ≤ WR.heap.size) := by have := hz.out; unfold Hid; omega
        have b1 := Lib.hid ((b0.out.since hs1).alloc (.cells #[.slice o1 g.vs.length c1, .slice o2 g.es.length c2] 30))
        have r1 := Lib.hid ((r0.out.since hs1).alloc (.cells #[.slice o1 g.vs.length c1, .slice o2 g.es.length c2] 30))
        have x1 : Hid (Blk (w1.alloc (.cells #[.slice o1 g.vs.length c1, .slice o2 g.es.length c2] 30)) w1.heap.size 30 #[.slice o1 g.vs.length c1, .slice o2 g.es.length c2]) := Blk.new rfl _ _
        have KA := Lib.hid (ka.since ((Since.refl w1).alloc (.cells #[.slice o1 g.vs.length c1, .slice o2 g.es.length c2] 30)))
        have KB := Lib.hid (kb.since ((Since.refl w1).alloc (.cells #[.slice o1 g.vs.length c1, .slice o2 g.es.length c2] 30)))
        have hs01 := (hs0.trans hs1).alloc (.cells #[.slice o1 g.vs.length c1, .slice o2 g.es.length c2] 30)
        clear b0 r0 ka kb
        obtain ⟨p0, p1, _, _⟩ := b1.out.two
        go_wp2_with fail
        clear p0 p1
        refine (specVG_any _ g _ (HG.out.since hs01) h1 h2).mono ?_
        rintro e w2 ⟨rfl, hs2⟩
        rw [HV.out]
        have b2 := Lib.hid (b1.out.since hs2)
        have r2 := Lib.hid (r1.out.since hs2)
        have x2 := Lib.hid (x1.out.since hs2)
        have KA2 := Lib.hid (KA.out.since hs2)
        have KB2 := Lib.hid (KB.out.since hs2)
        have hs02 := hs01.trans hs2
        have hsz2 := hs2.size
        clear b1 r1 x1 KA KB
        obtain ⟨p0, p1, _, _⟩ := b2.out.two
        obtain ⟨q0, q1, q2, q3⟩ := r2.out.two
        obtain ⟨s0, s1, _, _⟩ := x2.out.two
        go_wp2_with fail
        with_reducible refine (l1In_any node 0 ((n : Int) - 1) _).mono ?_
        rintro e w' ⟨rfl, rfl⟩
        rw [HND.out]
        go_wp2_with fail
        with_reducible refine (l1In_any x 0 2 _).mono ?_
        rintro e w' ⟨rfl, rfl⟩
        rw [HVL.out]
        go_wp2
        refine bodyPost_ret (v := .tuple #[.agg #[.slice o1 g.vs.length c1, .slice o2 g.es.length c2], .bool false]) (by simp [results, Try.results26, go_sem, *]) rfl ?_
        have hz2 := HZ2.out
        have hw2 : w1.heap.size + 1 ≤ w2.heap.size := by simpa using hsz2
        refine gbOut_mk HO.out.1 (HO.out.2.trans (by cases g; rfl)) (((KA2.out.far (by simp; omega) _).far (by simp; omega) _).mono (by omega)) (((KB2.out.far (by simp; omega) _).far (by simp; omega) _).mono (by omega)) ?_
        exact (hs02.setCell (by simp) _).setCell (by simp) _
    · have HND := Lib.hid hnd
      have HO : Hid (canSet g node x = false ∧ setG g node x = g) := by
        have : canSet g node x = false := by unfold canSet; rw [← HN.out, hnd]; simp
        exact ⟨this, by unfold setG; rw [if_neg (by rw [this]; decide)]⟩
      clear hv hnd
      go_enter Try.func26, Try.ntmps26
      go_wp2_with fail
      generalize ((w.alloc (.cells #[.slice ao n ac, .slice bo m bc] 30)).alloc (.cells #[.slice none 0 0, .slice none 0 0] 30)) = WR at hs0 b0 r0 hz ⊢
      refine (l3Copy_any _ g _ (HG.out.since hs0) h1 h2).mono ?_
      rintro e w1 ⟨v1, rfl, ho1, hs1⟩
      obtain ⟨xa, xb, rfl, ka, ra, kb, rb⟩ := ho1
      obtain ⟨o1, c1, rfl⟩ := ka.len
      obtain ⟨o2, c2, rfl⟩ := kb.len
      have hsw := hs1.size
      have HZ2 : Hid (w.heap.size + 2 ≤ WR.heap.size) := by have := hz.out; unfold Hid; omega
      have b1 := Lib.hid ((b0.out.since hs1).alloc (.cells #[.slice o1 g.vs.length c1, .slice o2 g.es.length c2] 30))
      have r1 := Lib.hid ((r0.out.since hs1).alloc (.cells #[.slice o1 g.vs.length c1, .slice o2 g.es.length c2] 30))
      have x1 : Hid (Blk (w1.alloc (.cells #[.slice o1 g.vs.length c1, .slice o2 g.es.length c2] 30)) w1.heap.size 30 #[.slice o1 g.vs.length c1, .slice o2 g.es.length c2]) := Blk.new rfl _ _
      have KA := Lib.hid (ka.since ((Since.refl w1).alloc (.cells #[.slice o1 g.vs.length c1, .slice o2 g.es.length c2] 30)))
      have KB := Lib.hid (kb.since ((Since.refl w1).alloc (.cells #[.slice o1 g.vs.length c1, .slice o2 g.es.length c2] 30)))
      have hs01 := (hs0.trans hs1).alloc (.cells #[.slice o1 g.vs.length c1, .slice o2 g.es.length c2] 30)
      clear b0 r0 ka kb
      obtain ⟨p0, p1, _, _⟩ := b1.out.two
      go_wp2_with fail
      clear p0 p1
      refine (specVG_any _ g _ (HG.out.since hs01) h1 h2).mono ?_
      rintro e w2 ⟨rfl, hs2⟩
      rw [HV.out]
      have b2 := Lib.hid (b1.out.since hs2)
      have r2 := Lib.hid (r1.out.since hs2)
      have x2 := Lib.hid (x1.out.since hs2)
      have KA2 := Lib.hid (KA.out.since hs2)
      have KB2 := Lib.hid (KB.out.since hs2)
      have hs02 := hs01.trans hs2
      have hsz2 := hs2.size
      clear b1 r1 x1 KA KB
      obtain ⟨p0, p1, _, _⟩ := b2.out.two
      obtain ⟨q0, q1, q2, q3⟩ := r2.out.two
      obtain ⟨s0, s1, _, _⟩ := x2.out.two
      go_wp2_with fail
      with_reducible refine (l1In_any node 0 ((n : Int) - 1) _).mono ?_
      rintro e w' ⟨rfl, rfl⟩
      rw [HND.out]
      go_wp2
      refine bodyPost_ret (v := .tuple #[.agg #[.slice o1 g.vs.length c1, .slice o2 g.es.length c2], .bool false]) (by simp [results, Try.results26, go_sem, *]) rfl ?_
      have hz2 := HZ2.out
      have hw2 : w1.heap.size + 1 ≤ w2.heap.size := by simpa using hsz2
      refine gbOut_mk HO.out.1 (HO.out.2.trans (by cases g; rfl)) (((KA2.out.far (by simp; omega) _).far (by simp; omega) _).mono (by omega)) (((KB2.out.far (by simp; omega) _).far (by simp; omega) _).mono (by omega)) ?_
      exact (hs02.setCell (by simp) _).setCell (by simp) _
  · have HV := Lib.hid hv
    have HO : Hid (canSet g node x = false ∧ setG g node x = g) := by
      have : canSet g node x = false := by unfold canSet; rw [hv]; simp
      exact ⟨this, by unfold setG; rw [if_neg (by rw [this]; decide)]⟩
    clear hv
    go_enter Try.func26, Try.ntmps26
    go_wp2_with fail
    generalize ((w.alloc (.cells #[.slice ao n ac, .slice bo m bc] 30)).alloc (.cells #[.slice none 0 0, .slice none 0 0] 30)) = WR at hs0 b0 r0 hz ⊢
    refine (l3Copy_any _ g _ (HG.out.since hs0) h1 h2).mono ?_
    rintro e w1 ⟨v1, rfl, ho1, hs1⟩
    obtain ⟨xa, xb, rfl, ka, ra, kb, rb⟩ := ho1
    obtain ⟨o1, c1, rfl⟩ := ka.len
    obtain ⟨o2, c2, rfl⟩ := kb.len
    have hsw := hs1.size
    have HZ2 : Hid (w.heap.size + 2 ≤ WR.heap.size) := by have := hz.out; unfold Hid; omega
    have b1 := Lib.hid ((b0.out.since hs1).alloc (.cells #[.slice o1 g.vs.length c1, .slice o2 g.es.length c2] 30))
    have r1 := Lib.hid ((r0.out.since hs1).alloc (.cells #[.slice o1 g.vs.length c1, .slice o2 g.es.length c2] 30))
    have x1 : Hid (Blk (w1.alloc (.cells #[.slice o1 g.vs.length c1, .slice o2 g.es.length c2] 30)) w1.heap.size 30 #[.slice o1 g.vs.length c1, .slice o2 g.es.length c2]) := Blk.new rfl _ _
    have KA := Lib.hid (ka.since ((Since.refl w1).alloc (.cells #[.slice o1 g.vs.length c1, .slice o2 g.es.length c2] 30)))
    have KB := Lib.hid (kb.since ((Since.refl w1).alloc (.cells #[.slice o1 g.vs.length c1, .slice o2 g.es.length c2] 30)))
    have hs01 := (hs0.trans hs1).alloc (.cells #[.slice o1 g.vs.length c1, .slice o2 g.es.length c2] 30)
    clear b0 r0 ka kb
    obtain ⟨p0, p1, _, _⟩ := b1.out.two
    go_wp2_with fail
    clear p0 p1
    refine (specVG_any _ g _ (HG.out.since hs01) h1 h2).mono ?_
    rintro e w2 ⟨rfl, hs2⟩
    rw [HV.out]
    have b2 := Lib.hid (b1.out.since hs2)
    have r2 := Lib.hid (r1.out.since hs2)
    have x2 := Lib.hid (x1.out.since hs2)
    have KA2 := Lib.hid (KA.out.since hs2)
    have KB2 := Lib.hid (KB.out.since hs2)
    have hs02 := hs01.trans hs2
    have hsz2 := hs2.size
    clear b1 r1 x1 KA KB
    obtain ⟨p0, p1, _, _⟩ := b2.out.two
    obtain ⟨q0, q1, q2, q3⟩ := r2.out.two
    obtain ⟨s0, s1, _, _⟩ := x2.out.two
    go_wp2
    refine bodyPost_ret (v := .tuple #[.agg #[.slice o1 g.vs.length c1, .slice o2 g.es.length c2], .bool false]) (by simp [results, Try.results26, go_sem, *]) rfl ?_
    have hz2 := HZ2.out
    have hw2 : w1.heap.size + 1 ≤ w2.heap.size := by simpa using hsz2
    refine gbOut_mk HO.out.1 (HO.out.2.trans (by cases g; rfl)) (((KA2.out.far (by simp; omega) _).far (by simp; omega) _).mono (by omega)) (((KB2.out.far (by simp; omega) _).far (by simp; omega) _).mono (by omega)) ?_
    exact (hs02.setCell (by simp) _).setCell (by simp) _
end Go.Proofs.Ytpmkpeclfhmhlaa
