/- Copies of a history: the model's l7Copy, the program's copyHistory. -/
import Derived.Test.YtgdeiecbkmhbeaaHap
import Derived.Test.YtgdeiecbkmhbeaaCopyS
import Derived.Test.YtgdeiecbkmhbeaaCopyI
namespace Go.Proofs.Ytgdeiecbkmhbeaa
set_option maxRecDepth 100000
open Go.ChangeShapes Go.WideShapes Go.ChangeAt Go.RowKit
set_option linter.unusedVariables false
set_option linter.unusedSimpArgs false

set_option maxHeartbeats 2000000 in
set_option maxRecDepth 100000 in
theorem l7Copy_any (v : Value) (x : Hst) (w : World) (h : HstAt w v x) (h1 : SmH x) :
    Calls Try.prog 55 #[v] w (HOut w x) := by
  obtain ⟨b, rfl, hb⟩ := h
  obtain ⟨bo, bc, rfl, HC⟩ := hb
  have HSM := Lib.hid h1
  obtain ⟨n, hn⟩ : ∃ n, n = x.gs.length := ⟨_, rfl⟩
  have hn9 : n ≤ 1048577 := by have := h1.1; omega
  have HN := Lib.hid hn
  rw [← hn]
  clear hn h1
  obtain ⟨w1, hw1⟩ : ∃ y, y = (w.alloc (.cells #[.int .i64 x.f, .slice bo n bc] 26)).alloc (.cells #[.int .i64 0, .slice none 0 0] 26) := ⟨_, rfl⟩
  have hs01 : Since w w1 := by rw [hw1]; exact ((Since.refl w).alloc _).alloc _
  have hz1 : w.heap.size + 1 + 1 = w1.heap.size := by rw [hw1]; simp
  have BW : Hid (Blk w1 w.heap.size 26 #[.int .i64 x.f, .slice bo n bc]) := by rw [hw1]; exact (Blk.new rfl _ _).alloc _
  have BR : Hid (Blk w1 (w.heap.size + 1) 26 #[.int .i64 0, .slice none 0 0]) := by rw [hw1]; exact Blk.new (by simp) _ _
  obtain ⟨y, hyy⟩ : ∃ y, y = w1.alloc (.cells #[.int .i64 x.f, .slice none 0 0] 26) := ⟨_, rfl⟩
  have hsx : Since w1 y := by rw [hyy]; exact (Since.refl w1).alloc _
  have hBX : Hid (Blk y w1.heap.size 26 #[.int .i64 x.f, .slice none 0 0]) := by rw [hyy]; exact Blk.new (by omega) _ _
  have hzy : w1.heap.size + 1 = y.heap.size := by rw [hyy]; simp
  obtain ⟨p0, p1, _, _⟩ := BW.out.two
  rw [hw1] at p0 p1
  go_enter Try.func55, Try.ntmps55
  go_wp2_with fail
  rw [← hw1] at p0 p1 ⊢
  clear hw1
  go_wp2_with fail
  rw [← hyy]
  clear hyy p0 p1
  go_loopw [4] (fun i wr => ∃ (k : Nat) (v : Value), k ≤ n ∧ i = .int .i64 k ∧ Hid (Blk wr w1.heap.size 26 #[.int .i64 x.f, v]) ∧ Hid (OwnR (w1.heap.size + 1) wr.heap.size wr v (x.gs.take k)) ∧ Since w1 wr) (fun i _ => n - (intOf i).toNat)
  case atStart => exact ⟨0, nilV, Nat.zero_le _, rfl, hBX.out, OwnR.nil _ _ _ (by omega), hsx⟩
  case round =>
    obtain ⟨k, v, hk, rfl, HB, HOw, hsw⟩ := hrel
    obtain ⟨q0, q1, _, _⟩ := (BW.out.since hsw).two
    have hs0w := hs01.trans hsw
    by_cases hlt : k < n
    · have hx : k < x.gs.length := by have := HN.out; omega
      obtain ⟨be, oe, p, q, rfl, hbe, c0, c1, hg⟩ := HC.out k hx
      obtain ⟨vo, vc, eo, ec, rfl, rfl⟩ := grf_shape hg
      have HTK : Hid (x.gs.take (k + 1) = x.gs.take k ++ [x.gs[k]]) := List.take_succ_eq_append_getElem hx
      have HB0 := Lib.hid (HSM.out.get k hx)
      have HG := Lib.hid (hg.since hs0w)
      have hlen : (x.gs.take k).length ≤ 2097154 := by rw [List.length_take]; omega
      have s1 := since_cells hs0w hbe
      rw [← s1] at c0 c1
      clear s1 hg
      generalize x.gs[k] = g at c0 c1 HG HB0 HTK
      have kk0 : (0 : Int) ≤ (k : Int) := by omega
      have kk1 : (k : Int) < (n : Int) := by omega
      have hxb := HB.out.lt
      go_wp2_with fail
      refine (l3Copy_any _ g _ HG.out HB0.out.1 HB0.out.2).mono ?_
      rintro en w2 ⟨v2, rfl, ho2, hs2⟩
      obtain ⟨pa, pb, rfl, ka, ra, kb, rb⟩ := ho2
      obtain ⟨ao, ac, rfl⟩ := ka.len
      obtain ⟨zo, zc, rfl⟩ := kb.len
      have HO2 : Hid (OwnG wr.heap.size w2.heap.size w2 (.agg #[.slice ao g.vs.length ac, .slice zo g.es.length zc]) g) := ⟨_, _, rfl, ka, ra, kb, rb⟩
      clear ka ra kb rb c0 c1 q0 q1
      have hz2 := hs2.size
      obtain ⟨y3, hy3⟩ : ∃ y3, y3 = w2.alloc (.cells #[.slice ao g.vs.length ac, .slice zo g.es.length zc] 39) := ⟨_, rfl⟩
      have hs3 : Since w2 y3 := by rw [hy3]; exact (Since.refl w2).alloc _
      have hz3 : w2.heap.size + 1 = y3.heap.size := by rw [hy3]; simp
      have BG : Hid (Blk y3 w2.heap.size 39 #[.slice ao g.vs.length ac, .slice zo g.es.length zc]) := by rw [hy3]; exact Blk.new rfl _ _
      have HO3 : Hid (OwnG wr.heap.size y3.heap.size y3 (.agg #[.slice ao g.vs.length ac, .slice zo g.es.length zc]) g) := (HO2.out.since hs3).wider (Nat.le_refl _) (by omega)
      have hs23 := hs2.trans hs3
      have HB3 := Lib.hid (HB.out.since hs23)
      have HOw3 := Lib.hid (HOw.out.since hs23)
      have hsw3 := hsw.trans hs23
      obtain ⟨vo2, vc2, rfl⟩ := HOw.out.len
      generalize hvv : Value.slice vo2 (x.gs.take k).length vc2 = v at HB3 HOw3
      clear HB HOw hvv
      obtain ⟨x0, x1, _, _⟩ := HB3.out.two
      obtain ⟨g0, g1, _, _⟩ := BG.out.two
      rw [hy3] at x0 x1 g0 g1
      have HO5 : Hid (∀ W : World, Since y3 W → True) := fun _ _ => trivial
      go_wp2_with fail
      rw [← hy3] at x0 x1 g0 g1 ⊢
      clear hy3
      go_wp2_with (at_builtin; go_must (refine wpList_append_gr rfl (.tmp 23) (.tmp 25) rfl v (x.gs.take k) rfl HOw3.out (by omega) (by omega) _ _ _ _ _ _ g HO3.out rfl hlen ?_); intro v4 w4 ho4 hg4; rw [← HTK.out] at ho4; have hc4 : Since w1 w4 := (hsw3.alloc _).grown hg4 (fun z hz => by obtain ⟨ps, hr, _⟩ := HOw3.out; have := (hr.lt z hz).1; omega); have HB4 := Lib.hid ((HB3.out.alloc _).grwG hg4 (fun e => by obtain ⟨ps, hr, _⟩ := HOw3.out; have := (hr.lt _ e.symm).1; omega)); obtain ⟨o4, c4, hv4⟩ := ho4.len; obtain ⟨n4, hn4⟩ : ∃ n, (x.gs.take (k + 1)).length = n := ⟨_, rfl⟩; rw [hn4] at hv4; subst hv4; clear hn4; have HO4 := Lib.hid ho4; clear ho4 x0 x1 g0 g1; obtain ⟨x0, x1, x2, x3⟩ := HB4.out.two)
      have HB5 : Hid (Blk (w4.setCell ⟨w1.heap.size, 1, none⟩ (.slice o4 n4 c4)) w1.heap.size 26 #[.int .i64 x.f, .slice o4 n4 c4]) := HB4.out.set 1 (.slice o4 n4 c4)
      have HO6 : Hid (OwnR (w1.heap.size + 1) (w4.setCell ⟨w1.heap.size, 1, none⟩ (.slice o4 n4 c4)).heap.size (w4.setCell ⟨w1.heap.size, 1, none⟩ (.slice o4 n4 c4)) (.slice o4 n4 c4) (x.gs.take (k + 1))) := (HO4.out.far (.inl (Nat.lt_succ_self _)) 1 (.slice o4 n4 c4)).wider (Nat.le_refl _) (by simp)
      have hcz : Since w1 (w4.setCell ⟨w1.heap.size, 1, none⟩ (.slice o4 n4 c4)) := hc4.setCell (Nat.le_refl _) _
      go_roundw
      case rel => exact ⟨k + 1, _, by omega, by go_num, HB5.out, HO6.out, hcz⟩
      case measure => simp [intOf]; omega
    · obtain rfl : k = n := by omega
      have HOF : Hid (OwnR (w1.heap.size + 1) wr.heap.size wr v x.gs) := by
        have := HOw.out
        rw [List.take_of_length_le (by have := HN.out; omega)] at this
        exact this
      obtain ⟨so, sc, rfl⟩ := HOF.out.len
      obtain ⟨r0, r1, r2, r3⟩ := (BR.out.since hsw).two
      obtain ⟨s0, s1, _, _⟩ := HB.out.two
      clear HOw
      go_wp2_with fail
      refine bodyPost_ret (v := .agg #[.int .i64 x.f, .slice so x.gs.length sc]) (by simp [results, Try.results55, go_sem, *]) rfl ?_
      have h2 := ((HOF.out.far (B := w.heap.size + 1) (.inl (by omega)) 0 (.int .i64 x.f)).far (B := w.heap.size + 1) (.inl (by omega)) 1 (.slice so x.gs.length sc)).wider (by omega : w.heap.size ≤ w1.heap.size + 1) (Nat.le_refl _)
      exact ⟨_, rfl, ⟨_, rfl, h2.wider (Nat.le_refl _) (by simp)⟩, (hs0w.setCell (by simp) _).setCell (by simp) _⟩
/-- The answer of a function that gives a pointer to a history. -/
def PHOut (w : World) (x : Hst) (e : Ending) (w' : World) : Prop :=
  ∃ B so sc, e = .returned (.pointer (some ⟨B, 0, none⟩)) ∧ w.heap.size ≤ B ∧ Blk w' B 26 #[.int .i64 x.f, .slice so x.gs.length sc] ∧ OwnR w.heap.size w'.heap.size w' (.slice so x.gs.length sc) x.gs ∧ Since w w'
end Go.Proofs.Ytgdeiecbkmhbeaa
