/- The laws' comparison, marks and checks of positions; the argument opened. -/
import Derived.Test.YtmaagihfjldgeaaPs
import Derived.Test.YtmaagihfjldgeaaMarkG
import Derived.Test.YtmaagihfjldgeaaOpenG
namespace Go.Proofs.Ytmaagihfjldgeaa
set_option maxRecDepth 100000
open Go.ChangeShapes Go.WideShapes Go.ChangeAt Go.RowKit Go.Joins Go.Deep
set_option linter.unusedVariables false
set_option linter.unusedSimpArgs false

set_option maxHeartbeats 2000000 in
set_option maxRecDepth 100000 in
theorem eqPositions_any (a b : Value) (p q : Psn) (w : World) (ha : PsAt w a p) (hb : PsAt w b q) (g1 : p.ls.length ≤ 1152921504606846976) (g2 : p.fo.length ≤ 1152921504606846976) (h1 : q.ls.length ≤ 1152921504606846976) (h2 : q.fo.length ≤ 1152921504606846976) :
    Calls Try.prog 49 #[a, b] w fun e w' => e = .returned (.bool (decide (p = q))) ∧ Since w w' := by
  obtain ⟨a1, a2, rfl, ha1, ha2, _⟩ := ha
  obtain ⟨b1, b2, rfl, hb1, hb2, _⟩ := hb
  have HA1 := Lib.hid ha1
  have HA2 := Lib.hid ha2
  have HB1 := Lib.hid hb1
  have HB2 := Lib.hid hb2
  clear ha1 ha2 hb1 hb2
  obtain ⟨ao1, ac1, rfl, _⟩ := HA1.out.row
  obtain ⟨ao2, ac2, rfl, _⟩ := HA2.out.row
  obtain ⟨bo1, bc1, rfl, _⟩ := HB1.out.row
  obtain ⟨bo2, bc2, rfl, _⟩ := HB2.out.row
  obtain ⟨y, hy⟩ : ∃ y, y = ((w.alloc (.cells #[.slice ao1 p.ls.length ac1, .int .i64 p.fi, .int .i64 p.la, .slice ao2 p.fo.length ac2, .bool p.nu] 26)).alloc (.cells #[.slice bo1 q.ls.length bc1, .int .i64 q.fi, .int .i64 q.la, .slice bo2 q.fo.length bc2, .bool q.nu] 26)) := ⟨_, rfl⟩
  have hs0 : Since w y := by rw [hy]; exact ((Since.refl w).alloc _).alloc _
  have B0 : Hid (Blk y w.heap.size 26 #[.slice ao1 p.ls.length ac1, .int .i64 p.fi, .int .i64 p.la, .slice ao2 p.fo.length ac2, .bool p.nu]) := by rw [hy]; exact (Blk.new rfl _ _).alloc _
  have B1 : Hid (Blk y (w.heap.size + 1) 26 #[.slice bo1 q.ls.length bc1, .int .i64 q.fi, .int .i64 q.la, .slice bo2 q.fo.length bc2, .bool q.nu]) := by rw [hy]; exact Blk.new (by simp) _ _
  have HY := Lib.hid hy
  clear hy
  have HQ := Lib.hid (Psn.eq_iff p q)
  by_cases e0 : p.ls = q.ls
  · have E0 := Lib.hid e0
    clear e0
    by_cases e1 : p.fi = q.fi
    · have E1 := Lib.hid e1
      clear e1
      by_cases e2 : p.la = q.la
      · have E2 := Lib.hid e2
        clear e2
        by_cases e3 : p.fo = q.fo
        · have E3 := Lib.hid e3
          clear e3
          by_cases e4 : p.nu = q.nu
          · have E4 := Lib.hid e4
            clear e4
            have HD : Hid (decide (p = q) = true) := by unfold Hid; exact decide_eq_true (HQ.out.2 ⟨E0.out, E1.out, E2.out, E3.out, E4.out⟩)
            have D0 : Hid (decide (p.ls = q.ls) = true) := by unfold Hid; exact decide_eq_true E0.out
            have d1 : (p.fi != q.fi) = false := by simp [E1.out]
            have d2 : (p.la != q.la) = false := by simp [E2.out]
            have D3 : Hid (decide (p.fo = q.fo) = true) := by unfold Hid; exact decide_eq_true E3.out
            have d4 : (p.nu == q.nu) = true := by simp [E4.out]
            go_enter Try.func49, Try.ntmps49
            go_wp2_with fail
            rw [← HY.out]
            refine (eqIntS_any _ _ p.ls q.ls _ (HA1.out.since hs0) (HB1.out.since hs0) (by omega) (by omega)).mono ?_
            rintro e w1 ⟨rfl, hs1⟩
            rw [D0.out]
            have hs01 := hs0.trans hs1
            obtain ⟨⟨p0, p1, p2, p3, p4⟩, _⟩ := (B0.out.since hs1).fiveP
            obtain ⟨⟨q0, q1, q2, q3, q4⟩, _⟩ := (B1.out.since hs1).fiveP
            go_wp2_with fail
            refine (eqIntS_any _ _ p.fo q.fo _ (HA2.out.since hs01) (HB2.out.since hs01) (by omega) (by omega)).mono ?_
            rintro e w2 ⟨rfl, hs2⟩
            rw [D3.out]
            have hs02 := hs01.trans hs2
            obtain ⟨⟨p0', p1', p2', p3', p4'⟩, _⟩ := (B0.out.since (hs1.trans hs2)).fiveP
            obtain ⟨⟨q0', q1', q2', q3', q4'⟩, _⟩ := (B1.out.since (hs1.trans hs2)).fiveP
            go_wp2
            go_ret
            exact ⟨ret_bool HD.out.symm, hs02⟩
          · have N4 := Lib.hid e4
            clear e4
            have HD : Hid (decide (p = q) = false) := by unfold Hid; exact decide_eq_false (fun e => N4.out ((HQ.out.1 e).2.2.2.2))
            have D0 : Hid (decide (p.ls = q.ls) = true) := by unfold Hid; exact decide_eq_true E0.out
            have d1 : (p.fi != q.fi) = false := by simp [E1.out]
            have d2 : (p.la != q.la) = false := by simp [E2.out]
            have D3 : Hid (decide (p.fo = q.fo) = true) := by unfold Hid; exact decide_eq_true E3.out
            have d4 : (p.nu == q.nu) = false := by simpa using N4.out
            go_enter Try.func49, Try.ntmps49
            go_wp2_with fail
            rw [← HY.out]
            refine (eqIntS_any _ _ p.ls q.ls _ (HA1.out.since hs0) (HB1.out.since hs0) (by omega) (by omega)).mono ?_
            rintro e w1 ⟨rfl, hs1⟩
            rw [D0.out]
            have hs01 := hs0.trans hs1
            obtain ⟨⟨p0, p1, p2, p3, p4⟩, _⟩ := (B0.out.since hs1).fiveP
            obtain ⟨⟨q0, q1, q2, q3, q4⟩, _⟩ := (B1.out.since hs1).fiveP
            go_wp2_with fail
            refine (eqIntS_any _ _ p.fo q.fo _ (HA2.out.since hs01) (HB2.out.since hs01) (by omega) (by omega)).mono ?_
            rintro e w2 ⟨rfl, hs2⟩
            rw [D3.out]
            have hs02 := hs01.trans hs2
            obtain ⟨⟨p0', p1', p2', p3', p4'⟩, _⟩ := (B0.out.since (hs1.trans hs2)).fiveP
            obtain ⟨⟨q0', q1', q2', q3', q4'⟩, _⟩ := (B1.out.since (hs1.trans hs2)).fiveP
            go_wp2
            go_ret
            exact ⟨ret_bool HD.out.symm, hs02⟩
        · have N3 := Lib.hid e3
          clear e3
          have HD : Hid (decide (p = q) = false) := by unfold Hid; exact decide_eq_false (fun e => N3.out ((HQ.out.1 e).2.2.2.1))
          have D0 : Hid (decide (p.ls = q.ls) = true) := by unfold Hid; exact decide_eq_true E0.out
          have d1 : (p.fi != q.fi) = false := by simp [E1.out]
          have d2 : (p.la != q.la) = false := by simp [E2.out]
          have D3 : Hid (decide (p.fo = q.fo) = false) := by unfold Hid; exact decide_eq_false N3.out
          go_enter Try.func49, Try.ntmps49
          go_wp2_with fail
          rw [← HY.out]
          refine (eqIntS_any _ _ p.ls q.ls _ (HA1.out.since hs0) (HB1.out.since hs0) (by omega) (by omega)).mono ?_
          rintro e w1 ⟨rfl, hs1⟩
          rw [D0.out]
          have hs01 := hs0.trans hs1
          obtain ⟨⟨p0, p1, p2, p3, p4⟩, _⟩ := (B0.out.since hs1).fiveP
          obtain ⟨⟨q0, q1, q2, q3, q4⟩, _⟩ := (B1.out.since hs1).fiveP
          go_wp2_with fail
          refine (eqIntS_any _ _ p.fo q.fo _ (HA2.out.since hs01) (HB2.out.since hs01) (by omega) (by omega)).mono ?_
          rintro e w2 ⟨rfl, hs2⟩
          rw [D3.out]
          have hs02 := hs01.trans hs2
          obtain ⟨⟨p0', p1', p2', p3', p4'⟩, _⟩ := (B0.out.since (hs1.trans hs2)).fiveP
          obtain ⟨⟨q0', q1', q2', q3', q4'⟩, _⟩ := (B1.out.since (hs1.trans hs2)).fiveP
          go_wp2
          go_ret
          exact ⟨ret_bool HD.out.symm, hs02⟩
      · have N2 := Lib.hid e2
        clear e2
        have HD : Hid (decide (p = q) = false) := by unfold Hid; exact decide_eq_false (fun e => N2.out ((HQ.out.1 e).2.2.1))
        have D0 : Hid (decide (p.ls = q.ls) = true) := by unfold Hid; exact decide_eq_true E0.out
        have d1 : (p.fi != q.fi) = false := by simp [E1.out]
        have d2 : (p.la != q.la) = true := by simpa using N2.out
        go_enter Try.func49, Try.ntmps49
        go_wp2_with fail
        rw [← HY.out]
        refine (eqIntS_any _ _ p.ls q.ls _ (HA1.out.since hs0) (HB1.out.since hs0) (by omega) (by omega)).mono ?_
        rintro e w1 ⟨rfl, hs1⟩
        rw [D0.out]
        have hs01 := hs0.trans hs1
        obtain ⟨⟨p0, p1, p2, p3, p4⟩, _⟩ := (B0.out.since hs1).fiveP
        obtain ⟨⟨q0, q1, q2, q3, q4⟩, _⟩ := (B1.out.since hs1).fiveP
        go_wp2
        go_ret
        exact ⟨ret_bool HD.out.symm, hs01⟩
    · have N1 := Lib.hid e1
      clear e1
      have HD : Hid (decide (p = q) = false) := by unfold Hid; exact decide_eq_false (fun e => N1.out ((HQ.out.1 e).2.1))
      have D0 : Hid (decide (p.ls = q.ls) = true) := by unfold Hid; exact decide_eq_true E0.out
      have d1 : (p.fi != q.fi) = true := by simpa using N1.out
      go_enter Try.func49, Try.ntmps49
      go_wp2_with fail
      rw [← HY.out]
      refine (eqIntS_any _ _ p.ls q.ls _ (HA1.out.since hs0) (HB1.out.since hs0) (by omega) (by omega)).mono ?_
      rintro e w1 ⟨rfl, hs1⟩
      rw [D0.out]
      have hs01 := hs0.trans hs1
      obtain ⟨⟨p0, p1, p2, p3, p4⟩, _⟩ := (B0.out.since hs1).fiveP
      obtain ⟨⟨q0, q1, q2, q3, q4⟩, _⟩ := (B1.out.since hs1).fiveP
      go_wp2
      go_ret
      exact ⟨ret_bool HD.out.symm, hs01⟩
  · have N0 := Lib.hid e0
    clear e0
    have HD : Hid (decide (p = q) = false) := by unfold Hid; exact decide_eq_false (fun e => N0.out ((HQ.out.1 e).1))
    have D0 : Hid (decide (p.ls = q.ls) = false) := by unfold Hid; exact decide_eq_false N0.out
    go_enter Try.func49, Try.ntmps49
    go_wp2_with fail
    rw [← HY.out]
    refine (eqIntS_any _ _ p.ls q.ls _ (HA1.out.since hs0) (HB1.out.since hs0) (by omega) (by omega)).mono ?_
    rintro e w1 ⟨rfl, hs1⟩
    rw [D0.out]
    have hs01 := hs0.trans hs1
    obtain ⟨⟨p0, p1, p2, p3, p4⟩, _⟩ := (B0.out.since hs1).fiveP
    obtain ⟨⟨q0, q1, q2, q3, q4⟩, _⟩ := (B1.out.since hs1).fiveP
    go_wp2
    go_ret
    exact ⟨ret_bool HD.out.symm, hs01⟩
/-- What markPositions writes. -/
def cntP (k : Int) (p : Psn) : Psn := ⟨count k p.ls.length, p.fi, p.la, count (k + p.ls.length) p.fo.length, p.nu⟩
def szOfP (p : Psn) : Int := (p.ls.length : Int) + (p.fo.length : Int)
def MarkPOut (lo : Nat) (w : World) (v : Value) (k : Int) (p : Psn) (hi : Nat) (e : Ending) (w' : World) : Prop :=
  e = .returned (.int .i64 (k + szOfP p)) ∧ OwnPs lo w' v (cntP k p) ∧ Within lo hi w w'
set_option maxRecDepth 100000 in
theorem markPositions_any (lo hi : Nat) (v : Value) (p : Psn) (k : Int) (w : World) (h : OwnPs lo w v p) (hr : ∀ a b x y z, v = .agg #[a, x, y, b, z] → InR lo hi a ∧ InR lo hi b) (hhi : hi ≤ w.heap.size) (hk0 : 0 ≤ k) (hk9 : k ≤ 1152921504) (h1 : p.ls.length ≤ 1152921504) (h2 : p.fo.length ≤ 1152921504) :
    Calls Try.prog 50 #[v, .int .i64 k] w (MarkPOut lo w v k p hi) := by
  obtain ⟨a, b, rfl, ha, hb, hab, hi1, hi2⟩ := h
  obtain ⟨ra, rb⟩ := hr a b _ _ _ rfl
  have HA := Lib.hid ha
  have HB := Lib.hid hb
  have HAB := Lib.hid hab
  clear ha hb hr hab
  obtain ⟨ao, ac, rfl⟩ := HA.out.len
  obtain ⟨bo, bc, rfl⟩ := HB.out.len
  obtain ⟨y, hy⟩ : ∃ y, y = (w.alloc (.cells #[.slice ao p.ls.length ac, .int .i64 p.fi, .int .i64 p.la, .slice bo p.fo.length bc, .bool p.nu] 26)) := ⟨_, rfl⟩
  have hs0 : Since w y := by rw [hy]; exact (Since.refl w).alloc _
  have B0 : Hid (Blk y w.heap.size 26 #[.slice ao p.ls.length ac, .int .i64 p.fi, .int .i64 p.la, .slice bo p.fo.length bc, .bool p.nu]) := by rw [hy]; exact Blk.new rfl _ _
  have HY := Lib.hid hy
  clear hy
  have hn0 : 0 ≤ k + (p.ls.length : Int) := by omega
  have hn9 : k + (p.ls.length : Int) ≤ 1152921504606846976 := by omega
  go_enter Try.func50, Try.ntmps50
  go_wp2_with fail
  rw [← HY.out]
  refine (markIntS_any lo _ p.ls k _ (HA.out.since hs0) hk0 (by omega) (by omega)).mono ?_
  rintro e w1 ⟨rfl, ho1, hg1⟩
  have hw1 : Hid (Within lo hi w w1) := (Within.of_since hs0).trans (Within.of_grown hg1 ra)
  have b0 : Hid (Blk w1 w.heap.size 26 #[.slice ao p.ls.length ac, .int .i64 p.fi, .int .i64 p.la, .slice bo p.fo.length bc, .bool p.nu]) := B0.out.within (Within.of_grown hg1 ra) (.inr hhi)
  have hob : Hid (Own lo w1 (.slice bo p.fo.length bc) p.fo) := ⟨HB.out.1, (HB.out.since hs0).2.kept hg1 (by
    rcases HAB.out with e | e
    · rw [e]; cases (Value.slice bo p.fo.length bc).ownBlock with
      | none => exact .inl rfl
      | some g => exact .inr (by simp)
    · exact .inr (fun e2 => e e2.symm))⟩
  have HO1 := Lib.hid ho1
  clear ho1 hg1
  obtain ⟨⟨p0, p1, p2, p3, p4⟩, _⟩ := b0.out.fiveP
  go_wp2_with fail
  refine (markIntS_any lo _ p.fo (k + (p.ls.length : Int)) _ hob.out hn0 (by omega) (by omega)).mono ?_
  rintro e w2 ⟨rfl, ho2, hg2⟩
  have hoa : Own lo w2 (.slice ao p.ls.length ac) (count k p.ls.length) := ⟨HO1.out.1, HO1.out.2.kept hg2 HAB.out⟩
  have HO2 := Lib.hid ho2
  have HO3 := Lib.hid hoa
  have hw2 : Hid (Within lo hi w w2) := hw1.out.trans (Within.of_grown hg2 rb)
  clear ho2 hoa hg2
  go_wp2
  go_ret
  exact ⟨ret_int (by unfold szOfP; omega), ⟨_, _, rfl, HO3.out, HO2.out, HAB.out, hi1, hi2⟩, hw2.out⟩
theorem cells_lpos : Try.prog.cellsOf 51 = 5 := by kernel_rfl
theorem under_lpos : ∃ f0 f1 f2 f3 f4 : Field, Try.prog.underlying 51 = some (.struct #[f0, f1, f2, f3, f4]) ∧ (f0.type = 24 ∧ f1.type = 3 ∧ f2.type = 3 ∧ f3.type = 24 ∧ f4.type = 4) ∧ oneCellFields Try.prog #[f0, f1, f2, f3, f4] = true :=
  ⟨_, _, _, _, _, Try.underlying51, ⟨rfl, rfl, rfl, rfl, rfl⟩, by kernel_rfl⟩
theorem array5 {α : Type} {cs : Array α} (h : cs.size = 5) : ∃ c0 c1 c2 c3 c4, cs = #[c0, c1, c2, c3, c4] := by
  obtain ⟨l⟩ := cs
  match l, h with
  | [c0, c1, c2, c3, c4], _ => exact ⟨c0, c1, c2, c3, c4, rfl⟩
theorem pos_open {H : Type} {enc : TypeId × Value → H} {W : World} {base : Nat} {v : Value} {d : DataW H} {ps : List MemPlace} (hk : Value.okWide Try.prog W .any base 51 v)
    (h : DataW.Trod enc Try.prog W 0 (fun _ => true) true 51 v d ps) : ∃ p : Psn, PsAt W v p ∧ (p.ls.length ≤ maxLen ∧ p.fo.length ≤ maxLen) := by
  obtain ⟨f0, f1, f2, f3, f4, hu, ⟨t0, t1, t2, t3, t4⟩, hone⟩ := under_lpos
  obtain ⟨cs, rfl, hsz⟩ := okWide_struct hu hk
  obtain ⟨c0, c1, c2, c3, c4, rfl⟩ := array5 (hsz.trans cells_lpos)
  obtain ⟨fuel, hf⟩ := h
  obtain ⟨xs, n, _, hz, _, hxl, hx⟩ := DataW.trod_struct hu hf
  clear hz
  obtain ⟨o0, k0⟩ := hone_of hone 0 f0 rfl
  obtain ⟨o1, k1⟩ := hone_of hone 1 f1 rfl
  obtain ⟨o2, k2⟩ := hone_of hone 2 f2 rfl
  obtain ⟨o3, k3⟩ := hone_of hone 3 f3 rfl
  obtain ⟨o4, k4⟩ := hone_of hone 4 f4 rfl
  have g0 := hx 0 f0 rfl
  have g1 := hx 1 f1 rfl
  have g2 := hx 2 f2 rfl
  have g3 := hx 3 f3 rfl
  have g4 := hx 4 f4 rfl
  simp only [o0, k0, o1, k1, o2, k2, o3, k3, o4, k4] at g0 g1 g2 g3 g4
  match xs, hxl with
  | [y0, y1, y2, y3, y4], _ =>
    simp [Value.cells] at g0 g1 g2 g3 g4
    rw [t0] at g0
    rw [t1] at g1
    rw [t2] at g2
    rw [t3] at g3
    rw [t4] at g4
    obtain ⟨ls, h0, l0⟩ := ints_of g0
    obtain ⟨fo, h3, l3⟩ := ints_of g3
    obtain ⟨x1, e1, _, w1⟩ := DataW.trod_int Try.underlying3 g1
    obtain ⟨x2, e2, _, w2⟩ := DataW.trod_int Try.underlying3 g2
    obtain ⟨x4, e4, _⟩ := DataW.trod_bool Try.underlying4 g4
    simp at e1 e2 e4
    subst e1 e2 e4
    exact ⟨⟨ls, x1, x2, fo, x4⟩, ⟨_, _, rfl, h0, h3, wf_i64 w1, wf_i64 w2⟩, l0, l3⟩
end Go.Proofs.Ytmaagihfjldgeaa
