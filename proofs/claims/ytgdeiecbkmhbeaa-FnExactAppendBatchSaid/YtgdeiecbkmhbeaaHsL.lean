/- The laws' helpers on histories: copies, sizes, comparisons, marks and checks. -/
import Derived.Test.YtgdeiecbkmhbeaaHsM
import Derived.Test.YtgdeiecbkmhbeaaK1
import Derived.Test.YtgdeiecbkmhbeaaK2
namespace Go.Proofs.Ytgdeiecbkmhbeaa
set_option maxRecDepth 100000
open Go.ChangeShapes Go.WideShapes Go.ChangeAt Go.RowKit
set_option linter.unusedVariables false
set_option linter.unusedSimpArgs false

theorem grf_shape {w : World} {p q : Value} {g : Grf} (h : GrfAt w (.agg #[p, q]) g) : ∃ vo vc eo ec, p = .slice vo g.vs.length vc ∧ q = .slice eo g.es.length ec := by
  obtain ⟨a, b, e, ha, hb⟩ := h
  injection e with e; injection e with e; injection e with e1 e2; injection e2 with e2 e3
  subst e1; subst e2
  obtain ⟨vo, vc, rfl, _⟩ := ha.row
  obtain ⟨eo, ec, rfl⟩ := hb.len
  exact ⟨vo, vc, eo, ec, rfl, rfl⟩
/-- small enough to be compared and marked -/
def BgH (x : Hst) : Prop := x.gs.length ≤ 2097154 ∧ totH x.gs ≤ 2097154
theorem SmH.bg {x : Hst} (h : SmH x) : BgH x := ⟨Nat.le_trans h.1 (by decide), Nat.le_trans h.2 (by decide)⟩
theorem big_get {gs : List Grf} (h : totH gs ≤ 2097154) (k : Nat) (hk : k < gs.length) : (gs[k]).vs.length ≤ 2097154 ∧ (gs[k]).es.length ≤ 2097154 := by
  have := totH_get gs k hk
  unfold totG at this; omega
/-! copies -/
theorem padP_set (ps : List (Value × Value)) (n k : Nat) (hk : ps.length = k) (hlt : k < n) (p : Value × Value) : (ps ++ List.replicate (n - k) zeroP).set k p = (ps ++ [p]) ++ List.replicate (n - (k + 1)) zeroP := by
  rw [List.set_append, if_neg (by omega), hk, Nat.sub_self, show n - k = (n - (k + 1)) + 1 from by omega, List.replicate_succ, List.set_cons_zero, List.append_assoc]; rfl
theorem padP_len (ps : List (Value × Value)) (n k : Nat) (hk : ps.length = k) (hle : k ≤ n) : (ps ++ List.replicate (n - k) zeroP).length = n := by simp; omega
theorem padP_get (ps : List (Value × Value)) (n k : Nat) (hk : ps.length = k) (hlt : k < n) : (ps ++ List.replicate (n - k) zeroP)[k]'(by rw [padP_len ps n k hk (by omega)]; exact hlt) = zeroP := by
  rw [List.getElem_append_right (by omega), List.getElem_replicate]
theorem row_setP {w : World} {base g n cap : Nat} {ps : List (Value × Value)} (h : w.ownsRow base 39 2 (.slice (some ⟨g, 0, none⟩) n cap) n (gcells ps)) (k : Nat) (hk : k < ps.length) (p q : Value) :
    ((w.setCell ⟨g, k * 2, none⟩ p).setCell ⟨g, k * 2 + 1, none⟩ q).ownsRow base 39 2 (.slice (some ⟨g, 0, none⟩) n cap) n (gcells (ps.set k (p, q))) := by
  rw [← gcells_set ps k hk (p, q)]
  exact ((h.stored _ _).1.stored _ _).1
theorem info_graph2 : ∃ i0, Try.prog.info? 39 = some i0 ∧ i0.zero = some (.agg #[nilV, nilV]) ∧ i0.size = 2 ∧ i0.bytes = 48 := by
  obtain ⟨i0, h, h1, h2, h3⟩ := info_parts info_graph
  exact ⟨i0, h, h1, h2, h3⟩
def RowOut (w : World) (gs : List Grf) (e : Ending) (w' : World) : Prop := ∃ v, e = .returned v ∧ OwnR w.heap.size w'.heap.size w' v gs ∧ Since w w'
/-- What a loop that fills a row of graphs has done after k rounds. -/
def FillR (B : Nat) (w wr : World) (n k : Nat) (gs : List Grf) : Prop :=
  ∃ ps, ps.length = k ∧ wr.ownsRow B 39 2 (.slice (some ⟨B, 0, none⟩) n n) n (gcells (ps ++ List.replicate (n - k) zeroP)) ∧ Nest wr (B + 1) wr.heap.size ps (gs.take k) ∧ Since w wr
theorem FillR.step {B : Nat} {w wr w2 : World} {n k : Nat} {gs : List Grf} {p q : Value} (h : FillR B w wr n k gs) (hB : w.heap.size ≤ B) (hB2 : B < wr.heap.size) (hk : k < n) (hkg : k < gs.length) (hs : Since wr w2) (ho : OwnG wr.heap.size w2.heap.size w2 (.agg #[p, q]) gs[k]) :
    FillR B w ((w2.setCell ⟨B, k * 2, none⟩ p).setCell ⟨B, k * 2 + 1, none⟩ q) n (k + 1) gs := by
  obtain ⟨ps, hl, hr, hn, hsw⟩ := h
  have hz := hs.size
  have hlen : k < (ps ++ List.replicate (n - k) zeroP).length := by rw [padP_len ps n k hl (by omega)]; exact hk
  refine ⟨ps ++ [(p, q)], by simp [hl], ?_, ?_, (((hsw.trans hs).setCell hB _).setCell hB _)⟩
  · have := row_setP (row_since hr hs) k hlen p q
    rw [padP_set ps n k hl hk] at this
    exact this
  · rw [List.take_succ_eq_append_getElem hkg]
    have h1 : Nest w2 (B + 1) w2.heap.size (ps ++ [(p, q)]) (gs.take k ++ [gs[k]]) := Nest.snoc (hn.since hs) ho hz
    have h2 := (h1.far (B := B) (.inl (Nat.lt_succ_self _)) (k * 2) p).far (B := B) (.inl (Nat.lt_succ_self _)) (k * 2 + 1) q
    exact h2.wider (Nat.le_refl _) (by simp)
theorem FillR.cells {B : Nat} {w wr : World} {n k : Nat} {gs : List Grf} (h : FillR B w wr n k gs) (hk : k < n) :
    wr.cell? ⟨B, k * 2, none⟩ = some nilV ∧ wr.cell? ⟨B, k * 2 + 1, none⟩ = some nilV ∧ wr.frozen? ⟨B, k * 2, none⟩ = false ∧ wr.frozen? ⟨B, k * 2 + 1, none⟩ = false := by
  obtain ⟨ps, hl, hr, hn, hsw⟩ := h
  have hlen := padP_len ps n k hl (by omega)
  obtain ⟨d0, d1⟩ := ownR_cells hr hlen.symm k (by omega)
  rw [padP_get ps n k hl hk] at d0 d1
  exact ⟨d0, d1, hr.frozenAt _, hr.frozenAt _⟩
theorem FillR.since {B : Nat} {w wr w2 : World} {n k : Nat} {gs : List Grf} (h : FillR B w wr n k gs) (hs : Since wr w2) : FillR B w w2 n k gs := by
  obtain ⟨ps, hl, hr, hn, hsw⟩ := h
  exact ⟨ps, hl, row_since hr hs, (hn.since hs).wider (Nat.le_refl _) hs.size, hsw.trans hs⟩
theorem FillR.done {B : Nat} {w wr : World} {n : Nat} {gs : List Grf} (h : FillR B w wr n n gs) (hn : n = gs.length) (hB : w.heap.size ≤ B) : OwnR w.heap.size wr.heap.size wr (.slice (some ⟨B, 0, none⟩) n n) gs := by
  obtain ⟨ps, hl, hr, hN, hsw⟩ := h
  rw [Nat.sub_self] at hr
  simp only [List.replicate_zero, List.append_nil] at hr
  rw [List.take_of_length_le (by omega)] at hN
  subst hn
  refine ⟨ps, row_mono hr hB, by omega, fun k hk => ?_, hN.wider (by omega) (Nat.le_refl _)⟩
  have := hr.lt k hk; omega
theorem FillR.zero {w w1 : World} {n : Nat} {gs : List Grf} (hown : w1.ownsRow w.heap.size 39 2 (.slice (some ⟨w.heap.size, 0, none⟩) n n) n (madeCells (Value.agg #[nilV, nilV]).cells (n * 2)).toList) (hs : Since w w1) (hz : w.heap.size + 1 ≤ w1.heap.size) : FillR w.heap.size w w1 n 0 gs := by
  refine ⟨[], rfl, ?_, hz, hs⟩
  rw [made_graphs] at hown
  rw [Nat.sub_zero, List.nil_append]; exact hown
set_option maxHeartbeats 1000000 in
set_option maxRecDepth 100000 in
theorem toGraphS_any (v : Value) (gs : List Grf) (w : World) (h : GrsAt w v gs) (hl : gs.length ≤ 1048577) (hs : totH gs ≤ 1048577) :
    Calls Try.prog 77 #[v] w (RowOut w gs) := by
  obtain ⟨ao, cap0, rfl, HC⟩ := h
  obtain ⟨i0, hi, hz0, hz1, hz2⟩ := info_parts info_graph
  have HZ2 := Lib.hid hz2
  clear hz2
  obtain ⟨n, hn⟩ : ∃ n, n = gs.length := ⟨_, rfl⟩
  rw [← hn]
  have hn9 : n ≤ 1048577 := by omega
  have HN := Lib.hid hn
  have HS := Lib.hid hs
  clear hn hl hs
  go_enter Try.func77, Try.ntmps77
  go_wp2_with (at_make; go_must (refine wpList_make_full _ rfl _ _ 24 rfl w.heap.size 39 i0 (.agg #[nilV, nilV]) 2 Try.underlying24 hi hz0 hz1 .i64 .i64 _ _ n rfl rfl rfl rfl (by rw [HZ2.out]; omega) (by unfold maxLen; omega) (Nat.le_refl _) ?_); intro w1 hown hgrow)
  have hsin : Since w w1 := (Since.refl w).grown hgrow (fun _ h => by simp at h)
  have hz : w.heap.size + 1 ≤ w1.heap.size := hown.lt w.heap.size rfl |>.2
  have hrow := Lib.hid (FillR.zero (gs := gs) hown hsin hz)
  clear hown hgrow hsin hz
  go_loopw [4] (fun i wr => ∃ k : Nat, k ≤ n ∧ i = .int .i64 k ∧ Hid (FillR w.heap.size w wr n k gs) ∧ w.heap.size < wr.heap.size) (fun i _ => n - (intOf i).toNat)
  case atStart => exact ⟨0, Nat.zero_le _, rfl, hrow.out, by obtain ⟨_, _, hr, _, _⟩ := hrow.out; exact (hr.lt _ rfl).2⟩
  case round =>
    obtain ⟨k, hk, rfl, HF, hwz⟩ := hrel
    have hsin : Since w wr := by obtain ⟨_, _, _, _, h⟩ := HF.out; exact h
    by_cases hlt : k < n
    · have hx : k < gs.length := by have := HN.out; omega
      obtain ⟨b, off, p, q, rfl, hb, c0, c1, hg⟩ := HC.out k hx
      obtain ⟨vo, vc, eo, ec, rfl, rfl⟩ := grf_shape hg
      have s1 := since_cells hsin hb
      rw [← s1] at c0 c1
      clear s1
      have hg2 := Lib.hid (hg.since hsin)
      have hb1 : (gs[k]).vs.length ≤ 1048577 ∧ (gs[k]).es.length ≤ 1048577 := by have h1 := totH_get gs k hx; unfold totG at h1; have := HS.out; omega
      go_wp2_with fail
      refine (toGraph_any _ gs[k] _ hg2.out hb1.1 hb1.2).mono ?_
      rintro e w2 ⟨v2, rfl, ho2, hs2⟩
      obtain ⟨va, vb, rfl, ka, ra, kb, rb⟩ := ho2
      obtain ⟨xo, xc, rfl⟩ := ka.len
      obtain ⟨zo, zc, rfl⟩ := kb.len
      have HO2 : Hid (OwnG wr.heap.size w2.heap.size w2 (.agg #[.slice xo gs[k].vs.length xc, .slice zo gs[k].es.length zc]) gs[k]) := ⟨_, _, rfl, ka, ra, kb, rb⟩
      have hz2 := hs2.size
      obtain ⟨d0, d1, f0, f1⟩ := (HF.out.since hs2).cells hlt
      have HST := Lib.hid (HF.out.step (Nat.le_refl _) hwz hlt hx hs2 HO2.out)
      clear ka ra kb rb c0 c1 hg
      go_wp2
      go_roundw
      case rel => exact ⟨k + 1, by omega, by go_num, HST.out, by simp; omega⟩
      case measure => simp [intOf]; omega
    · obtain rfl : k = n := by omega
      have HO := Lib.hid (HF.out.done HN.out (Nat.le_refl _))
      go_wp2
      go_ret
      exact ⟨_, rfl, HO.out, hsin⟩
set_option maxRecDepth 100000 in
theorem toHistory_any (v : Value) (x : Hst) (w : World) (h : HstAt w v x) (h1 : SmH x) :
    Calls Try.prog 37 #[v] w (HOut w x) := by
  obtain ⟨b, rfl, hb⟩ := h
  have HB := Lib.hid hb
  obtain ⟨bo, cb, rfl, _⟩ := hb
  obtain ⟨y, hy⟩ : ∃ y, y = (((w.alloc (.cells #[.int .i64 x.f, .slice bo x.gs.length cb] 59)).alloc (.cells #[.int .i64 0, .slice none 0 0] 26)).alloc (.cells #[.int .i64 x.f, .slice none 0 0] 26)) := ⟨_, rfl⟩
  have hs0 : Since w y := by rw [hy]; exact (((Since.refl w).alloc _).alloc _).alloc _
  have hz : w.heap.size + 1 + 1 + 1 = y.heap.size := by rw [hy]; simp
  have B1 : Hid (Blk y (w.heap.size + 1) 26 #[.int .i64 0, .slice none 0 0]) := by rw [hy]; exact (Blk.new (by simp) _ _).alloc _
  have B2 : Hid (Blk y (w.heap.size + 1 + 1) 26 #[.int .i64 x.f, .slice none 0 0]) := by rw [hy]; exact Blk.new (by simp) _ _
  go_enter Try.func37, Try.ntmps37
  go_wp2_with fail
  rw [← hy]
  clear hy
  refine (toGraphS_any _ x.gs _ (HB.out.since hs0) h1.1 h1.2).mono ?_
  rintro e w1 ⟨v1, rfl, ho1, hs1⟩
  obtain ⟨ao1, cap1, rfl⟩ := ho1.len
  have HO1 := Lib.hid ho1
  clear ho1
  have hs01 := hs0.trans hs1
  have b1 := Lib.hid (B1.out.since hs1)
  have b2 := Lib.hid (B2.out.since hs1)
  have hw1 : y.heap.size ≤ w1.heap.size := hs1.size
  clear B1 B2
  obtain ⟨p0, p1, q0, q1⟩ := b1.out.two
  obtain ⟨r0, r1, s0, s1⟩ := b2.out.two
  go_wp2_with fail
  refine bodyPost_ret (v := .agg #[.int .i64 x.f, .slice ao1 x.gs.length cap1]) (by simp [results, Try.results37, go_sem, *]) rfl ?_
  refine ⟨_, rfl, ⟨_, rfl, ?_⟩, ?_⟩
  · have h2 := ((HO1.out.far (B := w.heap.size + 1 + 1) (.inl (by omega)) 1 (.slice ao1 x.gs.length cap1)).far (B := w.heap.size + 1) (.inl (by omega)) 0 (.int .i64 x.f)).far (B := w.heap.size + 1) (.inl (by omega)) 1 (.slice ao1 x.gs.length cap1)
    exact h2.wider (by omega) (by simp)
  · exact ((hs01.setCell (by simp; omega) _).setCell (by simp) _).setCell (by simp) _
end Go.Proofs.Ytgdeiecbkmhbeaa
