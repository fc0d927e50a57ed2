/- NewHistory, the model's and the program's. -/
import Derived.Test.YtgdeiecbkmhbeaaHvS
import Derived.Test.YtgdeiecbkmhbeaaHvI
import Derived.Test.YtgdeiecbkmhbeaaHci
namespace Go.Proofs.Ytgdeiecbkmhbeaa
set_option maxRecDepth 100000
open Go.ChangeShapes Go.WideShapes Go.ChangeAt Go.RowKit
set_option linter.unusedVariables false
set_option linter.unusedSimpArgs false

theorem tot_of_sz {g : Grf} {x : Int} (h : x = szG g 1048576) (h0 : 0 ≤ x) : totG g ≤ 1048576 := by
  rw [szG_tot] at h
  split at h <;> omega
theorem one_sm {g : Grf} {m : Int} (h : totG g ≤ 1048576) : SmH ⟨m, [g]⟩ := ⟨by simp, by simp [totH]; omega⟩
theorem newH_len {g : Grf} {m : Int} (h : totG g ≤ 1048576) : BgH (newH g m) := by
  unfold newH
  split
  · exact (one_sm h).bg
  · exact ⟨by simp, by simp [totH]⟩
theorem grs_one {w : World} {po qo : Option Addr} {pn pc qn qc : Nat} {g : Grf} (h : GrfAt w (.agg #[.slice po pn pc, .slice qo qn qc]) g) : GrsAt (w.alloc (.cells #[.slice po pn pc, .slice qo qn qc] 39)) (.slice (some ⟨w.heap.size, 0, none⟩) 1 1) [g] := by
  have hB : Blk (w.alloc (.cells #[.slice po pn pc, .slice qo qn qc] 39)) w.heap.size 39 #[.slice po pn pc, .slice qo qn qc] := Blk.new rfl _ _
  refine ⟨some ⟨w.heap.size, 0, none⟩, 1, rfl, fun i hi => ?_⟩
  have hi0 : i = 0 := by simp at hi; exact hi
  subst hi0
  exact ⟨w.heap.size, 0, _, _, rfl, hB.lt, hB.cell 0, hB.cell 1, h.since ((Since.refl w).alloc _)⟩
theorem ownR_one {w : World} {lo : Nat} {po qo : Option Addr} {pn pc qn qc : Nat} {g : Grf} (h : OwnG lo w.heap.size w (.agg #[.slice po pn pc, .slice qo qn qc]) g) (hlo : lo ≤ w.heap.size) :
    OwnR lo (w.heap.size + 1) (w.alloc (.cells #[.slice po pn pc, .slice qo qn qc] 39)) (.slice (some ⟨w.heap.size, 0, none⟩) 1 1) [g] := by
  have hr : (w.alloc (.cells #[.slice po pn pc, .slice qo qn qc] 39)).ownsRow lo 39 2 (.slice (some ⟨w.heap.size, 0, none⟩) 1 1) 1 [.slice po pn pc, .slice qo qn qc] := World.ownsRow_lit w #[.slice po pn pc, .slice qo qn qc] 1 hlo (by unfold maxLen; omega) rfl
  refine ⟨[(.slice po pn pc, .slice qo qn qc)], hr, rfl, fun k hk => ?_, ?_⟩
  · simp [Value.ownBlock] at hk; omega
  · exact (Nest.one (h.since ((Since.refl w).alloc _)) hlo).wider (Nat.le_refl _) (by omega)
theorem hb_no {w w' : World} {x : Hst} {c : Bool} (hc : c = false) (hx : x = ⟨0, []⟩) (hs : Since w w') : HBOut w x c (.returned (.tuple #[.agg #[.int .i64 0, .slice none 0 0], .bool false])) w' := by
  subst hc; subst hx
  exact ⟨_, rfl, ⟨_, rfl, OwnR.nil _ _ _ hs.size⟩, hs⟩
/-- A history stored in the result's cell. -/
theorem hb_stored {w w1 : World} {lo hi B : Nat} {v : Value} {x : Hst} {c : Bool} (hc : c = true) (hO : OwnR lo hi w1 v x.gs) (hB : B < lo ∨ hi ≤ B) (hlo : w.heap.size ≤ lo) (hhi : hi ≤ w1.heap.size) (hB2 : w.heap.size ≤ B) (hs : Since w w1) {f : Int} (hf : f = x.f) (u0 u1 : Value) :
    HBOut w x c (.returned (.tuple #[.agg #[.int .i64 f, v], .bool true])) ((w1.setCell ⟨B, 0, none⟩ u0).setCell ⟨B, 1, none⟩ u1) := by
  subst hc; subst hf
  exact ⟨_, rfl, ⟨_, rfl, ((hO.far hB 0 u0).far hB 1 u1).wider hlo (by simpa using hhi)⟩, (hs.setCell (a := ⟨B, 0, none⟩) hB2 u0).setCell (a := ⟨B, 1, none⟩) hB2 u1⟩
set_option maxHeartbeats 1000000 in
set_option maxRecDepth 100000 in
theorem specNH_any (v : Value) (g : Grf) (m : Int) (w : World) (h : GrfAt w v g) (h1 : totG g ≤ 1048576) :
    Calls Try.prog 40 #[v, .int .i64 m] w (HBOut w (newH g m) (newC g m)) := by
  have HG := Lib.hid h
  have hb1 : g.vs.length ≤ 1048577 ∧ g.es.length ≤ 1048577 := by unfold totG at h1; omega
  obtain ⟨a, b, rfl, ha, hb⟩ := h
  obtain ⟨ao, ac, rfl, _⟩ := ha.row
  obtain ⟨bo, bc, rfl⟩ := hb.len
  clear ha hb
  obtain ⟨n, hn⟩ : ∃ n, n = g.vs.length := ⟨_, rfl⟩
  obtain ⟨q, hq⟩ : ∃ q, q = g.es.length := ⟨_, rfl⟩
  rw [← hn, ← hq] at HG ⊢
  clear hn hq
  obtain ⟨y, hy⟩ : ∃ y, y = (w.alloc (.cells #[.slice ao n ac, .slice bo q bc] 39)).alloc (.cells #[.int .i64 0, .slice none 0 0] 26) := ⟨_, rfl⟩
  have hs0 : Since w y := by rw [hy]; exact ((Since.refl w).alloc _).alloc _
  have hz : w.heap.size + 1 + 1 = y.heap.size := by rw [hy]; simp
  have BG : Hid (Blk y w.heap.size 39 #[.slice ao n ac, .slice bo q bc]) := by rw [hy]; exact (Blk.new rfl _ _).alloc _
  have BR : Hid (Blk y (w.heap.size + 1) 26 #[.int .i64 0, .slice none 0 0]) := by rw [hy]; exact Blk.new (by simp) _ _
  obtain ⟨p0, p1, _, _⟩ := BG.out.two
  rw [hy] at p0 p1
  obtain ⟨c, hc⟩ : ∃ c, newC g m = c := ⟨_, rfl⟩
  have HC := Lib.hid hc
  have HN : Hid (newH g m = if c = true then ⟨m, [g]⟩ else ⟨0, []⟩) := by unfold Hid newH; rw [hc]
  have HVV : Hid (validH ⟨m, [g]⟩ = c) := hc
  have HSM := Lib.hid (one_sm (m := m) h1)
  clear hc
  cases c
  all_goals
    go_enter Try.func40, Try.ntmps40
    go_wp2_with fail
    rw [← hy]
    clear hy p0 p1
    refine (l3Copy_any _ g _ (HG.out.since hs0) hb1.1 hb1.2).mono ?_
    rintro en w1 ⟨v1, rfl, ho1, hs1⟩
    obtain ⟨pa, pb, rfl, ka, ra, kb, rb⟩ := ho1
    obtain ⟨o1, c1, rfl⟩ := ka.len
    obtain ⟨o2, c2, rfl⟩ := kb.len
    have HO1 : Hid (OwnG y.heap.size w1.heap.size w1 (.agg #[.slice o1 g.vs.length c1, .slice o2 g.es.length c2]) g) := ⟨_, _, rfl, ka, ra, kb, rb⟩
    clear ka ra kb rb
    obtain ⟨y2, hy2⟩ : ∃ y2, y2 = (w1.alloc (.cells #[.slice o1 g.vs.length c1, .slice o2 g.es.length c2] 39)).alloc (.cells #[.int .i64 m, .slice (some ⟨w1.heap.size, 0, none⟩) 1 1] 26) := ⟨_, rfl⟩
    have hs12 : Since w1 y2 := by rw [hy2]; exact ((Since.refl w1).alloc _).alloc _
    have BX : Hid (Blk y2 (w1.heap.size + 1) 26 #[.int .i64 m, .slice (some ⟨w1.heap.size, 0, none⟩) 1 1]) := by rw [hy2]; exact Blk.new (by simp) _ _
    have hzw : y.heap.size ≤ w1.heap.size := hs1.size
    have HOR : Hid (OwnR y.heap.size (w1.heap.size + 1) y2 (.slice (some ⟨w1.heap.size, 0, none⟩) 1 1) [g]) := by
      rw [hy2]; exact (ownR_one HO1.out hzw).since ((Since.refl _).alloc _)
    have hs02 := hs0.trans (hs1.trans hs12)
    have hz2 : w1.heap.size + 2 ≤ y2.heap.size := by rw [hy2]; simp
    have HH : Hid (HstAt y2 (.agg #[.int .i64 m, .slice (some ⟨w1.heap.size, 0, none⟩) 1 1]) ⟨m, [g]⟩) := ⟨_, rfl, HOR.out.at⟩
    obtain ⟨p0, p1, _, _⟩ := BX.out.two
    rw [hy2] at p0 p1
    go_wp2_with fail
    rw [← hy2] at p0 p1 ⊢
    clear hy2
    go_wp2_with fail
    clear p0 p1
    refine (specVH_any _ ⟨m, [g]⟩ _ HH.out HSM.out).mono ?_
    rintro en w3 ⟨rfl, hs3⟩
    rw [HVV.out]
    obtain ⟨p0, p1, _, _⟩ := (BX.out.since hs3).two
    obtain ⟨r0, r1, r2, r3⟩ := (BR.out.since ((hs1.trans hs12).trans hs3)).two
    have HOR3 := Lib.hid (HOR.out.since hs3)
    have hs03 := hs02.trans hs3
    have hz3 := hs3.size
    go_wp2
    first
    | (refine bodyPost_ret (v := .tuple #[.agg #[.int .i64 0, .slice none 0 0], .bool false]) (by simp [results, Try.results40, go_sem, *]) rfl ?_
       exact hb_no HC.out (HN.out.trans (by rfl)) ((hs03.setCell (by simp) _).setCell (by simp) _))
    | (refine bodyPost_ret (v := .tuple #[.agg #[.int .i64 m, .slice (some ⟨w1.heap.size, 0, none⟩) 1 1], .bool true]) (by simp [results, Try.results40, go_sem, *]) rfl ?_
       rw [HN.out, if_pos trivial]
       exact hb_stored (x := ⟨m, [g]⟩) HC.out HOR3.out (.inl (by omega)) (by omega) (by omega) (by omega) hs03 rfl _ _)
set_option maxHeartbeats 1000000 in
set_option maxRecDepth 100000 in
theorem implNH_any (v : Value) (g : Grf) (m : Int) (w : World) (h : GrfAt w v g) (h1 : totG g ≤ 1048576) :
    Calls Try.prog 42 #[v, .int .i64 m] w (HBOut w (newH g m) (newC g m)) := by
  have HG := Lib.hid h
  have hb1 : g.vs.length ≤ 1048577 ∧ g.es.length ≤ 1048577 := by unfold totG at h1; omega
  obtain ⟨a, b, rfl, ha, hb⟩ := h
  obtain ⟨ao, ac, rfl, _⟩ := ha.row
  obtain ⟨bo, bc, rfl⟩ := hb.len
  clear ha hb
  obtain ⟨n, hn⟩ : ∃ n, n = g.vs.length := ⟨_, rfl⟩
  obtain ⟨q, hq⟩ : ∃ q, q = g.es.length := ⟨_, rfl⟩
  rw [← hn, ← hq] at HG ⊢
  clear hn hq
  obtain ⟨y, hy⟩ : ∃ y, y = (w.alloc (.cells #[.slice ao n ac, .slice bo q bc] 39)).alloc (.cells #[.int .i64 0, .slice none 0 0] 26) := ⟨_, rfl⟩
  have hs0 : Since w y := by rw [hy]; exact ((Since.refl w).alloc _).alloc _
  have hz : w.heap.size + 1 + 1 = y.heap.size := by rw [hy]; simp
  have BG : Hid (Blk y w.heap.size 39 #[.slice ao n ac, .slice bo q bc]) := by rw [hy]; exact (Blk.new rfl _ _).alloc _
  have BR : Hid (Blk y (w.heap.size + 1) 26 #[.int .i64 0, .slice none 0 0]) := by rw [hy]; exact Blk.new (by simp) _ _
  obtain ⟨p0, p1, _, _⟩ := BG.out.two
  obtain ⟨c, hc⟩ : ∃ c, newC g m = c := ⟨_, rfl⟩
  have HC := Lib.hid hc
  have HN : Hid (newH g m = if c = true then ⟨m, [g]⟩ else ⟨0, []⟩) := by unfold Hid newH; rw [hc]
  have HVV : Hid (validH ⟨m, [g]⟩ = c) := hc
  have HSM := Lib.hid (one_sm (m := m) h1)
  clear hc
  obtain ⟨y2, hy2⟩ : ∃ y2, y2 = (y.alloc (.cells #[.slice ao n ac, .slice bo q bc] 39)).alloc (.cells #[.int .i64 m, .slice (some ⟨y.heap.size, 0, none⟩) 1 1] 26) := ⟨_, rfl⟩
  have hs12 : Since y y2 := by rw [hy2]; exact ((Since.refl y).alloc _).alloc _
  have BX : Hid (Blk y2 (y.heap.size + 1) 26 #[.int .i64 m, .slice (some ⟨y.heap.size, 0, none⟩) 1 1]) := by rw [hy2]; exact Blk.new (by simp) _ _
  have hs02 := hs0.trans hs12
  have hz2 : y.heap.size + 2 ≤ y2.heap.size := by rw [hy2]; simp
  have HH : Hid (HstAt y2 (.agg #[.int .i64 m, .slice (some ⟨y.heap.size, 0, none⟩) 1 1]) ⟨m, [g]⟩) := by
    rw [hy2]; exact ⟨_, rfl, (grs_one (HG.out.since hs0)).since ((Since.refl _).alloc _)⟩
  cases c
  · go_enter Try.func42, Try.ntmps42
    go_wp2_with fail
    rw [← hy]
    clear hy
    go_wp2_with fail
    obtain ⟨x0, x1, _, _⟩ := BX.out.two
    rw [hy2] at x0 x1
    go_wp2_with fail
    rw [← hy2]
    clear hy2 p0 p1 x0 x1
    refine (implVH_any _ ⟨m, [g]⟩ _ HH.out HSM.out).mono ?_
    rintro en w3 ⟨rfl, hs3⟩
    rw [HVV.out]
    obtain ⟨r0, r1, r2, r3⟩ := (BR.out.since (hs12.trans hs3)).two
    have hs03 := hs02.trans hs3
    go_wp2
    refine bodyPost_ret (v := .tuple #[.agg #[.int .i64 0, .slice none 0 0], .bool false]) (by simp [results, Try.results42, go_sem, *]) rfl ?_
    exact hb_no HC.out (HN.out.trans (by rfl)) ((hs03.setCell (by simp) _).setCell (by simp) _)
  · go_enter Try.func42, Try.ntmps42
    go_wp2_with fail
    rw [← hy]
    clear hy
    go_wp2_with fail
    obtain ⟨x0, x1, _, _⟩ := BX.out.two
    rw [hy2] at x0 x1
    go_wp2_with fail
    rw [← hy2]
    clear hy2 p0 p1 x0 x1
    refine (implVH_any _ ⟨m, [g]⟩ _ HH.out HSM.out).mono ?_
    rintro en w3 ⟨rfl, hs3⟩
    rw [HVV.out]
    have hs03 := hs02.trans hs3
    obtain ⟨x0, x1, _, _⟩ := (BX.out.since hs3).two
    go_wp2_with fail
    clear x0 x1
    refine (copyHistory_any _ ⟨m, [g]⟩ _ (HH.out.since hs3) HSM.out).mono ?_
    rintro en w4 ⟨B, so, sc, rfl, hB, kB, ko, hs4⟩
    have KB := Lib.hid kB
    have KO := Lib.hid ko
    clear kB ko
    have hs04 := hs03.trans hs4
    obtain ⟨r0, r1, r2, r3⟩ := (BR.out.since ((hs12.trans hs3).trans hs4)).two
    obtain ⟨x0, x1, _, _⟩ := KB.out.two
    have hz3 := hs3.size
    have hz4 := hs4.size
    go_wp2
    refine bodyPost_ret (v := .tuple #[.agg #[.int .i64 m, .slice so 1 sc], .bool true]) (by simp [results, Try.results42, go_sem, *]) rfl ?_
    rw [HN.out, if_pos trivial]
    exact hb_stored (x := ⟨m, [g]⟩) HC.out KO.out (.inl (by omega)) (by omega) (by omega) (by omega) hs04 rfl _ _
end Go.Proofs.Ytgdeiecbkmhbeaa
