/- The model's ApplyBatch; IsApplicable, the model's and the program's. -/
import Derived.Test.YtgdeiecbkmhbeaaL6a
import Derived.Test.YtgdeiecbkmhbeaaK2
namespace Go.Proofs.Ytgdeiecbkmhbeaa
set_option maxRecDepth 100000
open Go.ChangeShapes Go.WideShapes Go.ChangeAt Go.RowKit
set_option linter.unusedVariables false
set_option linter.unusedSimpArgs false

theorem l6_app {g : Grf} {cs : List Chg} (hv : validB g = true) (hl : cs.length ≤ 6) : l6G g cs = appG g cs ∧ l6C g cs = appC g cs := by
  have e : l6R g cs = appB g cs := by
    unfold l6R
    rw [List.take_of_length_le (by omega), appB_run hv hl]
  unfold l6G l6C appG appC
  rw [e]; exact ⟨rfl, rfl⟩
set_option maxHeartbeats 2000000 in
set_option maxRecDepth 100000 in
theorem specAB_any (v u : Value) (g : Grf) (cs : List Chg) (w : World) (h : GrfAt w v g) (hu : BchAt w u cs) (h1 : g.vs.length ≤ 1048577) (h2 : g.es.length ≤ 1048577) (h3 : cs.length ≤ 1048577) :
    Calls Try.prog 21 #[v, u] w (GBOut w (appG g cs) (appC g cs)) := by
  have HG := Lib.hid h
  have HU := Lib.hid hu
  obtain ⟨a, b, rfl, ha, hb⟩ := h
  obtain ⟨ao, ac, rfl, _⟩ := ha.row
  obtain ⟨bo, bc, rfl⟩ := hb.len
  obtain ⟨s, rfl, hin, so, sc, rfl, _⟩ := hu
  clear ha hb hin
  obtain ⟨n, hn⟩ : ∃ n, n = cs.length := ⟨_, rfl⟩
  have hn9 : n ≤ 1048577 := by omega
  have HN := Lib.hid hn
  rw [← hn] at HU ⊢
  obtain ⟨y, hy⟩ : ∃ y, y = ((w.alloc (.cells #[.slice ao g.vs.length ac, .slice bo g.es.length bc] 39)).alloc (.cells #[.slice so n sc] 29)).alloc (.cells #[.slice none 0 0, .slice none 0 0] 39) := ⟨_, rfl⟩
  have hs0 : Since w y := by rw [hy]; exact (((Since.refl w).alloc _).alloc _).alloc _
  have hz : w.heap.size + 1 + 1 + 1 = y.heap.size := by rw [hy]; simp
  have BG : Hid (Blk y w.heap.size 39 #[.slice ao g.vs.length ac, .slice bo g.es.length bc]) := by rw [hy]; exact ((Blk.new rfl _ _).alloc _).alloc _
  have BB : Hid (Blk y (w.heap.size + 1) 29 #[.slice so n sc]) := by rw [hy]; exact (Blk.new (by simp) _ _).alloc _
  have BR : Hid (Blk y (w.heap.size + 1 + 1) 39 #[.slice none 0 0, .slice none 0 0]) := by rw [hy]; exact Blk.new (by simp) _ _
  clear hn
  have HNO : ∀ (c : Bool), appG g cs = g ∧ appC g cs = false → True := fun _ _ => trivial
  rcases Bool.eq_false_or_eq_true (validB g) with hv | hv
  rotate_left
  · have HV := Lib.hid hv
    have HA := Lib.hid (app_none (appB_inval (cs := cs) hv))
    clear hv HNO
    go_enter Try.func21, Try.ntmps21
    go_wp2_with fail
    rw [← hy]
    clear hy
    refine (specVG_any _ g _ (HG.out.since hs0) h1 h2).mono ?_
    rintro en w2 ⟨rfl, hs2⟩
    rw [HV.out]
    have hs02 := hs0.trans hs2
    have hz2 := hs2.size
    obtain ⟨q0, q1, _, _⟩ := (BG.out.since hs2).two
    go_wp2_with fail
    clear q0 q1
    refine (l3Copy_any _ g _ (HG.out.since hs02) h1 h2).mono ?_
    rintro en w9 ⟨v9, rfl, ho9, hs9⟩
    have GO9 := Lib.hid ho9
    obtain ⟨ha, hb, rfl, ka, _, kb, _⟩ := ho9
    obtain ⟨hao, hac, rfl⟩ := ka.len
    obtain ⟨hbo, hbc, rfl⟩ := kb.len
    clear ka kb
    have hs09 := hs02.trans hs9
    obtain ⟨t0, t1, t2, t3⟩ := ((BR.out.since hs2).since hs9).two
    go_wp2_with fail
    refine bodyPost_ret (v := .tuple #[.agg #[.slice hao g.vs.length hac, .slice hbo g.es.length hbc], .bool false]) (by simp [results, Try.results21, go_sem, *]) rfl ?_
    rw [HA.out.1, HA.out.2]
    exact gb_storedS GO9.out (by omega) (by omega) (Nat.le_refl _) (by omega) hs09 _ _
  have HV := Lib.hid hv
  by_cases hlen : 6 < n
  · have HA := Lib.hid (app_none (appB_long (g := g) (cs := cs) (by rw [← HN.out]; exact hlen)))
    have hgt : (6 : Int) < (n : Int) := by omega
    clear hv HNO
    go_enter Try.func21, Try.ntmps21
    go_wp2_with fail
    rw [← hy]
    clear hy
    refine (specVG_any _ g _ (HG.out.since hs0) h1 h2).mono ?_
    rintro en w2 ⟨rfl, hs2⟩
    rw [HV.out]
    have hs02 := hs0.trans hs2
    have hz2 := hs2.size
    obtain ⟨b0, _⟩ := (BB.out.since hs2).one
    obtain ⟨q0, q1, _, _⟩ := (BG.out.since hs2).two
    go_wp2_with fail
    clear q0 q1 b0
    refine (l3Copy_any _ g _ (HG.out.since hs02) h1 h2).mono ?_
    rintro en w9 ⟨v9, rfl, ho9, hs9⟩
    have GO9 := Lib.hid ho9
    obtain ⟨ha, hb, rfl, ka, _, kb, _⟩ := ho9
    obtain ⟨hao, hac, rfl⟩ := ka.len
    obtain ⟨hbo, hbc, rfl⟩ := kb.len
    clear ka kb
    have hs09 := hs02.trans hs9
    obtain ⟨t0, t1, t2, t3⟩ := ((BR.out.since hs2).since hs9).two
    go_wp2_with fail
    refine bodyPost_ret (v := .tuple #[.agg #[.slice hao g.vs.length hac, .slice hbo g.es.length hbc], .bool false]) (by simp [results, Try.results21, go_sem, *]) rfl ?_
    rw [HA.out.1, HA.out.2]
    exact gb_storedS GO9.out (by omega) (by omega) (Nat.le_refl _) (by omega) hs09 _ _
  have hgt : ¬ (6 : Int) < (n : Int) := by omega
  have HLA := Lib.hid (l6_app hv (show cs.length ≤ 6 by rw [← HN.out]; omega))
  have HL := Lib.hid (fun V U W (k1 : GrfAt W V g) (k2 : BchAt W U cs) => l6Apply_any V U g cs W k1 k2 h1 h2 h3)
  rw [HLA.out.1, HLA.out.2] at HL
  clear HLA hv HNO
  generalize appG g cs = R at HL ⊢
  generalize appC g cs = C at HL ⊢
  go_enter Try.func21, Try.ntmps21
  go_wp2_with fail
  rw [← hy]
  clear hy
  refine (specVG_any _ g _ (HG.out.since hs0) h1 h2).mono ?_
  rintro en w2 ⟨rfl, hs2⟩
  rw [HV.out]
  have hs02 := hs0.trans hs2
  have hz2 := hs2.size
  obtain ⟨b0, _⟩ := (BB.out.since hs2).one
  obtain ⟨q0, q1, _, _⟩ := (BG.out.since hs2).two
  go_wp2_with fail
  clear q0 q1 b0
  refine (HL.out _ _ _ (HG.out.since hs02) (HU.out.since hs02)).mono ?_
  rintro en w9 ⟨v9, rfl, ho9, hs9⟩
  have GO9 := Lib.hid ho9
  obtain ⟨ha, hb, rfl, ka, _, kb, _⟩ := ho9
  obtain ⟨hao, hac, rfl⟩ := ka.len
  obtain ⟨hbo, hbc, rfl⟩ := kb.len
  clear ka kb
  have hs09 := hs02.trans hs9
  have hz9 := hs9.size
  obtain ⟨y9, hy9⟩ : ∃ y, y = w9.alloc (.cells #[.slice hao R.vs.length hac, .slice hbo R.es.length hbc] 39) := ⟨_, rfl⟩
  have hsy : Since w9 y9 := by rw [hy9]; exact (Since.refl w9).alloc _
  have GY := Lib.hid (GO9.out.since hsy)
  have hszy := hsy.size
  have hs0y := hs09.trans hsy
  obtain ⟨t0, t1, t2, t3⟩ := (((BR.out.since hs2).since hs9).since hsy).two
  rw [hy9] at t0 t1 t2 t3 GY hs0y hszy
  clear hy9
  go_wp2_with fail
  refine bodyPost_ret (v := .tuple #[.agg #[.slice hao R.vs.length hac, .slice hbo R.es.length hbc], .bool C]) (by simp [results, Try.results21, go_sem, *]) rfl ?_
  exact gb_storedS GY.out (by omega) (by omega) hszy (by omega) hs0y _ _
end Go.Proofs.Ytgdeiecbkmhbeaa
