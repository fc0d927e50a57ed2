/- The program's IsApplicable. -/
import Derived.Test.YtdbedoediicmhaaApI
namespace Go.Proofs.Ytdbedoediicmhaa
set_option maxRecDepth 100000
open Go.ChangeShapes Go.WideShapes Go.ChangeAt Go.RowKit
set_option linter.unusedVariables false
set_option linter.unusedSimpArgs false

set_option maxHeartbeats 1000000 in
set_option maxRecDepth 100000 in
theorem implIA_any (v u : Value) (g : Grf) (cs : List Chg) (w : World) (h : GrfAt w v g) (hu : BchAt w u cs) (h1 : g.vs.length ≤ 1048577) (h2 : g.es.length ≤ 1048577) (h3 : cs.length ≤ 1048577) :
    Calls Try.prog 21 #[v, u] w fun e w' => e = .returned (.bool (appC g cs)) ∧ Since w w' := by
  have HG := Lib.hid h
  have HU := Lib.hid hu
  obtain ⟨a, b, rfl, ha, hb⟩ := h
  obtain ⟨ao, ac, rfl, _⟩ := ha.row
  obtain ⟨bo, bc, rfl⟩ := hb.len
  obtain ⟨s, rfl, hin, so, sc, rfl, _⟩ := hu
  clear ha hb hin
  have hs0 : Since w ((w.alloc (.cells #[.slice ao g.vs.length ac, .slice bo g.es.length bc] 33)).alloc (.cells #[.slice so cs.length sc] 39)) := ((Since.refl w).alloc _).alloc _
  go_enter Try.func21, Try.ntmps21
  go_wp2_with fail
  refine (implAB_any _ _ g cs _ (HG.out.since hs0) (HU.out.since hs0) h1 h2 h3).mono ?_
  rintro en w1 ⟨v1, rfl, ho1, hs1⟩
  obtain ⟨ha, hb, rfl, ka, _, kb, _⟩ := ho1
  obtain ⟨hao, hac, rfl⟩ := ka.len
  obtain ⟨hbo, hbc, rfl⟩ := kb.len
  clear ka kb
  have hs01 := hs0.trans hs1
  go_wp2
  go_ret
  exact ⟨rfl, hs01.alloc _⟩
end Go.Proofs.Ytdbedoediicmhaa
