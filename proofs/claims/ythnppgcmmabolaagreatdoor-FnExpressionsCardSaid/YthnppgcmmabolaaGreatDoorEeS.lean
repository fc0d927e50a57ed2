/- EqualExprs, the model's and the program's. -/
import Derived.Test.YthnppgcmmabolaaGreatDoorTokL
namespace Go.Proofs.YthnppgcmmabolaaGreatDoor
set_option maxRecDepth 100000
open Go.ChangeShapes Go.WideShapes Go.ChangeAt Go.RowKit
set_option linter.unusedVariables false
set_option linter.unusedSimpArgs false

set_option maxHeartbeats 1000000 in
set_option maxRecDepth 100000 in
theorem implEE_any (a b : Value) (x y : List Tok) (w : World) (ha : ExAt w a x) (hb : ExAt w b y) (h1 : x.length ≤ 1152921504606846976) (h2 : y.length ≤ 1152921504606846976) :
    Calls Tryz.prog 8 #[a, b] w fun e w' => e = .returned (.bool (decide (x = y))) ∧ Since w w' := by
  obtain ⟨a1, rfl, ha1⟩ := ha
  obtain ⟨b1, rfl, hb1⟩ := hb
  have HA := Lib.hid ha1
  have HB := Lib.hid hb1
  obtain ⟨ao, ac, rfl⟩ := ha1.len
  obtain ⟨bo, bc, rfl⟩ := hb1.len
  clear ha1 hb1
  have hs0 : Since w ((w.alloc (.cells #[.slice ao x.length ac] 26)).alloc (.cells #[.slice bo y.length bc] 26)) := ((Since.refl w).alloc _).alloc _
  obtain ⟨c, hc⟩ : ∃ c, c = decide (x = y) := ⟨_, rfl⟩
  rw [← hc]
  have HC := Lib.hid hc
  clear hc
  go_enter Tryz.func8, Tryz.ntmps8
  go_wp2_with fail
  refine (slicesEqual_toks _ _ x y _ (HA.out.since hs0) (HB.out.since hs0) h1 h2).mono ?_
  rintro e w1 ⟨rfl, hs1⟩
  rw [← HC.out]
  have hs01 := hs0.trans hs1
  go_wp2
  go_ret
  exact ⟨rfl, hs01⟩
end Go.Proofs.YthnppgcmmabolaaGreatDoor
