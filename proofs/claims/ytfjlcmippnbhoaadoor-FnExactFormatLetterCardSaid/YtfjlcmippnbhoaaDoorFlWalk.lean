/- The law of FormatLetter, walked. -/
import Derived.Test.YtfjlcmippnbhoaaDoorLetF
namespace Go.Proofs.YtfjlcmippnbhoaaDoor
open Go.ChangeShapes Go.WideShapes Go.ChangeAt Go.RowKit
set_option linter.unusedVariables false in
theorem fnExactFormatLetter_walk (x : Int) (hx : (Lit.int .i64 x).wf = true) (w : World) (ht : Fmts w) :
    Calls Tryd.prog 4 #[.int .i64 x] w fun e w' => e = .returned (.bool true) ∧ Since w w' := by
  have HT := Lib.hid ht
  clear ht
  go_enter Tryd.func4, Tryd.ntmps4
  go_wp2_with fail
  refine (specFL_any x _).mono ?_
  rintro e w1 ⟨rfl, hs1⟩
  go_wp2_with fail
  refine (implFL_any x _ (HT.out.since hs1)).mono ?_
  rintro e w2 ⟨rfl, hs2⟩
  have hs := hs1.trans hs2
  go_wp2_with fail
  go_ret
  exact ⟨ret_bool (by simp), hs⟩
end Go.Proofs.YtfjlcmippnbhoaaDoor
