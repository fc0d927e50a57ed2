/- The law of ParseLetter, walked. -/
import Derived.Test.YtfjlcmippnbhoaaDoorPlI
namespace Go.Proofs.YtfjlcmippnbhoaaDoor
open Go.ChangeShapes Go.WideShapes Go.ChangeAt Go.RowKit
theorem fnExactParseLetter_walk (s : ByteArray) (hs : s.size ≤ maxLen) (w : World) (ht : Fmts w) :
    Calls Tryd.prog 5 #[.string s] w fun e w' => e = .returned (.bool true) ∧ Since w w' := by
  unfold maxLen at hs
  by_cases hbig : 1048576 < s.size
  · clear ht
    go_enter Tryd.func5, Tryd.ntmps5
    go_wp2
    go_ret
    exact ⟨rfl, Since.refl _⟩
  · have HT := Lib.hid ht
    clear ht
    have hsm : s.size ≤ 1048576 := by omega
    go_enter Tryd.func5, Tryd.ntmps5
    go_wp2_with fail
    refine (specPL_any s _).mono ?_
    rintro e w1 ⟨rfl, hs1⟩
    go_wp2_with fail
    refine (implPL_any s _ (HT.out.since hs1) hs).mono ?_
    rintro e w2 ⟨rfl, hs2⟩
    have h12 := hs1.trans hs2
    go_wp2_with fail
    go_ret
    exact ⟨ret_bool (by simp), h12⟩
end Go.Proofs.YtfjlcmippnbhoaaDoor
