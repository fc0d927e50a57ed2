/- Derivatives of trees, the model's: all trees. -/
import Derived.Test.YtiojgahjfndmdaaDoorDrS4
import Derived.Test.YtiojgahjfndmdaaDoorDrS5
import Derived.Test.YtiojgahjfndmdaaDoorDrS7
namespace Go.Proofs.YtiojgahjfndmdaaDoor
set_option maxRecDepth 100000
open Go.ChangeShapes Go.WideShapes Go.ChangeAt Go.RowKit
set_option linter.unusedVariables false
set_option linter.unusedSimpArgs false

theorem l9Deriv_any (c : Int) (T : Tr) : DerS c T := by
  induction T with
  | nil => intro ao n ac w h; exact h.elim
  | node t l r hl hr =>
    intro ao n ac w hok
    obtain ⟨kd, lr, lo, hi⟩ := t
    have hk := okT_kd hok.1
    dsimp only at hk
    rcases (by omega : kd = 1 ∨ kd = 2 ∨ kd = 3 ∨ kd = 4 ∨ kd = 5 ∨ kd = 6 ∨ kd = 7) with rfl | rfl | rfl | rfl | rfl | rfl | rfl
    · exact derS_none c lr lo hi l r hl hr ao n ac w hok
    · exact derS_empty c lr lo hi l r hl hr ao n ac w hok
    · exact derS_letter c lr lo hi l r hl hr ao n ac w hok
    · exact derS_cat c lr lo hi l r hl hr ao n ac w hok
    · exact derS_uni c lr lo hi l r hl hr ao n ac w hok
    · exact derS_star c lr lo hi l r hl hr ao n ac w hok
    · exact derS_rep c lr lo hi l r hl hr ao n ac w hok
end Go.Proofs.YtiojgahjfndmdaaDoor
