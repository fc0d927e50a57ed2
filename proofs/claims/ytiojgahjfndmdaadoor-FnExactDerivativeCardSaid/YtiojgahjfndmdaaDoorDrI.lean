/- Derivatives of trees, the program's: all trees. -/
import Derived.Test.YtiojgahjfndmdaaDoorDrI4
import Derived.Test.YtiojgahjfndmdaaDoorDrI5
import Derived.Test.YtiojgahjfndmdaaDoorDrI7
namespace Go.Proofs.YtiojgahjfndmdaaDoor
set_option maxRecDepth 100000
open Go.ChangeShapes Go.WideShapes Go.ChangeAt Go.RowKit
set_option linter.unusedVariables false
set_option linter.unusedSimpArgs false

theorem derivative_any (c : Int) (T : Tr) : DerI c T := by
  induction T with
  | nil => intro a0 b0 v w hv h; exact h.elim
  | node t l r hl hr =>
    intro a0 b0 v w hv hok
    obtain ⟨kd, lr, lo, hi⟩ := t
    have hk := okT_kd hok.1
    dsimp only at hk
    rcases (by omega : kd = 1 ∨ kd = 2 ∨ kd = 3 ∨ kd = 4 ∨ kd = 5 ∨ kd = 6 ∨ kd = 7) with rfl | rfl | rfl | rfl | rfl | rfl | rfl
    · exact derI_none c lr lo hi l r hl hr a0 b0 v w hv hok
    · exact derI_empty c lr lo hi l r hl hr a0 b0 v w hv hok
    · exact derI_letter c lr lo hi l r hl hr a0 b0 v w hv hok
    · exact derI_cat c lr lo hi l r hl hr a0 b0 v w hv hok
    · exact derI_uni c lr lo hi l r hl hr a0 b0 v w hv hok
    · exact derI_star c lr lo hi l r hl hr a0 b0 v w hv hok
    · exact derI_rep c lr lo hi l r hl hr a0 b0 v w hv hok
end Go.Proofs.YtiojgahjfndmdaaDoor
