/- No library function is laid in this seat; words of the library that other texts name. -/
import Derived.Test.YtiojgahjfndmdaaDoorK0
import Derived.Lib.Bytealg
