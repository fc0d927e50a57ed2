/- ParseInt, the program's; and its law. -/
import Derived.Test.YtiojgahjfndmdaaDoorParse
namespace Go.Proofs.YtiojgahjfndmdaaDoor
set_option maxRecDepth 100000
open Go.ChangeShapes Go.WideShapes Go.ChangeAt Go.RowKit

theorem take_all (s : ByteArray) : s.data.toList.take s.size = s.data.toList := List.take_of_length_le (by simp)
theorem isd_mem {s : ByteArray} {k : Nat} (h : k < s.size) : s[k] ∈ s.data.toList := by
  have : s[k] = s.data.toList[k]'(by simpa using h) := by simp; rfl
  rw [this]; exact List.getElem_mem _

end Go.Proofs.YtiojgahjfndmdaaDoor
