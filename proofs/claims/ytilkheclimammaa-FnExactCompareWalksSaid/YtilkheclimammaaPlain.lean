/- Plain facts on lists, of our own: no program and no walk. -/
namespace Go.Proofs.Ytilkheclimammaa
set_option maxRecDepth 100000

/-- A row that is filled from the left: the first k cells of l, then z. -/
def filled {α : Type} (l : List α) (z : α) (k : Nat) : List α := l.take k ++ List.replicate (l.length - k) z
theorem filled_zero {α : Type} (l : List α) (z : α) : filled l z 0 = List.replicate l.length z := by simp [filled]
theorem filled_all {α : Type} (l : List α) (z : α) (k : Nat) (h : l.length ≤ k) : filled l z k = l := by
  simp [filled, List.take_of_length_le h, Nat.sub_eq_zero_of_le h]
theorem filled_length {α : Type} (l : List α) (z : α) (k : Nat) (h : k ≤ l.length) : (filled l z k).length = l.length := by
  simp [filled]; omega
theorem filled_set {α : Type} (l : List α) (z : α) (k : Nat) (h : k < l.length) : (filled l z k).set k l[k] = filled l z (k + 1) := by
  unfold filled
  rw [show l.length - k = (l.length - (k + 1)) + 1 from by omega, List.replicate_succ]
  rw [List.set_append_right _ _ (by rw [List.length_take]; omega), List.length_take, Nat.min_eq_left (Nat.le_of_lt h), Nat.sub_self, List.set_cons_zero]
  rw [List.take_succ_eq_append_getElem h, List.append_assoc]; rfl
theorem filled_at {α : Type} (l : List α) (z : α) (k : Nat) (h : k < l.length) : (filled l z k)[k]? = some z := by
  unfold filled
  rw [List.getElem?_append_right (by rw [List.length_take]; omega), List.length_take, Nat.min_eq_left (Nat.le_of_lt h), Nat.sub_self]
  rw [List.getElem?_replicate, if_pos (by omega)]
end Go.Proofs.Ytilkheclimammaa
