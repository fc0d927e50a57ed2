/- Words read back: the model's cut at spaces. -/
import Derived.Test.YtiojgahjfndmdaaDoorCut
import Derived.Test.YtiojgahjfndmdaaDoorK0
import Derived.Test.YtiojgahjfndmdaaDoorWfI
namespace Go.Proofs.YtiojgahjfndmdaaDoor
set_option maxRecDepth 100000
set_option linter.unusedVariables false
open Go.ChangeShapes Go.WideShapes Go.ChangeAt Go.RowKit

theorem ext_list (s : ByteArray) (f i : Nat) : (s.extract f i).data.toList = (s.data.toList.take i).drop f := by
  rw [ByteArray.data_extract, Array.toList_extract, List.extract_eq_take_drop]
  rw [List.drop_take]
theorem ba_back (s : ByteArray) (l : List UInt8) (h : s.data.toList = l) : (⟨l.toArray⟩ : ByteArray) = s := by cases s; subst h; simp
def OwnS (base : Nat) (w : World) (v : Value) (ss : List ByteArray) : Prop := w.ownsRow base 9 1 v ss.length (ss.map scell)
def CutOut (w : World) (ss : List ByteArray) (e : Ending) (w' : World) : Prop := ∃ v, e = .returned v ∧ OwnS w.heap.size w' v ss ∧ Since w w'
/-- What the scan has laid: the parts P; from place f on the rest is cut as cutL does. -/
def ScanAt (s : ByteArray) (k f m : Nat) (P : List ByteArray) : Prop :=
  P.length = m ∧ f ≤ k ∧ m ≤ k ∧ cutB s = P ++ ((cutL (s.data.toList.drop f)).map fun p => ⟨p.toArray⟩) ∧ ∀ j, f ≤ j → j < k → s.data.toList[j]? ≠ some 32
theorem scan_zero (s : ByteArray) : ScanAt s 0 0 0 [] := ⟨rfl, Nat.le_refl _, Nat.le_refl _, by simp [cutB], fun j h1 h2 => by omega⟩
theorem scan_hit {s : ByteArray} {k f m : Nat} {P : List ByteArray} (h : ScanAt s k f m P) (hk : k < s.size) (he : s[k] = 32) : ScanAt s (k + 1) (k + 1) (m + 1) (P ++ [s.extract f k]) := by
  obtain ⟨h1, h2, h3, h4, h5⟩ := h
  have hg : s.data.toList[k]? = some 32 := by
    rw [List.getElem?_eq_getElem (by simpa using hk)]; exact congrArg some he
  refine ⟨by simp [h1], Nat.le_refl _, by omega, ?_, fun j a b => by omega⟩
  rw [h4, cut_at h5 h2 hg, List.map_cons, List.append_assoc, List.singleton_append, ba_back (s.extract f k) _ (ext_list s f k)]
theorem scan_miss {s : ByteArray} {k f m : Nat} {P : List ByteArray} (h : ScanAt s k f m P) (hk : k < s.size) (he : s[k] ≠ 32) : ScanAt s (k + 1) f m P := by
  obtain ⟨h1, h2, h3, h4, h5⟩ := h
  refine ⟨h1, by omega, by omega, h4, fun j a b => ?_⟩
  by_cases e : j = k
  · subst e
    rw [List.getElem?_eq_getElem (by simpa using hk)]
    intro e2; exact he (Option.some.inj e2)
  · exact h5 j a (by omega)
theorem scan_end {s : ByteArray} {f m : Nat} {P : List ByteArray} (h : ScanAt s s.size f m P) : P ++ [s.extract f s.size] = cutB s := by
  obtain ⟨h1, h2, h3, h4, h5⟩ := h
  have hz : s.size = s.data.toList.length := rfl
  rw [h4, cut_end (fun j a b => h5 j a (by omega)) (by omega)]
  rw [List.map_cons, List.map_nil, ba_back (s.extract f s.size)]
  rw [ext_list, List.take_of_length_le (Nat.le_of_eq hz.symm)]

set_option maxHeartbeats 2000000 in
set_option maxRecDepth 100000 in
theorem l2Cut_any (s : ByteArray) (w : World) (hs : s.size ≤ 1048576) :
    Calls Tryd.prog 125 #[.string s, .int .u8 32] w (CutOut w (cutB s)) := by
  go_enter Tryd.func125, Tryd.ntmps125
  go_wp2
  go_loopw [5, 6, 7] (fun out fr i wr => ∃ (k f m : Nat) (P : List ByteArray), k ≤ s.size ∧ f ≤ k ∧ m ≤ k ∧ i = .int .i64 k ∧ fr = .int .i64 f ∧ Hid (ScanAt s k f m P) ∧ wr.ownsRow w.heap.size 9 1 out m (P.map scell) ∧ Since w wr) (fun _ _ i _ => s.size - (intOf i).toNat)
  case atStart => exact ⟨0, 0, 0, [], Nat.zero_le _, Nat.le_refl _, Nat.le_refl _, rfl, rfl, scan_zero s, World.ownsRow_lit w _ 0 (Nat.le_refl _) (by decide) (by simp), (Since.refl w).alloc _⟩
  case round =>
    obtain ⟨k, f, m, P, hk, hfk, hmk, rfl, rfl, HP, hown, hsin⟩ := hrel
    by_cases hlt : k < s.size
    · have h8 := byte_lt s k hlt
      by_cases he : s[k] = 32
      · have HP2 := Lib.hid (scan_hit HP.out hlt he)
        have hb : ((s[k].toNat : Int) == 32) = true := by rw [he]; rfl
        have HB1 : Hid ((m + 1) * 16 ≤ 140737488355328) := by unfold Hid; omega
        have HB2 : Hid (m + 1 ≤ maxLen) := by unfold Hid maxLen; omega
        clear he
        go_wp2_with (at_builtin; go_must (refine append_cell rfl _ _ 131 rfl 9 (.string ByteArray.empty) 16 Tryd.underlying131 info_str rfl _ m _ rfl hown hsin _ rfl rfl HB1.out HB2.out ?_); intro v' w1 hown1 hsin1)
        have hown2 : w1.ownsRow w.heap.size 9 1 v' (m + 1) ((P ++ [s.extract f k]).map scell) := by
          rw [List.map_append]; exact hown1
        clear hown1
        go_roundw
        case rel => exact ⟨k + 1, k + 1, m + 1, P ++ [s.extract f k], by omega, Nat.le_refl _, by omega, by go_num, by go_num, HP2, hown2, hsin1⟩
        case measure => simp [intOf]; omega
      · have HP2 := Lib.hid (scan_miss HP.out hlt he)
        have hb : ((s[k].toNat : Int) == 32) = false := by
          rw [beq_eq_false_iff_ne]; intro e; apply he; apply UInt8.toNat_inj.1; show s[k].toNat = 32; omega
        clear he
        go_wp2
        go_roundw
        case rel => exact ⟨k + 1, f, m, P, by omega, by omega, by omega, by go_num, rfl, HP2, hown, hsin⟩
        case measure => simp [intOf]; omega
    · obtain rfl : k = s.size := by omega
      have HE := Lib.hid (scan_end HP.out)
      have HM := Lib.hid HP.out.1
      have HB1 : Hid ((m + 1) * 16 ≤ 140737488355328) := by unfold Hid; omega
      have HB2 : Hid (m + 1 ≤ maxLen) := by unfold Hid maxLen; omega
      go_wp2_with (at_builtin; go_must (refine append_cell rfl _ _ 131 rfl 9 (.string ByteArray.empty) 16 Tryd.underlying131 info_str rfl _ m _ rfl hown hsin _ rfl rfl HB1.out HB2.out ?_); intro v' w1 hown1 hsin1)
      have hown2 : OwnS w.heap.size w1 v' (cutB s) := by
        unfold OwnS
        rw [← HE.out, List.map_append, List.length_append, HM.out]; exact hown1
      clear hown1
      go_ret
      exact ⟨_, rfl, hown2, hsin1⟩
end Go.Proofs.YtiojgahjfndmdaaDoor
