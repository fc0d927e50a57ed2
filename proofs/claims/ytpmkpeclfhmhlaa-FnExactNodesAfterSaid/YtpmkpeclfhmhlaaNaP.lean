/- NodesAfter, the model's. -/
import Derived.Test.YtpmkpeclfhmhlaaNaI
import Derived.Test.YtpmkpeclfhmhlaaK3
import Derived.Test.YtpmkpeclfhmhlaaK0
import Derived.Test.YtpmkpeclfhmhlaaK1
namespace Go.Proofs.Ytpmkpeclfhmhlaa
set_option maxRecDepth 100000
open Go.ChangeShapes Go.WideShapes Go.ChangeAt Go.RowKit
set_option linter.unusedVariables false
set_option linter.unusedSimpArgs false

def setTo (zs : List Int) (k : Nat) : List Int := ((List.range k).filter (fun i : Nat => decide ((i : Int) ∈ zs))).map (fun (i : Nat) => (i : Int))
theorem setTo_succ (zs : List Int) (k : Nat) : setTo zs (k + 1) = setTo zs k ++ (if (k : Int) ∈ zs then [(k : Int)] else []) := by
  unfold setTo
  rw [List.range_succ, List.filter_append, List.map_append]
  congr 1
  by_cases h : (k : Int) ∈ zs <;> simp [h]
theorem setTo_len (zs : List Int) (k : Nat) : (setTo zs k).length ≤ k := by
  unfold setTo; rw [List.length_map]
  exact Nat.le_trans (List.length_filter_le _ _) (by simp)
theorem and_one (M k : Nat) (hM : M < 9223372036854775808) : bits .and .i64 ((M : Int) / 2 ^ k) 1 = ((M / 2 ^ k % 2 : Nat) : Int) := by
  have e : ((M : Int) / 2 ^ k) = ((M / 2 ^ k : Nat) : Int) := by rw [Int.natCast_ediv, Int.natCast_pow]; rfl
  have hle : M / 2 ^ k ≤ M := Nat.div_le_self _ _
  rw [e]
  have := i64_and_nat (M / 2 ^ k) 1 (by omega) (by omega)
  rw [Nat.and_one_is_mod] at this
  simpa using this
theorem bit_test (M k : Nat) (hM : M < 9223372036854775808) : (bits .and .i64 ((M : Int) / 2 ^ k) 1 == 1) = M.testBit k := by
  rw [and_one M k hM, Nat.testBit_eq_decide_div_mod_eq, Bool.eq_iff_iff]
  simp only [beq_iff_eq, decide_eq_true_eq]
  omega
set_option maxRecDepth 100000 in
theorem l4Set_any (M : Nat) (zs : List Int) (w : World) (hM : M < 32) (hz : ∀ i : Nat, M.testBit i = decide ((i : Int) ∈ zs)) :
    Calls Try.prog 74 #[.int .i64 (M : Int)] w (OwnOut w (setL zs)) := by
  have HZ := Lib.hid hz
  clear hz
  have hnil : Own w.heap.size (w.alloc (.cells #[] 3)) (.slice (some ⟨w.heap.size, 0, none⟩) 0 0) [] := own_lit w w (Since.refl w) w.heap.size rfl
  have hs0 := (Since.refl w).alloc (.cells #[] 3)
  go_enter Try.func74, Try.ntmps74
  go_wp2
  go_loopw [3, 4] (fun out i wr => ∃ k : Nat, k ≤ 30 ∧ i = .int .i64 k ∧ Hid (Own w.heap.size wr out (setTo zs k)) ∧ Since w wr) (fun _ i _ => 30 - (intOf i).toNat)
  case atStart => exact ⟨0, Nat.zero_le _, rfl, hnil, hs0⟩
  case round =>
    obtain ⟨k, hk, rfl, HOw, hsw⟩ := hrel
    by_cases hlt : k < 30
    · have hlen : (setTo zs k).length ≤ 4194304 := by have := setTo_len zs k; omega
      have HLN := Lib.hid hlen
      have HS := Lib.hid (setTo_succ zs k)
      have hzin : InI (k : Int) := by unfold InI; omega
      clear hlen
      by_cases hm : (k : Int) ∈ zs
      · have hb : (bits .and .i64 ((M : Int) / 2 ^ k) 1 == 1) = true := by rw [bit_test M k (by omega), HZ.out k]; simpa using hm
        have HP : Hid (setTo zs (k + 1) = setTo zs k ++ [(k : Int)]) := by unfold Hid; rw [HS.out, if_pos hm]
        clear hm
        go_wp2_with (at_builtin; go_must (refine wpList_append_int rfl (.tmp 15) (.tmp 17) rfl _ (setTo zs k) (by first | rfl | simp [Act.eval]) HOw.out (k : Int) (by first | rfl | simp [Act.eval]) hzin HLN.out hsw ?_); intro v2 w2 ho2 hs2; have HO2 := Lib.hid ho2; clear ho2)
        go_roundw
        case rel => exact ⟨k + 1, by omega, by go_num, (by rw [HP.out]; exact HO2.out), hs2⟩
        case measure => simp [intOf]; omega
      · have hb : (bits .and .i64 ((M : Int) / 2 ^ k) 1 == 1) = false := by rw [bit_test M k (by omega), HZ.out k]; simpa using hm
        have HP : Hid (setTo zs (k + 1) = setTo zs k) := by unfold Hid; rw [HS.out, if_neg hm, List.append_nil]
        clear hm
        go_wp2
        go_roundw
        case rel => exact ⟨k + 1, by omega, by go_num, (by rw [HP.out]; exact HOw.out), hsw⟩
        case measure => simp [intOf]; omega
    · obtain rfl : k = 30 := by omega
      have HO : Hid (Own w.heap.size wr u3 (setL zs)) := HOw.out
      clear HOw
      go_wp2
      go_ret
      exact ⟨_, rfl, HO.out, hsw⟩
end Go.Proofs.Ytpmkpeclfhmhlaa
