/- EncodeVarint, the model's and the program's: what each returns at every number. -/
import Derived.Test.YtpikplllkjpciaaDoorFixed
import Derived.Test.YtpikplllkjpciaaDoorBytes
import Derived.Test.YtpikplllkjpciaaDoorVarPlain
import Derived.Test.YtpikplllkjpciaaDoorRows1
namespace Go.Proofs.YtpikplllkjpciaaDoor
open Go.ChangeShapes Go.WideShapes Go.ChangeAt Go.RowKit

def encV (n : Int) : ByteArray := if 0 ≤ n ∧ n ≤ 562949953421311 then ⟨(vbytes n.toNat).toArray⟩ else ⟨#[]⟩
theorem encV_in (n : Nat) (h : n ≤ 562949953421311) : encV (n : Int) = ⟨(vbytes n).toArray⟩ := by
  unfold encV; rw [if_pos ⟨by omega, by omega⟩]; simp
theorem encV_out {n : Int} (h : n < 0 ∨ 562949953421311 < n) : encV n = ⟨#[]⟩ := by
  unfold encV; rw [if_neg (by omega)]

theorem or_128 (q : Nat) : bits .or .i64 ((q : Int) % 128) 128 = (q : Int) % 128 + 128 := by
  have := i64_or128 (q % 128) (by omega)
  simpa using this
set_option maxRecDepth 100000 in
theorem implEV_in (n : Nat) (w : World) (h9 : n ≤ 562949953421311) :
    Calls Tryd.prog 9 #[.int .i64 (n : Int)] w fun e w' => e = .returned (.string ⟨(vbytes n).toArray⟩) ∧ Since w w' := by
  have hmk : ∀ W : World, (Instr.makeSlice 22 (.int .i64 0) (.int .i64 7)).run Tryd.prog W = .ok (.slice (some ⟨W.heap.size, 0, none⟩) 0 7) (W.alloc (.cells #[.int .u8 0, .int .u8 0, .int .u8 0, .int .u8 0, .int .u8 0, .int .u8 0, .int .u8 0] 5)) := fun _ => by kernel_rfl
  go_enter Tryd.func9, Tryd.ntmps9
  go_wp2
  clear hmk
  go_loopw [0, 3] (fun v out wr => ∃ (q n0 : Nat) (acc : List UInt8), v = .int .i64 q ∧ q ≤ 562949953421311 ∧ n0 * 100 + q ≤ 562949953421311 ∧ Hid (n0 = acc.length) ∧ wr.ownsRow w.heap.size 5 1 out n0 (acc.map bcell) ∧ Hid (acc ++ vbytes q = vbytes n) ∧ Since w wr) (fun v _ _ => (intOf v).toNat)
  case atStart => exact ⟨n, 0, [], rfl, h9, by omega, rfl, World.ownsRow_made w _ 7 (Nat.le_refl _) (by decide) rfl, rfl, (Since.refl w).alloc _⟩
  case round =>
    obtain ⟨q, n0, acc, rfl, hq, hn0, HL, hown, HV, hsin⟩ := hrel
    have HB1 : Hid ((n0 + 1) * 1 ≤ 140737488355328) := by unfold Hid; omega
    have HB2 : Hid (n0 + 1 ≤ maxLen) := by unfold Hid maxLen; omega
    have HN0 := Lib.hid hn0
    clear hn0
    have hand := i64_and127 q (by omega)
    have hor := or_128 q
    by_cases hlt : 128 ≤ q
    · go_wp2_with (at_builtin; go_must (refine append_cell rfl _ _ 22 rfl 5 (.int .u8 0) 1 Tryd.underlying22 info_u8 rfl _ _ _ rfl hown hsin _ rfl rfl HB1.out HB2.out ?_); intro v' w1 hown1 hsin1)
      have hown2 : w1.ownsRow w.heap.size 5 1 v' (n0 + 1) ((acc ++ [UInt8.ofNat (128 + q % 128)]).map bcell) := by
        rw [← map_bcell_snoc acc (128 + q % 128) ((q : Int) % 128 + 128) (by omega) (by omega)]; exact hown1
      go_roundw
      case rel => exact ⟨q / 128, n0 + 1, acc ++ [UInt8.ofNat (128 + q % 128)], by go_num, by omega, by have := HN0.out; omega, by unfold Hid; rw [HL.out]; simp, hown2, by unfold Hid; rw [← HV.out, vbytes_big hlt]; simp, hsin1⟩
      case measure => simp [intOf]; omega
    · go_wp2_with (at_builtin; go_must (refine append_cell rfl _ _ 22 rfl 5 (.int .u8 0) 1 Tryd.underlying22 info_u8 rfl _ _ _ rfl hown hsin _ rfl rfl HB1.out HB2.out ?_); intro v' w1 hown1 hsin1; have hcv := own_string w1 hown1 (acc ++ [UInt8.ofNat q]) (map_bcell_snoc acc q _ (by omega) rfl))
      go_ret
      exact ⟨ret_str (by rw [← HV.out, vbytes_small (by omega)]), hsin1⟩
theorem implEV_out (n : Int) (w : World) (h : n < 0 ∨ 562949953421311 < n) :
    Calls Tryd.prog 9 #[.int .i64 n] w fun e w' => e = .returned (.string ⟨#[]⟩) ∧ Since w w' := by
  by_cases hn : n < 0
  · clear h
    go_enter Tryd.func9, Tryd.ntmps9
    go_wp2
    go_ret
    exact ⟨rfl, Since.refl _⟩
  · have h2 : 562949953421311 < n := by omega
    clear h
    go_enter Tryd.func9, Tryd.ntmps9
    go_wp2
    go_ret
    exact ⟨rfl, Since.refl _⟩
theorem implEV_any (n : Int) (w : World) :
    Calls Tryd.prog 9 #[.int .i64 n] w fun e w' => e = .returned (.string (encV n)) ∧ Since w w' := by
  by_cases h : n < 0 ∨ 562949953421311 < n
  · rw [encV_out h]; exact implEV_out n w h
  · obtain ⟨m, rfl⟩ := Int.eq_ofNat_of_zero_le (show 0 ≤ n by omega)
    rw [encV_in m (by omega)]; exact implEV_in m w (by omega)

end Go.Proofs.YtpikplllkjpciaaDoor
