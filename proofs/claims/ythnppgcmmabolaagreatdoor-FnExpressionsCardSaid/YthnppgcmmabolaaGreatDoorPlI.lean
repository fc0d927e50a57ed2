/- ParseLetter, the program's. -/
import Derived.Test.YthnppgcmmabolaaGreatDoorPl
import Derived.Test.YthnppgcmmabolaaGreatDoorArr2
namespace Go.Proofs.YthnppgcmmabolaaGreatDoor
set_option maxRecDepth 100000
set_option linter.unusedVariables false
open Go.ChangeShapes Go.WideShapes Go.ChangeAt Go.RowKit

theorem fmtB_size {k : Nat} (h : k ≤ 8) : (fmtB k).size ≤ 2 := by
  rcases nine h with rfl | rfl | rfl | rfl | rfl | rfl | rfl | rfl | rfl <;> decide
theorem fmtB_noz {k : Nat} (h : k ≤ 8) : Lib.indexByte (fmtB k).data.toList 0 < 0 := by
  rcases nine h with rfl | rfl | rfl | rfl | rfl | rfl | rfl | rfl | rfl <;> decide
theorem pl_long {s : ByteArray} (h : 2 < s.size) : plN s = 0 ∧ plB s = false :=
  pl_none fun j hj e => by have := fmtB_size (k := j) (by omega); rw [e] at this; omega
theorem pl_zero {s : ByteArray} (h : 0 ≤ Lib.indexByte s.data.toList 0) : plN s = 0 ∧ plB s = false :=
  pl_none fun j hj e => by have := fmtB_noz (k := j) (by omega); rw [e] at this; omega

theorem index_fmt (k : Nat) (h : k ≤ 8) (w : World) :
    (Instr.index 85 (.agg #[.int .u8 97, .int .u8 0, .int .u8 97, .int .u8 45, .int .u8 98, .int .u8 0, .int .u8 98, .int .u8 45, .int .u8 99, .int .u8 0, .int .u8 99, .int .u8 45, .int .u8 48, .int .u8 0, .int .u8 49, .int .u8 0, .int .u8 50, .int .u8 0]) (.int .i64 (k : Int))).run Tryz.prog w = .ok (.agg #[.int .u8 (fbs.getD (2 * k) 0), .int .u8 (fbs.getD (2 * k + 1) 0)]) w := by
  rcases nine h with h | h | h | h | h | h | h | h | h <;> subst h <;> kernel_rfl

/-- What the walk holds of the table and of the row 'given'. -/
structure PlW (B : Nat) (g0 g1 : Int) (w : World) : Prop where
  h0 : w.cell? ⟨B, 0, none⟩ = some (.int .u8 g0)
  h1 : w.cell? ⟨B, 1, none⟩ = some (.int .u8 g1)

set_option maxHeartbeats 4000000 in
set_option maxRecDepth 100000 in
theorem implPL_any (s : ByteArray) (w : World) (ht : Fmts w) (hs : s.size ≤ 9223372036854775807) : Calls Tryz.prog 43 #[.string s] w fun e w' => e = .returned (.tuple #[.int .i64 (plN s), .bool (plB s)]) ∧ Since w w' := by
  by_cases hsz : s.size ≤ 2
  · by_cases hz : 0 ≤ Lib.indexByte s.data.toList 0
    · have HR := Lib.hid (pl_zero hz)
      have hd : decide (0 ≤ Lib.indexByte s.data.toList 0) = true := by simpa using hz
      have HC := Lib.hid (fun W => Tryz.strings_Contains_one s 0 W)
      clear ht hz hs
      go_enter Tryz.func43, Tryz.ntmps43
      go_wp2_with fail
      refine (HC.out _).mono ?_
      rintro e w' ⟨rfl, rfl⟩
      go_wp2_with fail
      go_ret2
      exact ⟨ret_pair HR.out.1.symm HR.out.2.symm, (Since.refl _).alloc _⟩
    · have h0 : Lib.indexByte s.data.toList 0 < 0 := by omega
      have HI := Lib.hid (fun k hk => row_iff s k hk hsz h0)
      have hd : decide (0 ≤ Lib.indexByte s.data.toList 0) = false := by simpa using h0
      have HC := Lib.hid (fun W => Tryz.strings_Contains_one s 0 W)
      have hcp := fun ty => copy_two s w ty hsz
      obtain ⟨g0, hg0⟩ : ∃ g, g = gb s 0 := ⟨_, rfl⟩
      obtain ⟨g1, hg1⟩ : ∃ g, g = gb s 1 := ⟨_, rfl⟩
      rw [← hg0, ← hg1] at hcp
      rw [← hg0, ← hg1] at HI
      clear hg0 hg1
      have HT := Lib.hid ht
      have c0 := ht.2 0 (by omega)
      have c1 := ht.2 1 (by omega)
      have c2 := ht.2 2 (by omega)
      have c3 := ht.2 3 (by omega)
      have c4 := ht.2 4 (by omega)
      have c5 := ht.2 5 (by omega)
      have c6 := ht.2 6 (by omega)
      have c7 := ht.2 7 (by omega)
      have c8 := ht.2 8 (by omega)
      have c9 := ht.2 9 (by omega)
      have c10 := ht.2 10 (by omega)
      have c11 := ht.2 11 (by omega)
      have c12 := ht.2 12 (by omega)
      have c13 := ht.2 13 (by omega)
      have c14 := ht.2 14 (by omega)
      have c15 := ht.2 15 (by omega)
      have c16 := ht.2 16 (by omega)
      have c17 := ht.2 17 (by omega)
      have hsize := ht.1
      clear ht hz hs h0
      simp [fbs] at c0 c1 c2 c3 c4 c5 c6 c7 c8 c9 c10 c11 c12 c13 c14 c15 c16 c17
      go_enter Tryz.func43, Tryz.ntmps43
      go_wp2_with fail
      refine (HC.out _).mono ?_
      rintro e w' ⟨rfl, rfl⟩
      go_wp2_with fail
      clear c0 c1 c2 c3 c4 c5 c6 c7 c8 c9 c10 c11 c12 c13 c14 c15 c16 c17 hcp hd
      go_loopw [18] (fun i wr => ∃ k : Nat, k ≤ 9 ∧ i = .int .i64 k ∧ Hid (∀ j, j < k → fmtB j ≠ s) ∧ Since w wr ∧ wr.cell? ⟨w.heap.size, 0, none⟩ = some (.int .u8 g0) ∧ wr.cell? ⟨w.heap.size, 1, none⟩ = some (.int .u8 g1)) (fun i _ => 9 - (intOf i).toNat)
      case atStart => exact ⟨0, by omega, rfl, fun j hj => by omega, (Since.refl w).alloc _, by simp, by simp⟩
      case round =>
        obtain ⟨k, hk, rfl, HN, hsin, d0, d1⟩ := hrel
        have hlt9 : w.heap.size < wr.heap.size := World.block_lt_of_cell? _ _ d0
        have HS := Lib.hid hsin
        have HD0 := Lib.hid d0
        have HD1 := Lib.hid d1
        clear hsin
        by_cases hlt : k ≤ 8
        · have hki : (k : Int) < 9 := by omega
          have HII := Lib.hid (HI.out k hlt)
          have hix := fun W => index_fmt k hlt W
          obtain ⟨a0, ha0⟩ : ∃ a, a = fbs.getD (2 * k) 0 := ⟨_, rfl⟩
          obtain ⟨a1, ha1⟩ : ∃ a, a = fbs.getD (2 * k + 1) 0 := ⟨_, rfl⟩
          rw [← ha0, ← ha1] at hix HII
          clear ha0 ha1
          by_cases hm : a0 = g0 ∧ a1 = g1
          · obtain ⟨m0, m1⟩ := hm
            have HE := Lib.hid ((HII.out).1 ⟨m0, m1⟩)
            have hq : (Op.equalIn 10000 84 (.agg #[.int .u8 a0, .int .u8 a1]) (.agg #[.int .u8 g0, .int .u8 g1])) = (Op.equalIn 10000 84 (.agg #[.int .u8 a0, .int .u8 a1]) (.agg #[.int .u8 g0, .int .u8 g1])) := rfl
            have he2 : ∀ W, (Op.equalIn 10000 84 (.agg #[.int .u8 a0, .int .u8 a1]) (.agg #[.int .u8 g0, .int .u8 g1])).run Tryz.prog W = .ok true W := fun W => by rw [eq_two]; simp [m0, m1]
            have HR := Lib.hid (pl_at hlt HE.out)
            clear m0 m1 hq
            go_wp2
            go_ret2
            exact ⟨ret_pair HR.out.1.symm HR.out.2.symm, HS.out.alloc _⟩
          · have HE : Hid (∀ j, j < k + 1 → fmtB j ≠ s) := below_snoc HN.out (fun e => hm ((HII.out).2 e))
            have he2 : ∀ W, (Op.equalIn 10000 84 (.agg #[.int .u8 a0, .int .u8 a1]) (.agg #[.int .u8 g0, .int .u8 g1])).run Tryz.prog W = .ok false W := fun W => by rw [eq_two]; congr 1; rw [Bool.and_eq_false_iff]; simp only [beq_eq_false_iff_ne]; by_cases h : a0 = g0 <;> simp_all
            clear hm
            go_wp2
            go_roundw
            case rel => exact ⟨k + 1, by omega, by go_num, HE, HS.out.alloc _, (World.cell?_alloc_past _ _ _ hlt9).trans HD0.out, (World.cell?_alloc_past _ _ _ hlt9).trans HD1.out⟩
            case measure => simp [intOf]; omega
        · obtain rfl : k = 9 := by omega
          have HR := Lib.hid (pl_none HN.out)
          go_wp2
          go_ret2
          exact ⟨ret_pair HR.out.1.symm HR.out.2.symm, HS.out⟩
  · have HR := Lib.hid (pl_long (s := s) (by omega))
    have h2 : (2 : Int) < s.size := by omega
    have h2b : decide ((2 : Int) < s.size) = true := by simpa using h2
    clear ht hsz
    go_enter Tryz.func43, Tryz.ntmps43
    go_wp2
    go_ret2
    exact ⟨ret_pair HR.out.1.symm HR.out.2.symm, (Since.refl _).alloc _⟩
end Go.Proofs.YthnppgcmmabolaaGreatDoor
