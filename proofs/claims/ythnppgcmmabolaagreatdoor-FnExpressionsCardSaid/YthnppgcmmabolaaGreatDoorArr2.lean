/- Two rows of two bytes held against each other. -/
import Derived.Test.YthnppgcmmabolaaGreatDoorK0
namespace Go.Proofs.YthnppgcmmabolaaGreatDoor
set_option maxRecDepth 100000
open Go.ChangeShapes Go.WideShapes Go.ChangeAt Go.RowKit

theorem part_0 (w : World) (x y : Int) : (part 5 #[Value.int .u8 x, .int .u8 y] 0).run Tryz.prog w = .ok (.int .u8 x) w := by kernel_rfl
theorem part_1 (w : World) (x y : Int) : (part 5 #[Value.int .u8 x, .int .u8 y] 1).run Tryz.prog w = .ok (.int .u8 y) w := by kernel_rfl
theorem eq_two (a0 a1 g0 g1 : Int) (w : World) :
    (Op.equalIn 10000 84 (.agg #[.int .u8 a0, .int .u8 a1]) (.agg #[.int .u8 g0, .int .u8 g1])).run Tryz.prog w = .ok (a0 == g0 && a1 == g1) w := by
  show (Op.equalIn (9998 + 1 + 1) 84 (.agg #[.int .u8 a0, .int .u8 a1]) (.agg #[.int .u8 g0, .int .u8 g1])).run Tryz.prog w = .ok (a0 == g0 && a1 == g1) w
  generalize 9998 = d
  have h1 := fun W => part_0 W
  have h2 := fun W => part_1 W
  have e0 : ∀ (W : World) (a b : Int), (Op.equalIn (d + 1) 5 (.int .u8 a) (.int .u8 b)).run Tryz.prog W = .ok (a == b) W := fun W a b => run_equalIn_int W d 5 .u8 .u8 a b Tryz.underlying5
  rw [Op.equalIn]
  simp only [Sem.run_bind, run_underlying Tryz.underlying84, Result.andThen_ok, Tryz.sizeOf5]
  rw [Std.Legacy.Range.forIn_eq_forIn_range']
  simp only [Std.Legacy.Range.size, List.range', List.forIn_cons, List.forIn_nil, Sem.run_bind, Result.andThen_ok, h1, e0]
  by_cases ha : a0 = g0 <;> by_cases hb : a1 = g1 <;> simp [h2, e0, ha, hb]
theorem eql_two (a0 a1 g0 g1 : Int) (w : World) :
    (binOp .eql 84 (.agg #[.int .u8 a0, .int .u8 a1]) (.agg #[.int .u8 g0, .int .u8 g1])).run Tryz.prog w = .ok (.bool (a0 == g0 && a1 == g1)) w := by
  rw [run_eql_struct, eq_two]; rfl
end Go.Proofs.YthnppgcmmabolaaGreatDoor
