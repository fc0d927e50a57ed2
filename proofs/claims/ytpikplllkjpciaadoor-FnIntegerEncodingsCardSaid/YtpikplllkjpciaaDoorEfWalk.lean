/- The law of EncodeFixed, walked: at every number and width it returns true. -/
import Derived.Test.YtpikplllkjpciaaDoorEncG
namespace Go.Proofs.YtpikplllkjpciaaDoor
open Go.ChangeShapes Go.WideShapes Go.ChangeAt Go.RowKit

theorem implEF_any (n m : Nat) (w : World) (h9 : n ≤ 9223372036854775807) (h1 : 1 ≤ m) (h2 : m ≤ 7) :
    Calls Tryd.prog 12 #[.int .i64 (n : Int), .int .i64 (m : Int)] w fun e w' => e = .returned (.string (encFixed n m)) ∧ Since w w' := by
  by_cases hz : n / 256 ^ m = 0
  · rw [encFixed_in rfl hz]; exact implEF_in n m w h9 h1 h2 hz
  · rw [encFixed_out rfl hz]; exact implEF_out n m w h9 h1 h2 hz

end Go.Proofs.YtpikplllkjpciaaDoor
