/- NodesAfter, the model's: its loop. -/
import Derived.Test.YtilkheclimammaaNaP
namespace Go.Proofs.Ytilkheclimammaa
set_option maxRecDepth 100000
open Go.ChangeShapes Go.WideShapes Go.ChangeAt Go.RowKit
set_option linter.unusedVariables false
set_option linter.unusedSimpArgs false

def maskN (zs : List Int) : Nat := zs.foldl (fun m z => m ||| 2 ^ z.toNat) 0
theorem maskN_snoc (zs : List Int) (d : Nat) : maskN (zs ++ [(d : Int)]) = maskN zs ||| 2 ^ d := by unfold maskN; rw [List.foldl_append]; simp
theorem maskN_test (zs : List Int) (h : ∀ z ∈ zs, 0 ≤ z) (i : Nat) : (maskN zs).testBit i = decide ((i : Int) ∈ zs) := by
  have gen : ∀ (zs : List Int) (m : Nat), (∀ z ∈ zs, 0 ≤ z) → (zs.foldl (fun m z => m ||| 2 ^ z.toNat) m).testBit i = (m.testBit i || decide ((i : Int) ∈ zs)) := by
    intro zs
    induction zs with
    | nil => intro m _; simp
    | cons z zs ih =>
      intro m hz
      have h0 := hz z (List.mem_cons_self ..)
      rw [List.foldl_cons, ih _ (fun u hu => hz u (List.mem_cons_of_mem _ hu)), Nat.testBit_or, Nat.testBit_two_pow, Bool.or_assoc]
      congr 1
      rw [Bool.eq_iff_iff]
      simp only [Bool.or_eq_true, decide_eq_true_eq, List.mem_cons]
      constructor
      · rintro (h | h)
        · exact .inl (by omega)
        · exact .inr h
      · rintro (h | h)
        · exact .inl (by omega)
        · exact .inr h
  have := gen zs 0 h
  simpa [maskN] using this
theorem maskN_lt (zs : List Int) (h : ∀ z ∈ zs, 0 ≤ z ∧ z < 5) : maskN zs < 32 := by
  have gen : ∀ (zs : List Int) (m : Nat), m < 2 ^ 5 → (∀ z ∈ zs, 0 ≤ z ∧ z < 5) → zs.foldl (fun m z => m ||| 2 ^ z.toNat) m < 2 ^ 5 := by
    intro zs
    induction zs with
    | nil => intro m hm _; simpa using hm
    | cons z zs ih =>
      intro m hm hz
      have h0 := hz z (List.mem_cons_self ..)
      rw [List.foldl_cons]
      exact ih _ (Nat.or_lt_two_pow hm (Nat.pow_lt_pow_right (by omega) (by omega))) (fun u hu => hz u (List.mem_cons_of_mem _ hu))
  exact gen zs 0 (by omega) h
theorem or_two (M d : Nat) (hM : M < 32) (hd : d < 5) : bits .or .i64 (M : Int) (2 ^ d) = ((M ||| 2 ^ d : Nat) : Int) := by
  have hp : (2 : Nat) ^ d < 2 ^ 5 := Nat.pow_lt_pow_right (by omega) hd
  have := i64_or_nat M (2 ^ d) (by omega) (by omega)
  rw [Int.natCast_pow] at this
  exact this
theorem wrap_two (d : Nat) (hd : d < 5) : IntKind.i64.wrap (2 ^ d : Int) = 2 ^ d := by
  have hp : (2 : Nat) ^ d < 2 ^ 5 := Nat.pow_lt_pow_right (by omega) hd
  have e : ((2 : Int) ^ d) = ((2 ^ d : Nat) : Int) := by rw [Int.natCast_pow]; rfl
  rw [e]
  exact wrap_small _ (by omega)
theorem ends_eq (g : Grf) (x y : Int) : (withS g x y).map (fun s => (tOf (travG g) s).dst) = endsL g x y := by
  unfold withS endsL
  rw [List.map_map]
  apply List.map_congr_left
  intro t ht
  have ht' := (List.mem_filter.1 (List.mem_filter.1 ht).1).1
  show (tOf (travG g) t.st).dst = t.dst
  rcases Bool.eq_false_or_eq_true (validB g) with hv | hv
  · have hp := ((validB_iff g).1 hv).2.2.2
    unfold travG at ht' ⊢
    rw [if_pos hv] at ht' ⊢
    rw [tOf_self hp ht']
  · unfold travG at ht'
    rw [if_neg (by rw [hv]; decide)] at ht'
    simp at ht'
end Go.Proofs.Ytilkheclimammaa
