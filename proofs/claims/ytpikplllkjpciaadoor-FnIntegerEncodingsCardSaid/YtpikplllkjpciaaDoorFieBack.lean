/- Decoding what was encoded: fixed widths and hexadecimal digits. -/
import Derived.Test.YtpikplllkjpciaaDoorEfWalk
import Derived.Test.YtpikplllkjpciaaDoorVarI
import Derived.Test.YtpikplllkjpciaaDoorHexI
import Derived.Test.YtpikplllkjpciaaDoorParseI
import Derived.Test.YtpikplllkjpciaaDoorFiePlain
namespace Go.Proofs.YtpikplllkjpciaaDoor
open Go.ChangeShapes Go.WideShapes Go.ChangeAt Go.RowKit
open Go.Lib (decDigits)

theorem beNat_from (l : List UInt8) : ∀ n0 : Nat, l.foldl (fun n b => n * 256 + b.toNat) n0 = n0 * 256 ^ l.length + beNat l := by
  unfold beNat
  induction l with
  | nil => intro n0; simp
  | cons b l ih =>
    intro n0
    rw [List.foldl_cons, List.foldl_cons, ih, ih (0 * 256 + b.toNat), List.length_cons, Nat.pow_succ]
    rw [Nat.add_mul, Nat.zero_mul, Nat.zero_add, Nat.mul_comm (256 ^ l.length) 256, Nat.mul_assoc, Nat.add_assoc]
theorem beNat_cons (b : UInt8) (l : List UInt8) : beNat (b :: l) = b.toNat * 256 ^ l.length + beNat l := by
  rw [beNat, List.foldl_cons, beNat_from]; simp
theorem beNat_low (n k : Nat) : beNat (lowBytes n k) = n % 256 ^ k := by
  induction k with
  | zero => simp [lowBytes, beNat, Nat.mod_one]
  | succ k ih =>
    rw [lowBytes, beNat_cons, ih, lowBytes_length, UInt8.toNat_ofNat', Nat.mod_eq_of_lt (show n / 256 ^ k % 256 < 2 ^ 8 by omega)]
    rw [Nat.pow_succ, Nat.mod_mul, Nat.mul_comm, Nat.add_comm]
theorem low_back (n m : Nat) (h : n / 256 ^ m = 0) (l : List UInt8) : beNat ((lowBytes n m ++ l).take m) = n := by
  have ht : (lowBytes n m ++ l).take m = lowBytes n m := by
    rw [List.take_append_of_le_length (by rw [lowBytes_length]; omega), List.take_of_length_le (by rw [lowBytes_length]; omega)]
  have hp : 0 < 256 ^ m := Nat.pow_pos (by omega)
  rw [ht, beNat_low, Nat.mod_eq_of_lt]
  rcases Nat.div_eq_zero_iff.mp h with h | h
  · omega
  · exact h

theorem hx_hexd (x : Nat) (h : x < 16) : hx (UInt8.ofNat (hexd x)) = x := hx_of _ x h (by rw [UInt8.toNat_ofNat', Nat.mod_eq_of_lt]; have := hexd_lt x h; omega)
theorem hexOf_at (l : List UInt8) : ∀ i (h : i < l.length), (hexOf l)[2 * i]? = some (UInt8.ofNat (hexd (l[i].toNat / 16))) ∧ (hexOf l)[2 * i + 1]? = some (UInt8.ofNat (hexd (l[i].toNat % 16))) := by
  induction l with
  | nil => intro i h; simp at h
  | cons a l ih =>
    intro i h
    match i with
    | 0 => simp [hexOf]
    | i + 1 =>
      have := ih i (by simpa using h)
      rw [show 2 * (i + 1) = 2 * i + 1 + 1 from by omega]
      simp only [hexOf, List.getElem?_cons_succ, List.getElem_cons_succ]
      exact this
theorem hex_hx (l : List UInt8) (i : Nat) (h : i < (hexOf l).length) : ∃ x, x < 16 ∧ (hexOf l)[i] = UInt8.ofNat (hexd x) := by
  have hl := hexOf_length l
  by_cases he : i % 2 = 0
  · obtain ⟨j, rfl⟩ : ∃ j, i = 2 * j := ⟨i / 2, by omega⟩
    have hj : j < l.length := by omega
    have := (hexOf_at l j hj).1
    rw [List.getElem?_eq_getElem h] at this
    exact ⟨_, by have := l[j].toNat_lt; omega, Option.some.inj this⟩
  · obtain ⟨j, rfl⟩ : ∃ j, i = 2 * j + 1 := ⟨i / 2, by omega⟩
    have hj : j < l.length := by omega
    have := (hexOf_at l j hj).2
    rw [List.getElem?_eq_getElem h] at this
    exact ⟨_, by omega, Option.some.inj this⟩
theorem getB (l : List UInt8) (i : Nat) (h : i < (⟨l.toArray⟩ : ByteArray).size) : (⟨l.toArray⟩ : ByteArray)[i] = l[i]'h := rfl
theorem hex_ok (l : List UInt8) : HexOk ⟨(hexOf l).toArray⟩ := by
  constructor
  · have : (⟨(hexOf l).toArray⟩ : ByteArray).size = (hexOf l).length := rfl
    rw [this, hexOf_length]; omega
  · intro i h
    rw [getB]
    obtain ⟨x, hx16, e⟩ := hex_hx l i h
    rw [e, hx_hexd x hx16]; omega
theorem dg_hex (l : List UInt8) (j : Nat) (hj : j < l.length) : dg ⟨(hexOf l).toArray⟩ (2 * j) = l[j].toNat / 16 ∧ dg ⟨(hexOf l).toArray⟩ (2 * j + 1) = l[j].toNat % 16 := by
  have hs : (⟨(hexOf l).toArray⟩ : ByteArray).size = 2 * l.length := hexOf_length l
  have hb := l[j].toNat_lt
  obtain ⟨a, b⟩ := hexOf_at l j hj
  constructor
  · unfold dg
    rw [dif_pos (by omega), getB]
    rw [List.getElem?_eq_getElem (by rw [hexOf_length]; omega)] at a
    rw [Option.some.inj a, hx_hexd _ (by omega)]; omega
  · unfold dg
    rw [dif_pos (by omega), getB]
    rw [List.getElem?_eq_getElem (by rw [hexOf_length]; omega)] at b
    rw [Option.some.inj b, hx_hexd _ (by omega)]; omega
theorem pairs_hex (l : List UInt8) : pairs ⟨(hexOf l).toArray⟩ l.length = l := by
  apply List.ext_getElem
  · simp [pairs]
  · intro j h1 h2
    simp only [pairs, List.getElem_map, List.getElem_range]
    obtain ⟨a, b⟩ := dg_hex l j h2
    rw [a, b, show 16 * (l[j].toNat / 16) + l[j].toNat % 16 = l[j].toNat from by omega]
    exact UInt8.ofNat_toNat
theorem out_hex (l : List UInt8) : outS ⟨(hexOf l).toArray⟩ = ⟨l.toArray⟩ ∧ outB ⟨(hexOf l).toArray⟩ = true := by
  have h := hex_ok l
  have hs : (⟨(hexOf l).toArray⟩ : ByteArray).size / 2 = l.length := by
    have : (⟨(hexOf l).toArray⟩ : ByteArray).size = 2 * l.length := hexOf_length l
    omega
  constructor
  · unfold outS; rw [if_pos h, hs, pairs_hex]
  · unfold outB; simp [h]

/-- EncodeFixed at any number and width: a string, empty where the number is negative, does not fit or the width is out of range. -/
theorem implDF_some (s : ByteArray) (x : Int) (w : World) (hs : s.size ≤ 1048576) :
    Calls Tryd.prog 13 #[.string s, .int .i64 x] w fun e w' => ∃ (y : Int) (b : Bool), e = .returned (.tuple #[.int .i64 y, .bool b]) ∧ w = w' := by
  by_cases h : x < 1 ∨ 7 < x ∨ s.size < x
  · exact (implDF_bad s x w h hs).mono fun e w' ⟨he, hw⟩ => ⟨_, _, he, hw⟩
  · exact (implDF_ok s x w (by omega) (by omega) (by omega) hs).mono fun e w' ⟨he, hw⟩ => ⟨_, _, he, hw⟩

def encF (x y : Int) : ByteArray := if x < 0 ∨ y < 1 ∨ 7 < y then ⟨#[]⟩ else encFixed x.toNat y.toNat
theorem encF_size (x y : Int) : (encF x y).size ≤ 7 := by
  unfold encF
  split
  · exact Nat.zero_le _
  · rename_i h
    by_cases hz : x.toNat / 256 ^ y.toNat = 0
    · rw [encFixed_in rfl hz]
      show (lowBytes x.toNat y.toNat).toArray.size ≤ 7
      rw [List.size_toArray, lowBytes_length]; omega
    · rw [encFixed_out rfl hz]; exact Nat.zero_le _
theorem implEF_gen (x y : Int) (w : World) (h9 : x ≤ 9223372036854775807) : Calls Tryd.prog 12 #[.int .i64 x, .int .i64 y] w fun e w' => e = .returned (.string (encF x y)) ∧ Since w w' := by
  by_cases h : x < 0 ∨ y < 1 ∨ 7 < y
  · unfold encF; rw [if_pos h]; exact implEF_bad x y w h
  · obtain ⟨n, rfl⟩ := Int.eq_ofNat_of_zero_le (show 0 ≤ x by omega)
    obtain ⟨m, rfl⟩ := Int.eq_ofNat_of_zero_le (show 0 ≤ y by omega)
    unfold encF; rw [if_neg h]; exact implEF_any n m w (by omega) (by omega) (by omega)
theorem specEF_gen (x y : Int) (w : World) (h9 : x ≤ 9223372036854775807) : Calls Tryd.prog 14 #[.int .i64 x, .int .i64 y] w fun e w' => e = .returned (.string (encF x y)) ∧ Since w w' := by
  by_cases h : x < 0 ∨ y < 1 ∨ 7 < y
  · unfold encF; rw [if_pos h]; exact specEF_bad x y w h
  · obtain ⟨n, rfl⟩ := Int.eq_ofNat_of_zero_le (show 0 ≤ x by omega)
    obtain ⟨m, rfl⟩ := Int.eq_ofNat_of_zero_le (show 0 ≤ y by omega)
    unfold encF; rw [if_neg h]; exact specEF_end n m w (by omega) (by omega) (by omega)
/-- What DecodeFixed makes of an encoded number, whatever follows. -/
def FixBack (x y : Int) (w : World) (e : Ending) (w' : World) : Prop :=
  ∃ (z : Int) (b : Bool), e = .returned (.tuple #[.int .i64 z, .bool b]) ∧ w = w' ∧ ((encF x y).toList ≠ [] → z = x ∧ b = true ∧ ((encF x y).size : Int) = y)
theorem implDF_back (x y : Int) (T : List UInt8) (w : World) (hT : T.length ≤ 40) :
    Calls Tryd.prog 13 #[.string (encF x y ++ ⟨T.toArray⟩), .int .i64 y] w (FixBack x y w) := by
  have hsz := encF_size x y
  have hs : (encF x y ++ ⟨T.toArray⟩).size = (encF x y).size + T.length := by rw [ByteArray.size_append]; rfl
  by_cases h : x < 0 ∨ y < 1 ∨ 7 < y
  · have he : (encF x y).toList = [] := by unfold encF; rw [if_pos h]; simp
    exact (implDF_some _ y w (by omega)).mono fun e w' ⟨z, b, h1, h2⟩ => ⟨z, b, h1, h2, fun hn => absurd he hn⟩
  · obtain ⟨n, rfl⟩ := Int.eq_ofNat_of_zero_le (show 0 ≤ x by omega)
    obtain ⟨m, rfl⟩ := Int.eq_ofNat_of_zero_le (show 0 ≤ y by omega)
    by_cases hz : n / 256 ^ m = 0
    · have he : encF n m = ⟨(lowBytes n m).toArray⟩ := by unfold encF; rw [if_neg h]; exact encFixed_in rfl hz
      have hl : (encF n m).size = m := by rw [he]; show (lowBytes n m).toArray.size = m; rw [List.size_toArray, lowBytes_length]
      refine (implDF_ok _ (m : Int) w (by omega) (by omega) (by omega) (by omega)).mono fun e w' ⟨h1, h2⟩ => ⟨_, _, h1, h2, fun _ => ⟨?_, rfl, by omega⟩⟩
      have hd : (encF n m ++ ⟨T.toArray⟩).data.toList = lowBytes n m ++ T := by rw [he]; simp
      rw [hd, Int.toNat_natCast, low_back n m hz]
    · have he : (encF n m).toList = [] := by unfold encF; rw [if_neg h]; simp only [Int.toNat_natCast]; rw [encFixed_out rfl hz]; simp
      exact (implDF_some _ (m : Int) w (by omega)).mono fun e w' ⟨z, b, h1, h2⟩ => ⟨z, b, h1, h2, fun hn => absurd he hn⟩

theorem implEH_T (T : List UInt8) (w : World) (hT : T.length ≤ 40) : Calls Tryd.prog 15 #[.string ⟨T.toArray⟩] w fun e w' => e = .returned (.string ⟨(hexOf T).toArray⟩) ∧ Since w w' := by
  have := implEH_any ⟨T.toArray⟩ w (show T.toArray.size ≤ 1048576 by rw [List.size_toArray]; omega)
  exact this
theorem implDH_T (T : List UInt8) (w : World) (hT : T.length ≤ 40) : Calls Tryd.prog 16 #[.string ⟨(hexOf T).toArray⟩] w fun e w' => e = .returned (.tuple #[.string ⟨T.toArray⟩, .bool true]) ∧ Since w w' := by
  have := implDH_any ⟨(hexOf T).toArray⟩ w (show (hexOf T).toArray.size ≤ 1048576 by rw [List.size_toArray, hexOf_length]; omega)
  rw [(out_hex T).1, (out_hex T).2] at this
  exact this
theorem itoa_len (x : Int) (h0 : -9223372036854775808 ≤ x) (h9 : x ≤ 9223372036854775807) : (Lib.itoa x).length ≤ 21 := by
  have hd : (decDigits x.natAbs).length ≤ 20 := by
    rw [Lib.decDigits_length]
    by_cases hn : Lib.nDigits x.natAbs ≤ 20
    · exact hn
    · have aux : ∀ (k u : Nat), u < 10 ^ (k + 1) → Lib.nDigits u ≤ k + 1 := by
        intro k
        induction k with
        | zero => intro u hu; rw [Lib.nDigits_small (by simpa using hu)]; omega
        | succ k ih =>
          intro u hu
          by_cases h10 : u < 10
          · rw [Lib.nDigits_small h10]; omega
          · rw [Lib.nDigits_big h10]
            have := ih (u / 10) (by rw [Nat.div_lt_iff_lt_mul (by omega)]; rw [Nat.pow_succ] at hu; exact hu)
            omega
      exact aux 19 _ (by omega)
  unfold Lib.itoa
  split
  · simp; exact hd
  · rw [show x.toNat = x.natAbs from by omega]; omega
theorem implPI_yes (x : Int) (w : World) (h0 : -1000000000 < x) (h9 : x < 1000000000) (ht : Tab w) : Calls Tryd.prog 18 #[.string ⟨(Lib.itoa x).toArray⟩] w fun e w' => e = .returned (.tuple #[.int .i64 x, .bool true]) ∧ Since w w' := by
  have := implPI_any ⟨(Lib.itoa x).toArray⟩ w (show (Lib.itoa x).toArray.size ≤ 1048576 by rw [List.size_toArray]; have := itoa_len x (by omega) (by omega); omega) ht
  rw [show (⟨(Lib.itoa x).toArray⟩ : ByteArray).data.toList = Lib.itoa x from rfl, pOut_itoa, if_pos ⟨h0, h9⟩] at this
  exact this
theorem implPI_no (x : Int) (w : World) (h0 : -9223372036854775808 ≤ x) (h9 : x ≤ 9223372036854775807) (h : ¬ (-1000000000 < x ∧ x < 1000000000)) (ht : Tab w) : Calls Tryd.prog 18 #[.string ⟨(Lib.itoa x).toArray⟩] w fun e w' => e = .returned (.tuple #[.int .i64 0, .bool false]) ∧ Since w w' := by
  have := implPI_any ⟨(Lib.itoa x).toArray⟩ w (show (Lib.itoa x).toArray.size ≤ 1048576 by rw [List.size_toArray]; have := itoa_len x h0 h9; omega) ht
  rw [show (⟨(Lib.itoa x).toArray⟩ : ByteArray).data.toList = Lib.itoa x from rfl, pOut_itoa, if_neg h] at this
  exact this
end Go.Proofs.YtpikplllkjpciaaDoor
