/- Accepting sets, PositionsAfter, AcceptsSet, PositionsMatch: the model's and the program's. -/
import Derived.Test.YtcokggjekleabaaPa
import Derived.Test.YtcokggjekleabaaIw
import Derived.Test.YtcokggjekleabaaK1
namespace Go.Proofs.Ytcokggjekleabaa
set_option maxRecDepth 100000
open Go.ChangeShapes Go.WideShapes Go.ChangeAt Go.RowKit
set_option linter.unusedVariables false
set_option linter.unusedSimpArgs false

def stPz (p : Psn) (x : Int) : Bool := posB p && setB (p.ls.length + 1) x
def paN (p : Psn) (x l : Int) : Nat := if stPz p x = true then aft p x.toNat l else 0
def asB (p : Psn) (x : Int) : Bool := stPz p x && accN p x.toNat
theorem stPz_nat {p : Psn} {x : Int} (h : stPz p x = true) : posB p = true ∧ ∃ S : Nat, x = (S : Int) ∧ S < 2097152 := by
  unfold stPz at h
  rw [Bool.and_eq_true] at h
  obtain ⟨h1, h2⟩ := h
  obtain ⟨m, e, hm⟩ := setB_iff.1 h2
  obtain ⟨h3, _⟩ := posB_parts h1
  exact ⟨h1, m, e, Nat.lt_of_lt_of_le hm (Nat.le_trans (Nat.pow_le_pow_right (by decide) (show p.ls.length + 1 ≤ 21 by omega)) (by decide))⟩
theorem and_ne_cast (a b : Nat) : (((a &&& b : Nat) : Int) != 0) = !(a &&& b == 0) := ne_cast _

set_option maxHeartbeats 1500000 in
set_option maxRecDepth 100000 in
theorem specAC_any (v : Value) (p : Psn) (S : Nat) (w : World) (h : PsAt w v p) (hv : posB p = true) (hS : S < 4611686018427387904) :
    Calls Try.prog 115 #[v, .int .i64 (S : Int)] w fun e w' => e = .returned (.bool (accN p S)) ∧ Since w w' := by
  obtain ⟨_, _, _, ⟨L, hL, hL2, hL9⟩, _⟩ := posB_plain hv
  have HP := Lib.hid h
  obtain ⟨a, b, rfl, ha, hb, hi1, hi2⟩ := h
  obtain ⟨ao, ac, rfl, _⟩ := ha.row
  obtain ⟨bo, bc, rfl, _⟩ := hb.row
  clear ha hb
  obtain ⟨n, hn⟩ : ∃ n, n = p.ls.length := ⟨_, rfl⟩
  obtain ⟨m, hm⟩ : ∃ m, m = p.fo.length := ⟨_, rfl⟩
  rw [← hn, ← hm] at HP ⊢
  obtain ⟨y, hy⟩ : ∃ y, y = w.alloc (.cells #[.slice ao n ac, .int .i64 p.fi, .int .i64 p.la, .slice bo m bc, .bool p.nu] 41) := ⟨_, rfl⟩
  have hs0 : Since w y := by rw [hy]; exact (Since.refl w).alloc _
  have B0 : Hid (Blk y w.heap.size 41 #[.slice ao n ac, .int .i64 p.fi, .int .i64 p.la, .slice bo m bc, .bool p.nu]) := by rw [hy]; exact Blk.new rfl _ _
  have HN := Lib.hid hn
  have HM := Lib.hid hm
  have HY := Lib.hid hy
  obtain ⟨⟨p0, p1, p2, p3, p4⟩, _⟩ := B0.out.fiveP
  rw [hy] at p0 p1 p2 p3 p4
  clear hn hm hy
  rw [hL] at p2 B0 HY ⊢
  obtain ⟨c0, hc0⟩ : ∃ c, c = S.testBit 0 := ⟨_, rfl⟩
  obtain ⟨nu, hnu⟩ : ∃ u, u = p.nu := ⟨_, rfl⟩
  have HR : Hid (accN p S = ((c0 && nu) || !(S / 2 &&& L == 0))) := by unfold Hid accN; rw [hc0, hnu, hL2]
  rw [← hnu] at p4 B0 HY ⊢
  have HT0 := Lib.hid (bit_test0 S hS)
  rw [← hc0] at HT0
  have h2 : ((S : Int) / 2) = ((S / 2 : Nat) : Int) := by omega
  obtain ⟨D, hD⟩ : ∃ D, D = S / 2 := ⟨_, rfl⟩
  have hD9 : D < 4611686018427387904 := by omega
  rw [← hD] at HR h2
  have HL := Lib.hid hL
  have hnc := and_ne_cast D L
  have ht0 := HT0.out
  have hand := i64_and_nat D L (by omega) (by omega)
  clear hL hL2 hc0 hnu hD hD9 hL9
  cases c0 with
  | false =>
    have HR2 : Hid (accN p S = !(D &&& L == 0)) := by unfold Hid; rw [HR.out]; rfl
    go_enter Try.func115, Try.ntmps115
    go_wp2
    go_ret
    exact ⟨ret_bool (by rw [HR2.out]), by rw [← HY.out]; exact hs0⟩
  | true =>
    cases nu with
    | false =>
      have HR2 : Hid (accN p S = !(D &&& L == 0)) := by unfold Hid; rw [HR.out]; rfl
      go_enter Try.func115, Try.ntmps115
      go_wp2
      go_ret
      exact ⟨ret_bool (by rw [HR2.out]), by rw [← HY.out]; exact hs0⟩
    | true =>
      have HR2 : Hid (accN p S = true) := by unfold Hid; rw [HR.out]; rfl
      go_enter Try.func115, Try.ntmps115
      go_wp2
      go_ret
      exact ⟨ret_bool HR2.out.symm, by rw [← HY.out]; exact hs0⟩
set_option maxHeartbeats 1500000 in
set_option maxRecDepth 100000 in
theorem implAS_any (v : Value) (p : Psn) (w : World) (h : PsAt w v p) (hv : posB p = true) :
    Calls Try.prog 67 #[v] w fun e w' => e = .returned (.int .i64 (accS p : Int)) ∧ Since w w' := by
  obtain ⟨_, _, _, ⟨L, hL, hL2, hL9⟩, _⟩ := posB_plain hv
  have HP := Lib.hid h
  obtain ⟨a, b, rfl, ha, hb, hi1, hi2⟩ := h
  obtain ⟨ao, ac, rfl, _⟩ := ha.row
  obtain ⟨bo, bc, rfl, _⟩ := hb.row
  clear ha hb
  obtain ⟨n, hn⟩ : ∃ n, n = p.ls.length := ⟨_, rfl⟩
  obtain ⟨m, hm⟩ : ∃ m, m = p.fo.length := ⟨_, rfl⟩
  rw [← hn, ← hm] at HP ⊢
  obtain ⟨y, hy⟩ : ∃ y, y = w.alloc (.cells #[.slice ao n ac, .int .i64 p.fi, .int .i64 p.la, .slice bo m bc, .bool p.nu] 41) := ⟨_, rfl⟩
  have hs0 : Since w y := by rw [hy]; exact (Since.refl w).alloc _
  have B0 : Hid (Blk y w.heap.size 41 #[.slice ao n ac, .int .i64 p.fi, .int .i64 p.la, .slice bo m bc, .bool p.nu]) := by rw [hy]; exact Blk.new rfl _ _
  have HN := Lib.hid hn
  have HM := Lib.hid hm
  have HY := Lib.hid hy
  obtain ⟨⟨p0, p1, p2, p3, p4⟩, _⟩ := B0.out.fiveP
  rw [hy] at p0 p1 p2 p3 p4
  clear hn hm hy
  rw [hL] at p2 B0 HY ⊢
  have HC : Hid (∀ W, Calls Try.prog 117 #[.int .i64 (L : Int)] W fun e w' => e = .returned (.int .i64 ((L * 2 : Nat) : Int)) ∧ W = w') := fun W => statesOf_any L W (by omega)
  have HC0 : Hid (∀ W, Calls Try.prog 68 #[.int .i64 0] W fun e w' => e = .returned (.int .i64 ((1 : Nat) : Int)) ∧ W = w') := fun W => setOf_any 0 W (by omega)
  obtain ⟨D, hD⟩ : ∃ D, D = L * 2 := ⟨_, rfl⟩
  rw [← hD] at HC
  have HOR := Lib.hid (i64_or_nat D 1 (by omega) (by omega))
  have HR : Hid (accS p = D + (if p.nu = true then 1 else 0)) := by unfold Hid accS; rw [hL2, hD]
  have HR1 : Hid (D ||| 1 = D + 1) := by unfold Hid; rw [hD]; exact or_hi 1 L 1 (by decide)
  clear hL hL2 hL9 hD
  obtain ⟨nu, hnu⟩ : ∃ u, u = p.nu := ⟨_, rfl⟩
  rw [← hnu] at p4 B0 HY HR ⊢
  clear hnu
  cases nu with
  | false =>
    have HR2 : Hid (accS p = D) := by unfold Hid; rw [HR.out]; rfl
    go_enter Try.func67, Try.ntmps67
    go_wp2_with fail
    refine (HC.out _).mono ?_
    rintro e wx ⟨rfl, rfl⟩
    go_wp2
    go_ret
    exact ⟨ret_int (by rw [HR2.out]), by rw [← HY.out]; exact hs0⟩
  | true =>
    have HR2 : Hid (accS p = D ||| 1) := by unfold Hid; rw [HR.out, HR1.out]; rfl
    go_enter Try.func67, Try.ntmps67
    go_wp2_with fail
    refine (HC.out _).mono ?_
    rintro e wx ⟨rfl, rfl⟩
    go_wp2_with fail
    refine (HC0.out _).mono ?_
    rintro e wx ⟨rfl, rfl⟩
    have hor := HOR.out
    go_wp2
    go_ret
    exact ⟨ret_int (by rw [HR2.out]; first | rfl | exact hor), by rw [← HY.out]; exact hs0⟩
end Go.Proofs.Ytcokggjekleabaa
