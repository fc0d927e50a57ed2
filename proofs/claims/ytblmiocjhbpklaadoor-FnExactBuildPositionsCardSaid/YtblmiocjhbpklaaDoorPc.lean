/- Accepting sets, PositionsAfter, AcceptsSet, PositionsMatch: the model's and the program's. -/
import Derived.Test.YtblmiocjhbpklaaDoorPa
import Derived.Test.YtblmiocjhbpklaaDoorIw
import Derived.Test.YtblmiocjhbpklaaDoorK1
namespace Go.Proofs.YtblmiocjhbpklaaDoor
set_option maxRecDepth 100000
open Go.ChangeShapes Go.WideShapes Go.ChangeAt Go.RowKit
set_option linter.unusedVariables false
set_option linter.unusedSimpArgs false

def stB (p : Psn) (x : Int) : Bool := posB p && setB (p.ls.length + 1) x
def paN (p : Psn) (x l : Int) : Nat := if stB p x = true then aft p x.toNat l else 0
def asB (p : Psn) (x : Int) : Bool := stB p x && accN p x.toNat
theorem stB_nat {p : Psn} {x : Int} (h : stB p x = true) : posB p = true ∧ ∃ S : Nat, x = (S : Int) ∧ S < 2097152 := by
  unfold stB at h
  rw [Bool.and_eq_true] at h
  obtain ⟨h1, h2⟩ := h
  obtain ⟨m, e, hm⟩ := setB_iff.1 h2
  obtain ⟨h3, _⟩ := posB_parts h1
  exact ⟨h1, m, e, Nat.lt_of_lt_of_le hm (Nat.le_trans (Nat.pow_le_pow_right (by decide) (show p.ls.length + 1 ≤ 21 by omega)) (by decide))⟩
theorem and_ne_cast (a b : Nat) : (((a &&& b : Nat) : Int) != 0) = !(a &&& b == 0) := ne_cast _

set_option maxHeartbeats 1500000 in
set_option maxRecDepth 100000 in
theorem implAS_any (v : Value) (p : Psn) (w : World) (h : PsAt w v p) (hv : posB p = true) :
    Calls Tryd.prog 71 #[v] w fun e w' => e = .returned (.int .i64 (accS p : Int)) ∧ Since w w' := by
  obtain ⟨_, _, _, ⟨L, hL, hL2, hL9⟩, _⟩ := posB_plain hv
  have HP := Lib.hid h
  obtain ⟨a, b, rfl, ha, hb, hi1, hi2⟩ := h
  obtain ⟨ao, ac, rfl, _⟩ := ha.row
  obtain ⟨bo, bc, rfl, _⟩ := hb.row
  clear ha hb
  obtain ⟨n, hn⟩ : ∃ n, n = p.ls.length := ⟨_, rfl⟩
  obtain ⟨m, hm⟩ : ∃ m, m = p.fo.length := ⟨_, rfl⟩
  rw [← hn, ← hm] at HP ⊢
  obtain ⟨y, hy⟩ : ∃ y, y = w.alloc (.cells #[.slice ao n ac, .int .i64 p.fi, .int .i64 p.la, .slice bo m bc, .bool p.nu] 39) := ⟨_, rfl⟩
  have hs0 : Since w y := by rw [hy]; exact (Since.refl w).alloc _
  have B0 : Hid (Blk y w.heap.size 39 #[.slice ao n ac, .int .i64 p.fi, .int .i64 p.la, .slice bo m bc, .bool p.nu]) := by rw [hy]; exact Blk.new rfl _ _
  have HN := Lib.hid hn
  have HM := Lib.hid hm
  have HY := Lib.hid hy
  obtain ⟨⟨p0, p1, p2, p3, p4⟩, _⟩ := B0.out.fiveP
  rw [hy] at p0 p1 p2 p3 p4
  clear hn hm hy
  rw [hL] at p2 B0 HY ⊢
  have HC : Hid (∀ W, Calls Tryd.prog 122 #[.int .i64 (L : Int)] W fun e w' => e = .returned (.int .i64 ((L * 2 : Nat) : Int)) ∧ W = w') := fun W => statesOf_any L W (by omega)
  have HC0 : Hid (∀ W, Calls Tryd.prog 78 #[.int .i64 0] W fun e w' => e = .returned (.int .i64 ((1 : Nat) : Int)) ∧ W = w') := fun W => setOf_any 0 W (by omega)
  obtain ⟨D, hD⟩ : ∃ D, D = L * 2 := ⟨_, rfl⟩
  rw [← hD] at HC
  have HOR := Lib.hid (i64_or_nat D 1 (by omega) (by omega))
  have HR : Hid (accS p = D + (if p.nu = true then 1 else 0)) := by unfold Hid accS; rw [hL2, hD]
  have HR1 : Hid (D ||| 1 = D + 1) := by unfold Hid; rw [hD]; exact or_hi 1 L 1 (by decide)
  clear hL hL2 hL9 hD
  obtain ⟨nu, hnu⟩ : ∃ u, u = p.nu := ⟨_, rfl⟩
  rw [← hnu] at p4 B0 HY HR ⊢
  clear hnu
  cases nu with
  | false =>
    have HR2 : Hid (accS p = D) := by unfold Hid; rw [HR.out]; rfl
    go_enter Tryd.func71, Tryd.ntmps71
    go_wp2_with fail
    refine (HC.out _).mono ?_
    rintro e wx ⟨rfl, rfl⟩
    go_wp2
    go_ret
    exact ⟨ret_int (by rw [HR2.out]), by rw [← HY.out]; exact hs0⟩
  | true =>
    have HR2 : Hid (accS p = D ||| 1) := by unfold Hid; rw [HR.out, HR1.out]; rfl
    go_enter Tryd.func71, Tryd.ntmps71
    go_wp2_with fail
    refine (HC.out _).mono ?_
    rintro e wx ⟨rfl, rfl⟩
    go_wp2_with fail
    refine (HC0.out _).mono ?_
    rintro e wx ⟨rfl, rfl⟩
    have hor := HOR.out
    go_wp2
    go_ret
    exact ⟨ret_int (by rw [HR2.out]; first | rfl | exact hor), by rw [← HY.out]; exact hs0⟩
set_option maxHeartbeats 1500000 in
set_option maxRecDepth 100000 in
theorem implSS_any (v : Value) (p : Psn) (x : Int) (w : World) (h : PsAt w v p) (hl : p.ls.length ≤ maxLen) (hl2 : p.fo.length ≤ maxLen) :
    Calls Tryd.prog 74 #[v, .int .i64 x] w fun e w' => e = .returned (.bool (stB p x)) ∧ Since w w' := by
  have HP := Lib.hid h
  obtain ⟨a, b, rfl, ha, hb, hi1, hi2⟩ := h
  obtain ⟨ao, ac, rfl, _⟩ := ha.row
  obtain ⟨bo, bc, rfl, _⟩ := hb.row
  clear ha hb
  obtain ⟨n, hn⟩ : ∃ n, n = p.ls.length := ⟨_, rfl⟩
  obtain ⟨m, hm⟩ : ∃ m, m = p.fo.length := ⟨_, rfl⟩
  rw [← hn, ← hm] at HP ⊢
  obtain ⟨y, hy⟩ : ∃ y, y = w.alloc (.cells #[.slice ao n ac, .int .i64 p.fi, .int .i64 p.la, .slice bo m bc, .bool p.nu] 39) := ⟨_, rfl⟩
  have hs0 : Since w y := by rw [hy]; exact (Since.refl w).alloc _
  have B0 : Hid (Blk y w.heap.size 39 #[.slice ao n ac, .int .i64 p.fi, .int .i64 p.la, .slice bo m bc, .bool p.nu]) := by rw [hy]; exact Blk.new rfl _ _
  have HN := Lib.hid hn
  have HM := Lib.hid hm
  have HY := Lib.hid hy
  obtain ⟨⟨p0, p1, p2, p3, p4⟩, _⟩ := B0.out.fiveP
  rw [hy] at p0 p1 p2 p3 p4
  clear hn hm hy
  have HPV : Hid (∀ W, Since w W → Calls Tryd.prog 27 #[.agg #[.slice ao n ac, .int .i64 p.fi, .int .i64 p.la, .slice bo m bc, .bool p.nu]] W fun e w' => e = .returned (.bool (posB p)) ∧ Since W w') := fun W hW => implPV_any _ p W (HP.out.since hW) hl hl2
  cases hv : posB p with
  | false =>
    rw [hv] at HPV
    have HR : Hid (stB p x = false) := by unfold Hid stB; rw [hv]; rfl
    clear hv
    go_enter Tryd.func74, Tryd.ntmps74
    go_wp2_with fail
    rw [← HY.out]
    refine (HPV.out _ hs0).mono ?_
    rintro e w1 ⟨rfl, hs1⟩
    go_wp2
    go_ret
    exact ⟨ret_bool HR.out.symm, hs0.trans hs1⟩
  | true =>
    rw [hv] at HPV
    have hn9 : n ≤ 20 := by rw [HN.out]; exact (posB_parts hv).1
    have HR : Hid (stB p x = setB (n + 1) x) := by unfold Hid stB; rw [hv, ← HN.out]; rfl
    have HB : Hid (∀ W, Calls Tryd.prog 76 #[.int .i64 x, .int .i64 ((n : Int) + 1)] W fun e w' => e = .returned (.bool (setB (n + 1) x)) ∧ W = w') := fun W => isBelow_any x (n + 1) W (by omega)
    clear hv
    go_enter Tryd.func74, Tryd.ntmps74
    go_wp2_with fail
    rw [← HY.out]
    refine (HPV.out _ hs0).mono ?_
    rintro e w1 ⟨rfl, hs1⟩
    obtain ⟨⟨q0, q1, q2, q3, q4⟩, _⟩ := (B0.out.since hs1).fiveP
    go_wp2_with fail
    refine (HB.out _).mono ?_
    rintro e wx ⟨rfl, rfl⟩
    go_wp2
    go_ret
    exact ⟨ret_bool HR.out.symm, hs0.trans hs1⟩
set_option maxHeartbeats 1500000 in
set_option maxRecDepth 100000 in
theorem implPA_any (v : Value) (p : Psn) (x l : Int) (w : World) (h : PsAt w v p) (hl : p.ls.length ≤ maxLen) (hl2 : p.fo.length ≤ maxLen) :
    Calls Tryd.prog 26 #[v, .int .i64 x, .int .i64 l] w fun e w' => e = .returned (.int .i64 (paN p x l : Int)) ∧ Since w w' := by
  have HP := Lib.hid h
  obtain ⟨a, b, rfl, ha, hb, hi1, hi2⟩ := h
  obtain ⟨ao, ac, rfl, _⟩ := ha.row
  obtain ⟨bo, bc, rfl, _⟩ := hb.row
  clear ha hb
  obtain ⟨n, hn⟩ : ∃ n, n = p.ls.length := ⟨_, rfl⟩
  obtain ⟨m, hm⟩ : ∃ m, m = p.fo.length := ⟨_, rfl⟩
  rw [← hn, ← hm] at HP ⊢
  obtain ⟨y, hy⟩ : ∃ y, y = w.alloc (.cells #[.slice ao n ac, .int .i64 p.fi, .int .i64 p.la, .slice bo m bc, .bool p.nu] 39) := ⟨_, rfl⟩
  have hs0 : Since w y := by rw [hy]; exact (Since.refl w).alloc _
  have B0 : Hid (Blk y w.heap.size 39 #[.slice ao n ac, .int .i64 p.fi, .int .i64 p.la, .slice bo m bc, .bool p.nu]) := by rw [hy]; exact Blk.new rfl _ _
  have HN := Lib.hid hn
  have HM := Lib.hid hm
  have HY := Lib.hid hy
  obtain ⟨⟨p0, p1, p2, p3, p4⟩, _⟩ := B0.out.fiveP
  rw [hy] at p0 p1 p2 p3 p4
  clear hn hm hy
  have HSS : Hid (∀ W, Since w W → Calls Tryd.prog 74 #[.agg #[.slice ao n ac, .int .i64 p.fi, .int .i64 p.la, .slice bo m bc, .bool p.nu], .int .i64 x] W fun e w' => e = .returned (.bool (stB p x)) ∧ Since W w') := fun W hW => implSS_any _ p x W (HP.out.since hW) hl hl2
  cases hv : stB p x with
  | false =>
    rw [hv] at HSS
    have HR : Hid (paN p x l = 0) := by unfold Hid paN; rw [hv]; rfl
    clear hv
    go_enter Tryd.func26, Tryd.ntmps26
    go_wp2_with fail
    rw [← HY.out]
    refine (HSS.out _ hs0).mono ?_
    rintro e w1 ⟨rfl, hs1⟩
    go_wp2
    go_ret
    exact ⟨ret_int (by rw [HR.out]; rfl), hs0.trans hs1⟩
  | true =>
    rw [hv] at HSS
    obtain ⟨hpv, S, rfl, hS⟩ := stB_nat hv
    have HR : Hid (paN p (S : Int) l = aft p S l) := by unfold Hid paN; rw [hv]; rfl
    have HAF : Hid (∀ W, Since w W → Calls Tryd.prog 75 #[.agg #[.slice ao n ac, .int .i64 p.fi, .int .i64 p.la, .slice bo m bc, .bool p.nu], .int .i64 (S : Int), .int .i64 l] W fun e w' => e = .returned (.int .i64 (aft p S l : Int)) ∧ Since W w') := fun W hW => implAF_any _ p S l W (HP.out.since hW) hpv (by omega)
    clear hv hpv
    go_enter Tryd.func26, Tryd.ntmps26
    go_wp2_with fail
    rw [← HY.out]
    refine (HSS.out _ hs0).mono ?_
    rintro e w1 ⟨rfl, hs1⟩
    obtain ⟨⟨q0, q1, q2, q3, q4⟩, _⟩ := (B0.out.since hs1).fiveP
    have hs2 := hs0.trans hs1
    go_wp2_with fail
    refine (HAF.out _ hs2).mono ?_
    rintro e w2 ⟨rfl, hs3⟩
    go_wp2
    go_ret
    exact ⟨ret_int (by rw [HR.out]), hs2.trans hs3⟩
set_option maxHeartbeats 1500000 in
set_option maxRecDepth 100000 in
theorem implQS_any (v : Value) (p : Psn) (x : Int) (w : World) (h : PsAt w v p) (hl : p.ls.length ≤ maxLen) (hl2 : p.fo.length ≤ maxLen) :
    Calls Tryd.prog 29 #[v, .int .i64 x] w fun e w' => e = .returned (.bool (asB p x)) ∧ Since w w' := by
  have HP := Lib.hid h
  obtain ⟨a, b, rfl, ha, hb, hi1, hi2⟩ := h
  obtain ⟨ao, ac, rfl, _⟩ := ha.row
  obtain ⟨bo, bc, rfl, _⟩ := hb.row
  clear ha hb
  obtain ⟨n, hn⟩ : ∃ n, n = p.ls.length := ⟨_, rfl⟩
  obtain ⟨m, hm⟩ : ∃ m, m = p.fo.length := ⟨_, rfl⟩
  rw [← hn, ← hm] at HP ⊢
  obtain ⟨y, hy⟩ : ∃ y, y = w.alloc (.cells #[.slice ao n ac, .int .i64 p.fi, .int .i64 p.la, .slice bo m bc, .bool p.nu] 39) := ⟨_, rfl⟩
  have hs0 : Since w y := by rw [hy]; exact (Since.refl w).alloc _
  have B0 : Hid (Blk y w.heap.size 39 #[.slice ao n ac, .int .i64 p.fi, .int .i64 p.la, .slice bo m bc, .bool p.nu]) := by rw [hy]; exact Blk.new rfl _ _
  have HN := Lib.hid hn
  have HM := Lib.hid hm
  have HY := Lib.hid hy
  obtain ⟨⟨p0, p1, p2, p3, p4⟩, _⟩ := B0.out.fiveP
  rw [hy] at p0 p1 p2 p3 p4
  clear hn hm hy
  have HSS : Hid (∀ W, Since w W → Calls Tryd.prog 74 #[.agg #[.slice ao n ac, .int .i64 p.fi, .int .i64 p.la, .slice bo m bc, .bool p.nu], .int .i64 x] W fun e w' => e = .returned (.bool (stB p x)) ∧ Since W w') := fun W hW => implSS_any _ p x W (HP.out.since hW) hl hl2
  cases hv : stB p x with
  | false =>
    rw [hv] at HSS
    have HR : Hid (asB p x = false) := by unfold Hid asB; rw [hv]; rfl
    clear hv
    go_enter Tryd.func29, Tryd.ntmps29
    go_wp2_with fail
    rw [← HY.out]
    refine (HSS.out _ hs0).mono ?_
    rintro e w1 ⟨rfl, hs1⟩
    go_wp2
    go_ret
    exact ⟨ret_bool HR.out.symm, hs0.trans hs1⟩
  | true =>
    rw [hv] at HSS
    obtain ⟨hpv, S, rfl, hS⟩ := stB_nat hv
    have HR : Hid (asB p (S : Int) = accN p S) := by unfold Hid asB; rw [hv]; rfl
    have HAS : Hid (∀ W, Since w W → Calls Tryd.prog 71 #[.agg #[.slice ao n ac, .int .i64 p.fi, .int .i64 p.la, .slice bo m bc, .bool p.nu]] W fun e w' => e = .returned (.int .i64 (accS p : Int)) ∧ Since W w') := fun W hW => implAS_any _ p W (HP.out.since hW) hpv
    have hA9 : accS p < 2097152 := by
      refine Nat.lt_of_lt_of_le (accS_lt hpv) ?_
      exact Nat.le_trans (Nat.pow_le_pow_right (by decide) (show p.ls.length + 1 ≤ 21 by have := (posB_parts hpv).1; omega)) (by decide)
    obtain ⟨T, hT⟩ : ∃ T, T = accS p := ⟨_, rfl⟩
    rw [← hT] at HAS hA9
    have HR2 : Hid ((((S &&& T : Nat) : Int) != 0) = asB p (S : Int)) := by unfold Hid; rw [HR.out, ← acc_and, ← hT]; exact and_ne_cast _ _
    have HAND := Lib.hid (i64_and_nat S T (by omega) (by omega))
    clear hv hpv hT hA9
    go_enter Tryd.func29, Tryd.ntmps29
    go_wp2_with fail
    rw [← HY.out]
    refine (HSS.out _ hs0).mono ?_
    rintro e w1 ⟨rfl, hs1⟩
    obtain ⟨⟨q0, q1, q2, q3, q4⟩, _⟩ := (B0.out.since hs1).fiveP
    have hs2 := hs0.trans hs1
    go_wp2_with fail
    refine (HAS.out _ hs2).mono ?_
    rintro e w2 ⟨rfl, hs3⟩
    have hand := HAND.out
    go_wp2
    go_ret
    exact ⟨ret_bool HR2.out, hs2.trans hs3⟩
end Go.Proofs.YtblmiocjhbpklaaDoor
