/- The machine of positions: its functions. -/
import Derived.Test.YtcokggjekleabaaMaZs
import Derived.Test.YtcokggjekleabaaA1
import Derived.Test.YtcokggjekleabaaPc
namespace Go.Proofs.Ytcokggjekleabaa
set_option maxRecDepth 100000
open Go.ChangeShapes Go.WideShapes Go.ChangeAt Go.RowKit Go.Maps
set_option linter.unusedVariables false
set_option linter.unusedSimpArgs false

def stepZ (p : Psn) (s : Int) (k : Nat) : Option Int := if aft p s.toNat k = 0 then none else some (aft p s.toNat k : Int)
def accZ (p : Psn) (s : Int) : Bool := accN p s.toNat
def InZ (s : Int) : Prop := 0 ≤ s ∧ s < 2097152
theorem stepZ_in {p : Psn} (hl : p.ls.length ≤ 20) {s x : Int} {k : Nat} (h : stepZ p s k = some x) : InZ x := by
  unfold stepZ at h
  split at h
  · cases h
  · injection h with h
    subst h
    have h1 := Nat.lt_of_lt_of_le (aft_lt p s.toNat k) (Nat.pow_le_pow_right (by decide : 0 < 2) (show p.ls.length + 1 ≤ 21 by omega))
    unfold InZ
    omega
/-- The boxes that the machine's functions read. -/
structure MchZ (p : Psn) (BA BC : Nat) (W : World) : Prop where
  box : ∃ ao ac bo bc, Blk W BA 41 #[.slice ao p.ls.length ac, .int .i64 p.fi, .int .i64 p.la, .slice bo p.fo.length bc, .bool p.nu] ∧ PsAt W (.agg #[.slice ao p.ls.length ac, .int .i64 p.fi, .int .i64 p.la, .slice bo p.fo.length bc, .bool p.nu]) p
  acc : Blk W BC 84 #[.int .i64 (accS p : Nat)]
theorem MchZ.since {p : Psn} {BA BC : Nat} {W W' : World} (h : MchZ p BA BC W) (k : Since W W') : MchZ p BA BC W' := by
  obtain ⟨ao, ac, bo, bc, h1, h2⟩ := h.box
  exact ⟨⟨ao, ac, bo, bc, h1.since k, h2.since k⟩, h.acc.since k⟩
set_option maxHeartbeats 1000000 in
set_option maxRecDepth 100000 in
theorem nextZ_any (p : Psn) (hv : posB p = true) (hl : p.ls.length ≤ 20) (BA BC : Nat) (s : Int) (k : Nat) (hs : InZ s) (W : World) (h : MchZ p BA BC W) :
    Calls Try.prog 122 #[.int .i64 s, .int .i64 (k : Nat), .pointer (some ⟨BA, 0, none⟩)] W (NxOutZs (stepZ p) s k W) := by
  obtain ⟨S, rfl⟩ : ∃ S : Nat, s = S := ⟨s.toNat, by unfold InZ at hs; omega⟩
  obtain ⟨ao, ac, bo, bc, h1, h2⟩ := h.box
  have HA := Lib.hid (implAF_any _ p S k W h2 hv (by unfold InZ at hs; omega))
  have hlt := Nat.lt_of_lt_of_le (aft_lt p S k) (Nat.pow_le_pow_right (by decide : 0 < 2) (show p.ls.length + 1 ≤ 21 by omega))
  have HE : Hid (stepZ p (S : Int) k = if aft p S k = 0 then none else some (aft p S k : Int)) := by unfold Hid stepZ; rw [Int.toNat_natCast]
  obtain ⟨a, ha⟩ : ∃ a, a = aft p S k := ⟨_, rfl⟩
  rw [← ha] at HA hlt HE
  have hin : InI (a : Int) := by unfold InI; omega
  obtain ⟨⟨p0, p1, p2, p3, p4⟩, _⟩ := h1.fiveP
  clear h h2 hs ha h1
  go_enter Try.func122, Try.ntmps122
  go_wp2_with fail
  refine HA.out.mono ?_
  rintro e w1 ⟨rfl, hs1⟩
  by_cases h0 : a = 0
  · subst h0
    have hb : ((0 : Int) != 0) = false := by decide
    go_wp2
    go_ret2
    exact ⟨⟨_, false, rfl, by rw [HE.out]; rfl, hin⟩, hs1⟩
  · have hb : ((a : Int) != 0) = true := by simp; omega
    have HE2 : Hid (stepZ p (S : Int) k = some (a : Int)) := by unfold Hid; rw [HE.out, if_neg h0]
    clear h0
    go_wp2
    go_ret2
    exact ⟨⟨_, true, rfl, by rw [HE2.out]; rfl, hin⟩, hs1⟩
set_option maxRecDepth 100000 in
theorem accZ_any (p : Psn) (hv : posB p = true) (BA BC : Nat) (s : Int) (hs : InZ s) (W : World) (h : MchZ p BA BC W) :
    Calls Try.prog 121 #[.int .i64 s, .pointer (some ⟨BC, 0, none⟩)] W fun e w' => e = .returned (.bool (accZ p s)) ∧ Since W w' := by
  obtain ⟨S, rfl⟩ : ∃ S : Nat, s = S := ⟨s.toNat, by unfold InZ at hs; omega⟩
  have hS : S < 2097152 := by unfold InZ at hs; omega
  have hA9 : accS p < 2097152 := by
    refine Nat.lt_of_lt_of_le (accS_lt hv) ?_
    exact Nat.le_trans (Nat.pow_le_pow_right (by decide) (show p.ls.length + 1 ≤ 21 by have := (posB_parts hv).1; omega)) (by decide)
  have p0 := h.acc.cell 0
  rw [show (#[Value.int .i64 (accS p : Nat)] : Array Value)[0]? = some (.int .i64 (accS p : Nat)) from rfl] at p0
  obtain ⟨T, hT⟩ : ∃ T, T = accS p := ⟨_, rfl⟩
  rw [← hT] at hA9 p0
  have HR2 : Hid ((((S &&& T : Nat) : Int) != 0) = accZ p (S : Int)) := by unfold Hid accZ; rw [Int.toNat_natCast, ← acc_and, ← hT]; exact and_ne_cast _ _
  have hand := i64_and_nat S T (by omega) (by omega)
  clear hv hs hT hA9 h
  go_enter Try.func121, Try.ntmps121
  go_wp2
  go_ret
  exact ⟨ret_bool HR2.out, Since.refl W⟩
end Go.Proofs.Ytcokggjekleabaa
