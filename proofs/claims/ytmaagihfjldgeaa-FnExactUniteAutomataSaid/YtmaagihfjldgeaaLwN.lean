/- Where a letter leads to from a state or from none, and whether it accepts: the model's and the program's. -/
import Derived.Test.YtmaagihfjldgeaaLwM
import Derived.Test.YtmaagihfjldgeaaAuC
namespace Go.Proofs.Ytmaagihfjldgeaa
set_option maxRecDepth 100000
open Go.ChangeShapes Go.WideShapes Go.ChangeAt Go.RowKit Go.Maps
set_option linter.unusedVariables false
set_option linter.unusedSimpArgs false

set_option maxRecDepth 100000 in
theorem specNxt_any (v : Value) (A : Aut) (s : Int) (k : Nat) (w : World) (h : AutAt w v A) (hv : ValidA A) (hs : InQ A s) (hk : k < 9) :
    Calls Try.prog 153 #[v, .int .i64 s, .int .i64 (k : Nat)] w fun e w' => e = .returned (.int .i64 (stpQ A s k)) ∧ Since w w' := by
  obtain ⟨a, b, rfl, _, ha, hb⟩ := h
  obtain ⟨ao, ca, rfl⟩ := ha.len
  obtain ⟨bo, cb, rfl, HC⟩ := hb
  clear ha
  have HV := Lib.hid hv
  have hnm : A.nx.length = A.ac.length := hv.2.1
  have hn12 := hv.1
  rw [hnm]
  unfold InQ at hs
  obtain ⟨n, hn⟩ : ∃ n, n = A.ac.length := ⟨_, rfl⟩
  rw [← hn] at hs hn12 ⊢
  have HN := Lib.hid hn
  clear hn hv hnm
  obtain ⟨y, hy⟩ : ∃ y, y = w.alloc (.cells #[.int .i64 A.st, .slice ao n ca, .slice bo n cb] 39) := ⟨_, rfl⟩
  have hs0 : Since w y := by rw [hy]; exact (Since.refl w).alloc _
  have B0 : Hid (Blk y w.heap.size 39 #[.int .i64 A.st, .slice ao n ca, .slice bo n cb]) := by rw [hy]; exact Blk.new rfl _ _
  obtain ⟨⟨p0, p1, p2⟩, _⟩ := B0.out.threeA
  by_cases e1 : s = -1
  · subst e1
    have HF : Hid (stpQ A (-1) k = -1) := rfl
    rw [hy] at p0 p1 p2 hs0
    clear hk
    go_enter Try.func153, Try.ntmps153
    go_wp2
    go_ret
    exact ⟨ret_int HF.out.symm, hs0⟩
  · obtain ⟨t, rfl⟩ : ∃ t : Nat, s = t := ⟨s.toNat, by omega⟩
    have HF : Hid (stpQ A (t : Int) k = nextA A.nx t k) := by unfold Hid stpQ; rw [if_neg e1]
    have hti : (t : Int) < (n : Int) := by omega
    have ht0 : (0 : Int) ≤ (t : Int) := by omega
    obtain ⟨c1, o1, c2, o2, cc, rfl, hc1, hcell, hc2, hcs⟩ := next_cells HV.out HC t (by rw [← HN.out]; omega)
    have hck := hcs k hk
    obtain ⟨q, hq⟩ : ∃ q, q = nextA A.nx t k := ⟨_, rfl⟩
    rw [← hq] at hck HF
    have d1 : y.cell? ⟨c1, o1 + t, none⟩ = some (.slice (some ⟨c2, o2, none⟩) 9 cc) := (Below.cell hs0 (p := ⟨c1, o1 + t, none⟩) hc1).trans hcell
    have d2 : y.cell? ⟨c2, o2 + k, none⟩ = some (.int .i64 q) := (Below.cell hs0 (p := ⟨c2, o2 + k, none⟩) hc2).trans hck
    have hki : (k : Int) < 9 := by omega
    have hk0 : (0 : Int) ≤ (k : Int) := by omega
    have hnl : ¬ ((t : Int) < 0) := by omega
    have hne : ((t : Int) == -1) = false := by simp
    rw [hy] at p0 p1 p2 hs0 d1 d2
    clear hq e1 hs hcs hck hcell
    go_enter Try.func153, Try.ntmps153
    go_wp2
    go_ret
    exact ⟨ret_int HF.out.symm, hs0⟩
set_option maxRecDepth 100000 in
theorem implNxt_any (v : Value) (A : Aut) (s : Int) (k : Nat) (w : World) (h : AutAt w v A) (hv : ValidA A) (hs : InQ A s) (hk : k < 9) :
    Calls Try.prog 150 #[v, .int .i64 s, .int .i64 (k : Nat)] w fun e w' => e = .returned (.int .i64 (stpQ A s k)) ∧ Since w w' := by
  obtain ⟨a, b, rfl, _, ha, hb⟩ := h
  obtain ⟨ao, ca, rfl⟩ := ha.len
  obtain ⟨bo, cb, rfl, HC⟩ := hb
  clear ha
  have HV := Lib.hid hv
  have hnm : A.nx.length = A.ac.length := hv.2.1
  have hn12 := hv.1
  rw [hnm]
  unfold InQ at hs
  obtain ⟨n, hn⟩ : ∃ n, n = A.ac.length := ⟨_, rfl⟩
  rw [← hn] at hs hn12 ⊢
  have HN := Lib.hid hn
  clear hn hv hnm
  obtain ⟨y, hy⟩ : ∃ y, y = w.alloc (.cells #[.int .i64 A.st, .slice ao n ca, .slice bo n cb] 39) := ⟨_, rfl⟩
  have hs0 : Since w y := by rw [hy]; exact (Since.refl w).alloc _
  have B0 : Hid (Blk y w.heap.size 39 #[.int .i64 A.st, .slice ao n ca, .slice bo n cb]) := by rw [hy]; exact Blk.new rfl _ _
  obtain ⟨⟨p0, p1, p2⟩, _⟩ := B0.out.threeA
  by_cases e1 : s = -1
  · subst e1
    have HF : Hid (stpQ A (-1) k = -1) := rfl
    rw [hy] at p0 p1 p2 hs0
    clear hk
    go_enter Try.func150, Try.ntmps150
    go_wp2
    go_ret
    exact ⟨ret_int HF.out.symm, hs0⟩
  · obtain ⟨t, rfl⟩ : ∃ t : Nat, s = t := ⟨s.toNat, by omega⟩
    have HF : Hid (stpQ A (t : Int) k = nextA A.nx t k) := by unfold Hid stpQ; rw [if_neg e1]
    have hti : (t : Int) < (n : Int) := by omega
    have ht0 : (0 : Int) ≤ (t : Int) := by omega
    obtain ⟨c1, o1, c2, o2, cc, rfl, hc1, hcell, hc2, hcs⟩ := next_cells HV.out HC t (by rw [← HN.out]; omega)
    have hck := hcs k hk
    obtain ⟨q, hq⟩ : ∃ q, q = nextA A.nx t k := ⟨_, rfl⟩
    rw [← hq] at hck HF
    have d1 : y.cell? ⟨c1, o1 + t, none⟩ = some (.slice (some ⟨c2, o2, none⟩) 9 cc) := (Below.cell hs0 (p := ⟨c1, o1 + t, none⟩) hc1).trans hcell
    have d2 : y.cell? ⟨c2, o2 + k, none⟩ = some (.int .i64 q) := (Below.cell hs0 (p := ⟨c2, o2 + k, none⟩) hc2).trans hck
    have hki : (k : Int) < 9 := by omega
    have hk0 : (0 : Int) ≤ (k : Int) := by omega
    have hnl : ¬ ((t : Int) < 0) := by omega
    have hne : ((t : Int) == -1) = false := by simp
    rw [hy] at p0 p1 p2 hs0 d1 d2
    clear hq e1 hs hcs hck hcell
    go_enter Try.func150, Try.ntmps150
    go_wp2
    go_ret
    exact ⟨ret_int HF.out.symm, hs0⟩
set_option maxRecDepth 100000 in
theorem specAcc_any (v : Value) (A : Aut) (s : Int) (w : World) (h : AutAt w v A) (hs : InQ A s) :
    Calls Try.prog 151 #[v, .int .i64 s] w fun e w' => e = .returned (.bool (accI A s)) ∧ Since w w' := by
  unfold InQ at hs
  obtain ⟨a, b, rfl, _, ha, hb⟩ := h
  obtain ⟨ao, ca, rfl, HC⟩ := ha
  obtain ⟨bo, cb, rfl⟩ := hb.len
  clear hb
  obtain ⟨n, hn⟩ : ∃ n, n = A.ac.length := ⟨_, rfl⟩
  obtain ⟨k, hk⟩ : ∃ n, n = A.nx.length := ⟨_, rfl⟩
  rw [← hn] at hs
  rw [← hn, ← hk]
  have HN := Lib.hid hn
  clear hn hk
  obtain ⟨y, hy⟩ : ∃ y, y = w.alloc (.cells #[.int .i64 A.st, .slice ao n ca, .slice bo k cb] 39) := ⟨_, rfl⟩
  have hs0 : Since w y := by rw [hy]; exact (Since.refl w).alloc _
  have B0 : Hid (Blk y w.heap.size 39 #[.int .i64 A.st, .slice ao n ca, .slice bo k cb]) := by rw [hy]; exact Blk.new rfl _ _
  obtain ⟨⟨p0, p1, p2⟩, _⟩ := B0.out.threeA
  by_cases e1 : s = -1
  · subst e1
    have HF : Hid (accI A (-1) = false) := rfl
    rw [hy] at p0 p1 p2 hs0
    go_enter Try.func151, Try.ntmps151
    go_wp2
    go_ret
    exact ⟨ret_bool HF.out.symm, hs0⟩
  · obtain ⟨t, rfl⟩ : ∃ t : Nat, s = t := ⟨s.toNat, by omega⟩
    have ht : t < A.ac.length := by rw [← HN.out]; omega
    have HF : Hid (accI A (t : Int) = A.ac[t]) := by unfold Hid accI; rw [if_neg e1, Int.toNat_natCast, at0_get A.ac t ht]
    obtain ⟨b1, off1, rfl, hb1, d1⟩ := HC.out t ht
    obtain ⟨x, hx⟩ : ∃ x, x = A.ac[t] := ⟨_, rfl⟩
    rw [← hx] at d1 HF
    have hti : (t : Int) < (n : Int) := by omega
    have ht0 : (0 : Int) ≤ (t : Int) := by omega
    have d2 : y.cell? ⟨b1, off1 + t, none⟩ = some (.bool x) := (Below.cell hs0 (p := ⟨b1, off1 + t, none⟩) hb1).trans d1
    rw [hy] at p0 p1 p2 hs0 d2
    clear hx e1 hs d1
    go_enter Try.func151, Try.ntmps151
    go_wp2
    go_ret
    exact ⟨ret_bool HF.out.symm, hs0⟩
end Go.Proofs.Ytmaagihfjldgeaa
