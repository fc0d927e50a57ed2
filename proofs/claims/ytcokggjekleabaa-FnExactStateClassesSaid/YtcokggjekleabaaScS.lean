/- StateClasses, the model's and the program's. -/
import Derived.Test.YtcokggjekleabaaClU
import Derived.Test.YtcokggjekleabaaAuV
import Derived.Test.YtcokggjekleabaaAuS
namespace Go.Proofs.Ytcokggjekleabaa
set_option maxRecDepth 100000
open Go.ChangeShapes Go.WideShapes Go.ChangeAt Go.RowKit Go.Maps
set_option linter.unusedVariables false
set_option linter.unusedSimpArgs false

def scL (A : Aut) (f : Nat → Bool) : List Int := if validA A = true then clsA A f else []
theorem scL_len (A : Aut) (f : Nat → Bool) : (scL A f).length ≤ 12 := by
  unfold scL
  split
  · rename_i h; rw [clsA_length]; exact (validA_iff A).2 h
  · simp
set_option maxHeartbeats 2000000 in
set_option maxRecDepth 100000 in
theorem specSC_any (v : Value) (A : Aut) (f : Nat → Bool) (w : World) (h : AutAt w v A) (hm : MxA A) (hf : ∀ s, f s = true ↔ LiveP A s) :
    Calls Try.prog 19 #[v] w (OwnOut w (scL A f)) := by
  have HVA : Hid (∀ W, Since w W → Calls Try.prog 20 #[v] W fun e w' => e = .returned (.bool (validA A)) ∧ Since W w') := fun W hW => specVA_any v A W (h.since hW) hm
  have HCL : Hid (∀ W, Since w W → ValidA A → Calls Try.prog 58 #[v] W (OwnOut W (clsA A f))) := fun W hW hv => specCls_any v A f W (h.since hW) hv hf
  obtain ⟨a, b, rfl, _, ha, hb⟩ := h
  obtain ⟨ao, ca, rfl⟩ := ha.len
  obtain ⟨bo, cb, rfl⟩ := hb.len
  clear ha hb hm hf
  obtain ⟨n, hn⟩ : ∃ n, n = A.ac.length := ⟨_, rfl⟩
  obtain ⟨m, hmm⟩ : ∃ n, n = A.nx.length := ⟨_, rfl⟩
  rw [← hn, ← hmm] at HVA HCL ⊢
  clear hn hmm
  obtain ⟨y, hy⟩ : ∃ y, y = w.alloc (.cells #[.int .i64 A.st, .slice ao n ca, .slice bo m cb] 27) := ⟨_, rfl⟩
  have hs0 : Since w y := by rw [hy]; exact (Since.refl w).alloc _
  have B0 : Hid (Blk y w.heap.size 27 #[.int .i64 A.st, .slice ao n ca, .slice bo m cb]) := by rw [hy]; exact Blk.new rfl _ _
  have HY := Lib.hid hy
  clear hy
  cases e : validA A with
  | false =>
    have HB := Lib.hid e
    have HE : Hid (scL A f = []) := by unfold Hid scL; rw [if_neg (by rw [e]; decide)]
    clear e
    go_enter Try.func19, Try.ntmps19
    go_upto_region 1 with fail
    rw [← HY.out]
    obtain ⟨⟨p0, p1, p2⟩, _⟩ := B0.out.threeA
    go_wp2_with fail
    refine (HVA.out _ hs0).mono ?_
    rintro e w1 ⟨rfl, hs1⟩
    rw [HB.out]
    have hs01 := hs0.trans hs1
    go_wp2
    go_ret
    rw [HE.out]
    exact ⟨_, rfl, (⟨fun x hx => by simp at hx, World.ownsRow_lit w1 #[] 0 (by have := hs01.size; omega) (Nat.zero_le _) rfl⟩ : Own w.heap.size (w1.alloc (.cells #[] 3)) (.slice (some ⟨w1.heap.size, 0, none⟩) 0 0) []), hs01.alloc _⟩
  | true =>
    have HB := Lib.hid e
    have HV : Hid (ValidA A) := (validA_iff A).1 e
    have HE : Hid (scL A f = clsA A f) := by unfold Hid scL; rw [if_pos e]
    clear e
    go_enter Try.func19, Try.ntmps19
    go_upto_region 1 with fail
    rw [← HY.out]
    obtain ⟨⟨p0, p1, p2⟩, _⟩ := B0.out.threeA
    go_wp2_with fail
    refine (HVA.out _ hs0).mono ?_
    rintro e w1 ⟨rfl, hs1⟩
    rw [HB.out]
    have hs01 := hs0.trans hs1
    clear p0 p1 p2
    obtain ⟨⟨p0, p1, p2⟩, _⟩ := (B0.out.since hs1).threeA
    go_wp2_with fail
    refine (HCL.out _ hs01 HV.out).mono ?_
    rintro e w2 ⟨v2, rfl, ho2, hs2⟩
    have HO2 := Lib.hid ho2
    have HS2 := Lib.hid (hs01.trans hs2)
    have hw1 := hs01.size
    clear ho2
    go_wp2
    go_ret
    rw [HE.out]
    exact ⟨_, rfl, HO2.out.mono hw1, HS2.out⟩
set_option maxHeartbeats 2000000 in
set_option maxRecDepth 100000 in
theorem implSC_any (v : Value) (A : Aut) (f : Nat → Bool) (w : World) (h : AutAt w v A) (hm : MxA A) (hf : ∀ s, f s = true ↔ LiveP A s) :
    Calls Try.prog 18 #[v] w (OwnOut w (scL A f)) := by
  have HVA : Hid (∀ W, Since w W → Calls Try.prog 51 #[v] W fun e w' => e = .returned (.bool (validA A)) ∧ Since W w') := fun W hW => implVA_any v A W (h.since hW) hm
  have HCL : Hid (∀ W, Since w W → ValidA A → Calls Try.prog 57 #[v] W (OwnOut W (clsA A f))) := fun W hW hv => classes_any v A f W (h.since hW) hv hf
  obtain ⟨a, b, rfl, _, ha, hb⟩ := h
  obtain ⟨ao, ca, rfl⟩ := ha.len
  obtain ⟨bo, cb, rfl⟩ := hb.len
  clear ha hb hm hf
  obtain ⟨n, hn⟩ : ∃ n, n = A.ac.length := ⟨_, rfl⟩
  obtain ⟨m, hmm⟩ : ∃ n, n = A.nx.length := ⟨_, rfl⟩
  rw [← hn, ← hmm] at HVA HCL ⊢
  clear hn hmm
  obtain ⟨y, hy⟩ : ∃ y, y = w.alloc (.cells #[.int .i64 A.st, .slice ao n ca, .slice bo m cb] 27) := ⟨_, rfl⟩
  have hs0 : Since w y := by rw [hy]; exact (Since.refl w).alloc _
  have B0 : Hid (Blk y w.heap.size 27 #[.int .i64 A.st, .slice ao n ca, .slice bo m cb]) := by rw [hy]; exact Blk.new rfl _ _
  have HY := Lib.hid hy
  clear hy
  cases e : validA A with
  | false =>
    have HB := Lib.hid e
    have HE : Hid (scL A f = []) := by unfold Hid scL; rw [if_neg (by rw [e]; decide)]
    clear e
    go_enter Try.func18, Try.ntmps18
    go_upto_region 1 with fail
    rw [← HY.out]
    obtain ⟨⟨p0, p1, p2⟩, _⟩ := B0.out.threeA
    go_wp2_with fail
    refine (HVA.out _ hs0).mono ?_
    rintro e w1 ⟨rfl, hs1⟩
    rw [HB.out]
    have hs01 := hs0.trans hs1
    go_wp2
    go_ret
    rw [HE.out]
    exact ⟨_, rfl, ⟨fun x hx => by simp at hx, World.ownsRow_nil _ _ _ _⟩, hs01⟩
  | true =>
    have HB := Lib.hid e
    have HV : Hid (ValidA A) := (validA_iff A).1 e
    have HE : Hid (scL A f = clsA A f) := by unfold Hid scL; rw [if_pos e]
    clear e
    go_enter Try.func18, Try.ntmps18
    go_upto_region 1 with fail
    rw [← HY.out]
    obtain ⟨⟨p0, p1, p2⟩, _⟩ := B0.out.threeA
    go_wp2_with fail
    refine (HVA.out _ hs0).mono ?_
    rintro e w1 ⟨rfl, hs1⟩
    rw [HB.out]
    have hs01 := hs0.trans hs1
    clear p0 p1 p2
    obtain ⟨⟨p0, p1, p2⟩, _⟩ := (B0.out.since hs1).threeA
    go_wp2_with fail
    refine (HCL.out _ hs01 HV.out).mono ?_
    rintro e w2 ⟨v2, rfl, ho2, hs2⟩
    have HO2 := Lib.hid ho2
    have HS2 := Lib.hid (hs01.trans hs2)
    have hw1 := hs01.size
    clear ho2
    go_wp2
    go_ret
    rw [HE.out]
    exact ⟨_, rfl, HO2.out.mono hw1, HS2.out⟩
end Go.Proofs.Ytcokggjekleabaa
