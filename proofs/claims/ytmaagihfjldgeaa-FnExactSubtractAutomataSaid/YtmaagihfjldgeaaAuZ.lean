/- The live part of an automaton as a machine; UsefulStates, the program's. -/
import Derived.Test.YtmaagihfjldgeaaAuY
import Derived.Test.YtmaagihfjldgeaaNuI
import Derived.Test.YtmaagihfjldgeaaK3
import Derived.Laws.EntriesVeiled
namespace Go.Proofs.Ytmaagihfjldgeaa
set_option maxRecDepth 100000
open Go.ChangeShapes Go.WideShapes Go.ChangeAt Go.RowKit Go.Maps
set_option linter.unusedVariables false
set_option linter.unusedSimpArgs false

theorem boL_cells {W : World} {lo : Option Addr} {n lc : Nat} {f : Nat → Bool} (h : BosAt W (.slice lo n lc) (boL f n)) : ∀ u, u < n → ∃ b off, lo = some ⟨b, off, none⟩ ∧ b < W.heap.size ∧ W.cell? ⟨b, off + u, none⟩ = some (.bool (f u)) := by
  obtain ⟨lo', lc', e, HL⟩ := h
  injection e with e1 e2 e3
  subst e1
  intro u hu
  obtain ⟨b, off, e4, hb, d⟩ := HL.out u (by rw [boL_length]; exact hu)
  rw [boL_get f n u hu] at d
  exact ⟨b, off, e4, hb, d⟩
/-- The boxes that a live machine's functions read. -/
structure MchA (A : Aut) (f : Nat → Bool) (BA BL : Nat) (W : World) : Prop where
  box : ∃ ao ca bo cb, Blk W BA 39 #[.int .i64 A.st, .slice ao A.ac.length ca, .slice bo A.nx.length cb] ∧ BosAt W (.slice ao A.ac.length ca) A.ac ∧ IssAt W (.slice bo A.nx.length cb) A.nx
  live : ∃ lo lc, Blk W BL 36 #[.slice lo A.ac.length lc] ∧ BosAt W (.slice lo A.ac.length lc) (boL f A.ac.length)
theorem MchA.since {A : Aut} {f : Nat → Bool} {BA BL : Nat} {W W' : World} (h : MchA A f BA BL W) (k : Since W W') : MchA A f BA BL W' := by
  obtain ⟨ao, ca, bo, cb, h1, h2, h3⟩ := h.box
  obtain ⟨lo, lc, h4, h5⟩ := h.live
  exact ⟨⟨ao, ca, bo, cb, h1.since k, h2.since k, h3.since k⟩, lo, lc, h4.since k, h5.since k⟩
set_option maxHeartbeats 1000000 in
set_option maxRecDepth 100000 in
theorem nextF_any (A : Aut) (f : Nat → Bool) (BA BL : Nat) (hv : ValidA A) (s : Int) (k : Nat) (hs : InA A s) (hk : k < 9) (W : World) (h : MchA A f BA BL W) :
    Calls Try.prog 163 #[.int .i64 s, .int .i64 (k : Nat), .pointer (some ⟨BA, 0, none⟩), .pointer (some ⟨BL, 0, none⟩)] W (NxOutI (stepF A f) s k W) := by
  obtain ⟨ao, ca, bo, cb, h1, _, h3⟩ := h.box
  obtain ⟨lo, lc, h4, h5⟩ := h.live
  obtain ⟨t, rfl⟩ : ∃ t : Nat, s = t := ⟨s.toNat, by unfold InA at hs; omega⟩
  have htn : t < A.ac.length := by unfold InA at hs; omega
  obtain ⟨bo', cb', e, HC⟩ := h3
  injection e with e1 e2 e3
  subst e1 e3
  obtain ⟨c1, o1, c2, o2, cc, rfl, hc1, hcell, hc2, hcs⟩ := next_cells hv HC t htn
  obtain ⟨hq1, hq2⟩ := next_lt hv hs hk
  have hcz := hcs k hk
  obtain ⟨q, hq⟩ : ∃ q, q = nextA A.nx t k := ⟨_, rfl⟩
  rw [← hq] at hcz hq1 hq2
  have HQ := Lib.hid hq
  have hnm : A.nx.length = A.ac.length := hv.2.1
  have hn12 := hv.1
  rw [hnm] at h1
  have HL := Lib.hid (boL_cells h5)
  clear h5
  obtain ⟨n, hn⟩ : ∃ n, n = A.ac.length := ⟨_, rfl⟩
  rw [← hn] at h1 h4 hq2 htn hn12 HL
  have HN := Lib.hid hn
  obtain ⟨⟨p0, p1, p2⟩, _⟩ := h1.threeA
  have l0 := h4.cell 0
  rw [show (#[Value.slice lo n lc] : Array Value)[0]? = some (.slice lo n lc) from rfl] at l0
  have hti : (t : Int) < (n : Int) := by omega
  have ht0 : (0 : Int) ≤ (t : Int) := by omega
  have hki : (k : Int) < 9 := by omega
  have hk0 : (0 : Int) ≤ (k : Int) := by omega
  clear hcs HC hnm hn hq h
  by_cases e1 : q = -1
  · subst e1
    have HS : Hid (stepF A f t k = none) := stepF_no HQ.out.symm
    have hb0 : ((-1 : Int) != -1) = false := by decide
    have hi1 : InI (-1) := by unfold InI; omega
    go_enter Try.func163, Try.ntmps163
    go_wp2
    go_quiet (fail)
    go_wp2
    go_ret2
    exact ⟨⟨-1, false, rfl, by rw [HS.out]; rfl, hi1⟩, (Since.refl W).drewN _⟩
  · obtain ⟨u, rfl⟩ : ∃ u : Nat, q = u := ⟨q.toNat, by omega⟩
    have hun : u < n := by omega
    have hui : (u : Int) < (n : Int) := by omega
    have hu0 : (0 : Int) ≤ (u : Int) := by omega
    have hb0 : ((u : Int) != -1) = true := by simp
    have hi1 : InI (u : Int) := by unfold InI; omega
    obtain ⟨b3, off3, rfl, hb3, d1⟩ := HL.out u hun
    clear HL e1
    cases hf : f u with
    | true =>
      have HS : Hid (stepF A f t k = some (u : Int)) := stepF_is HQ.out.symm hf
      rw [hf] at d1
      clear hf
      go_enter Try.func163, Try.ntmps163
      go_wp2
      go_quiet (fail)
      go_wp2
      go_ret2
      exact ⟨⟨u, true, rfl, by rw [HS.out]; rfl, hi1⟩, (Since.refl W).drewN _⟩
    | false =>
      have HS : Hid (stepF A f t k = none) := stepF_dead HQ.out.symm hf
      rw [hf] at d1
      clear hf
      go_enter Try.func163, Try.ntmps163
      go_wp2
      go_quiet (fail)
      go_wp2
      go_ret2
      exact ⟨⟨u, false, rfl, by rw [HS.out]; rfl, hi1⟩, (Since.refl W).drewN _⟩
abbrev mchV (A : Aut) (BA BL : Nat) : Value := .agg #[.int .i64 A.st, .func (.func 162) #[] #[.pointer (some ⟨BA, 0, none⟩)], .func (.func 163) #[] #[.pointer (some ⟨BA, 0, none⟩), .pointer (some ⟨BL, 0, none⟩)]]
def MchOut (A : Aut) (f : Nat → Bool) (w : World) (e : Ending) (w' : World) : Prop := ∃ BA BL, e = .returned (mchV A BA BL) ∧ w.heap.size ≤ BA ∧ w.heap.size ≤ BL ∧ MchA A f BA BL w' ∧ Since w w'
set_option maxHeartbeats 1000000 in
set_option maxRecDepth 100000 in
theorem liveM_any (v u : Value) (A : Aut) (f : Nat → Bool) (w : World) (h : AutAt w v A) (hu : BosAt w u (boL f A.ac.length)) : Calls Try.prog 106 #[v, u] w (MchOut A f w) := by
  have HU := Lib.hid hu
  obtain ⟨a, b, rfl, _, ha, hb⟩ := h
  have HA := Lib.hid ha
  have HB := Lib.hid hb
  obtain ⟨ao, ca, rfl⟩ := ha.len
  obtain ⟨bo, cb, rfl⟩ := hb.len
  obtain ⟨lo, lc, rfl⟩ := hu.len
  rw [boL_length] at HU ⊢
  clear ha hb hu
  obtain ⟨y, hy⟩ : ∃ y, y = ((w.alloc (.cells #[.int .i64 A.st, .slice ao A.ac.length ca, .slice bo A.nx.length cb] 39)).alloc (.cells #[.slice lo A.ac.length lc] 36)) := ⟨_, rfl⟩
  have hs0 : Since w y := by rw [hy]; exact ((Since.refl w).alloc _).alloc _
  have hz : y.heap.size = w.heap.size + 2 := by rw [hy]; simp
  have B0 : Hid (Blk y w.heap.size 39 #[.int .i64 A.st, .slice ao A.ac.length ca, .slice bo A.nx.length cb]) := by rw [hy]; exact (Blk.new rfl _ _).alloc _
  have B1 : Hid (Blk y (w.heap.size + 1) 36 #[.slice lo A.ac.length lc]) := by rw [hy]; exact Blk.new (by simp) _ _
  have HE : Hid (∀ w', Since y w' → MchOut A f w (.returned (mchV A w.heap.size (w.heap.size + 1))) w') := fun w' k =>
    ⟨w.heap.size, w.heap.size + 1, rfl, Nat.le_refl _, by omega, ⟨⟨ao, ca, bo, cb, B0.out.since k, (HA.out.since hs0).since k, (HB.out.since hs0).since k⟩, lo, lc, B1.out.since k, (HU.out.since hs0).since k⟩, hs0.trans k⟩
  have HY := Lib.hid hy
  have HZ := Lib.hid hz
  clear hy hz
  go_enter Try.func106, Try.ntmps106
  go_wp2
  rw [← HY.out]
  have B2 : Blk (y.alloc (.cells #[.int .i64 A.st, .func (.func 162) #[] #[.pointer (some ⟨w.heap.size, 0, none⟩)], .func (.func 163) #[] #[.pointer (some ⟨w.heap.size, 0, none⟩), .pointer (some ⟨w.heap.size + 1, 0, none⟩)]] 114)) (w.heap.size + 1 + 1) 114 #[.int .i64 A.st, .func (.func 162) #[] #[.pointer (some ⟨w.heap.size, 0, none⟩)], .func (.func 163) #[] #[.pointer (some ⟨w.heap.size, 0, none⟩), .pointer (some ⟨w.heap.size + 1, 0, none⟩)]] := Blk.new (by rw [HZ.out]) _ _
  obtain ⟨⟨q0, q1, q2⟩, _⟩ := B2.threeA
  refine bodyPost_ret (v := mchV A w.heap.size (w.heap.size + 1)) (by simp [results, Try.results106, go_sem, *]) rfl ?_
  refine HE.out _ ?_
  repeat' (first | exact Since.refl _ | with_reducible refine Since.alloc ?_ _ | with_reducible refine Since.setCell ?_ (by have := HZ.out; simp; omega) _)
end Go.Proofs.Ytmaagihfjldgeaa
