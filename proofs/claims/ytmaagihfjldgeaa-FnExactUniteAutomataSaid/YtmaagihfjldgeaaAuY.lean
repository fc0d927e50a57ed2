/- The live states, the program's. -/
import Derived.Test.YtmaagihfjldgeaaAuX
namespace Go.Proofs.Ytmaagihfjldgeaa
set_option maxRecDepth 100000
open Go.ChangeShapes Go.WideShapes Go.ChangeAt Go.RowKit
set_option linter.unusedVariables false
set_option linter.unusedSimpArgs false

theorem cntT_append : ∀ (a b : List Bool), cntT (a ++ b) = cntT a + cntT b
  | [], b => by simp [cntT]
  | x :: a, b => by simp only [List.cons_append, cntT, cntT_append a b]; omega
theorem cnt_range (f : Nat → Bool) : ∀ n, ((List.range n).filter fun s => !f s).length + cntT (boL f n) = n
  | 0 => rfl
  | n + 1 => by
    have ih := cnt_range f n
    unfold boL at ih ⊢
    rw [List.range_succ, List.filter_append, List.map_append, List.length_append, cntT_append]
    cases h : f n <;> simp [h, cntT] <;> omega
theorem boL_self (b : List Bool) : boL (at0 b) b.length = b := by
  apply List.ext_getElem
  · rw [boL_length]
  · intro i h1 h2
    rw [boL_get _ _ i h2, at0_get b i h2]
def isT : Option Value → Bool
  | some (.bool true) => true
  | _ => false
/-- How many cells of a block are not true. -/
def missB (w : World) (g n : Nat) : Nat := ((List.range n).filter fun s => !isT (w.cell? ⟨g, s, none⟩)).length
theorem LvW.miss {w : World} {n g cap : Nat} {cs : Array Value} {wr : World} {b : List Bool} (h : LvW w n g cap cs wr b) (hn : n = b.length) : missB wr g n + cntT b = n := by
  have h1 := cnt_range (at0 b) n
  rw [hn] at h1
  rw [boL_self b] at h1
  have h2 : missB wr g n = ((List.range b.length).filter fun s => !at0 b s).length := by
    unfold missB
    rw [hn]
    congr 1
    apply List.filter_congr
    intro s hs
    rw [(h.own.cellB hn s (List.mem_range.1 hs)).1]
    cases at0 b s <;> rfl
  rw [h2]; omega
def grB (v : Value) : Nat := match v with | .bool true => 1 | _ => 0
/-- What a round of the program's has done up to a state. -/
def Grw (R : Rule) (b0 b : List Bool) (s : Nat) (gr : Bool) : Prop := (gr = false ∧ b = b0 ∧ ∀ s' k', k' < 9 → s' < s → okAt R b0 s' k') ∨ (gr = true ∧ cntT b0 < cntT b)
set_option maxHeartbeats 4000000 in
set_option maxRecDepth 100000 in
theorem implLive_any (v : Value) (A : Aut) (f : Nat → Bool) (w : World) (h : AutAt w v A) (hv : ValidA A) (hf : ∀ s, f s = true ↔ LiveP A s) :
    Calls Try.prog 107 #[v] w (BoOut w (boL f A.ac.length)) := by
  have HAT := Lib.hid h
  obtain ⟨a, b, rfl, _, ha, hb⟩ := h
  have HA := Lib.hid ha
  obtain ⟨ao, ca, rfl⟩ := ha.len
  obtain ⟨bo, cb, rfl, HC⟩ := hb
  clear ha HC
  have HV := Lib.hid hv
  have HF := Lib.hid hf
  have hn12 := hv.1
  have hn0 : 0 < A.ac.length := by have := hv.2.2.1; omega
  have hnm : A.nx.length = A.ac.length := hv.2.1
  rw [hnm] at HAT ⊢
  have HLT : Hid (∀ (s g cap : Nat) (b : List Bool) W, Since w W → s < A.ac.length → b.length = A.ac.length → OwnBo (w.heap.size + 1) W (.slice (some ⟨g, 0, none⟩) A.ac.length cap) b →
      Calls Try.prog 165 #[.agg #[.int .i64 A.st, .slice ao A.ac.length ca, .slice bo A.ac.length cb], .int .i64 s, .slice (some ⟨g, 0, none⟩) A.ac.length cap] W fun e w' => e = .returned (.bool (leadsB A s b)) ∧ Since W w') :=
    fun s g cap b W hW hs hb ho => leadsTo_any _ A s _ g cap b W (HAT.out.since hW) HV.out hs hb ho
  clear hnm hv hf
  obtain ⟨n, hn⟩ : ∃ n, n = A.ac.length := ⟨_, rfl⟩
  rw [← hn] at hn12 hn0 HA HLT ⊢
  have HN := Lib.hid hn
  clear hn HAT
  obtain ⟨y, hy⟩ : ∃ y, y = w.alloc (.cells #[.int .i64 A.st, .slice ao n ca, .slice bo n cb] 39) := ⟨_, rfl⟩
  have hs0 : Since w y := by rw [hy]; exact (Since.refl w).alloc _
  have hz : y.heap.size = w.heap.size + 1 := by rw [hy]; simp
  have B0 : Hid (Blk y w.heap.size 39 #[.int .i64 A.st, .slice ao n ca, .slice bo n cb]) := by rw [hy]; exact Blk.new rfl _ _
  have HY := Lib.hid hy
  clear hy
  have hn9 : A.ac.length ≤ 1048577 := by rw [← HN.out]; omega
  go_enter Try.func107, Try.ntmps107
  go_wp2_with fail
  rw [← HY.out]
  refine (copiedBo_any _ A.ac _ (HA.out.since hs0) hn9).mono ?_
  rintro e w1 ⟨v1, rfl, ho1, hs1⟩
  obtain ⟨g, cap, e1, hg, hgl⟩ := ho1.row (by rw [← HN.out]; exact hn0)
  rw [← HN.out] at e1
  subst e1
  rw [hz] at hg ho1
  have HL : Hid (LvW w n g cap #[.int .i64 A.st, .slice ao n ca, .slice bo n cb] w1 A.ac) := ⟨ho1, B0.out.since hs1, hs0.trans hs1⟩
  clear ho1 hs1
  go_wp2
  go_loopw [4] (fun q wr => ∃ (gr : Bool) (b : List Bool), q = .bool gr ∧ Hid (SwpI (liveR A) n A.ac b) ∧ Hid (gr = false → ClosedR (liveR A) n b) ∧ Hid (LvW w n g cap #[.int .i64 A.st, .slice ao n ca, .slice bo n cb] wr b)) (fun q wr => grB q + missB wr g n)
  case atStart => exact ⟨true, A.ac, rfl, ⟨HN.out.symm, fun s h => h, fun s h => LeastP.base h⟩, (fun h => by cases h), HL.out⟩
  case round =>
    obtain ⟨gr, b, rfl, HI, HCl, HLr⟩ := hrel
    cases gr with
    | false =>
      have HE : Hid (b = boL f n) := by
        have hf := HF.out
        exact HI.out.done (f := f) (fun s => by rw [hf s, HN.out]; exact Iff.rfl) (HCl.out rfl)
      go_wp2
      go_ret
      have ho := HLr.out.own
      rw [HE.out] at ho
      exact ⟨_, rfl, ho.mono (Nat.le_succ _), HLr.out.since⟩
    | true =>
      have HM0 := Lib.hid (HLr.out.miss HI.out.len.symm)
      clear HCl
      go_wp2
      go_loopw [4, 12] (fun q i wz => ∃ (gr : Bool) (s : Nat) (b' : List Bool), s ≤ n ∧ i = .int .i64 s ∧ q = .bool gr ∧ Hid (SwpI (liveR A) n A.ac b') ∧ Hid (Grw (liveR A) b b' s gr) ∧ Hid (LvW w n g cap #[.int .i64 A.st, .slice ao n ca, .slice bo n cb] wz b')) (fun _ i _ => n - (intOf i).toNat)
      case atStart => exact ⟨false, 0, b, Nat.zero_le _, rfl, rfl, HI.out, .inl ⟨rfl, rfl, fun _ _ _ h => by omega⟩, HLr.out⟩
      case round =>
        obtain ⟨gr, s, b', hs, rfl, rfl, HI', HG, HLz⟩ := hrel
        have hbl := HI'.out.len
        by_cases hst : s < n
        · have hsi : (s : Int) < (n : Int) := by omega
          obtain ⟨d2, d3⟩ := HLz.out.own.cellB hbl.symm s (by omega)
          cases e3 : at0 b' s with
          | true =>
            have HG2 : Hid (Grw (liveR A) b b' (s + 1) gr) := by
              rcases HG.out with ⟨h1, h2, h3⟩ | h
              · refine .inl ⟨h1, h2, fun s' k' hk hs' => ?_⟩
                by_cases e : s' = s
                · intro x y hR _
                  rw [(liveR_inv hR).2, e, ← h2]; exact e3
                · exact h3 s' k' hk (by omega)
              · exact .inr h
            rw [e3] at d2
            clear e3
            go_wp2
            go_roundw
            case rel => exact ⟨gr, s + 1, b', by omega, by go_num, rfl, HI'.out, HG2.out, HLz.out⟩
            case measure => simp [intOf]; omega
          | false =>
            have HE3 := Lib.hid e3
            rw [e3] at d2
            clear e3
            obtain ⟨⟨p0, p1, p2⟩, _⟩ := HLz.out.box.threeA
            rcases leadsB_cases A s b' with ⟨h1, k, t, hk, ht, hbt⟩ | ⟨h1, h2⟩
            · have HB := Lib.hid h1
              have HR : Hid (liveR A s k = some (t, s)) := liveR_of ht
              have HI3 : Hid (SwpI (liveR A) n A.ac (b'.set s true)) := HI'.out.turn hst hk HR.out hbt hst
              have HG3 : Hid (Grw (liveR A) b (b'.set s true) (s + 1) true) := by
                have := cntT_set b' s (by omega) HE3.out
                rcases HG.out with ⟨_, h2, _⟩ | ⟨_, h⟩
                · exact .inr ⟨rfl, by rw [← h2]; omega⟩
                · exact .inr ⟨rfl, by omega⟩
              clear h1 ht hbt
              go_wp2_with fail
              refine (HLT.out s g cap b' _ HLz.out.since hst hbl HLz.out.own).mono ?_
              rintro e w2 ⟨rfl, hs2⟩
              rw [HB.out]
              have HL2 : Hid (LvW w n g cap #[.int .i64 A.st, .slice ao n ca, .slice bo n cb] w2 b') := ⟨HLz.out.own.since hs2, HLz.out.box.since hs2, HLz.out.since.trans hs2⟩
              obtain ⟨d4, d5⟩ := HL2.out.own.cellB hbl.symm s (by omega)
              have HL3 := Lib.hid (HL2.out.set hbl.symm (by omega) s)
              clear d2 d3 p0 p1 p2
              go_wp2
              go_roundw
              case rel => exact ⟨true, s + 1, b'.set s true, by omega, by go_num, rfl, HI3.out, HG3.out, HL3.out⟩
              case measure => simp [intOf]; omega
            · have HB := Lib.hid h1
              have HG2 : Hid (Grw (liveR A) b b' (s + 1) gr) := by
                rcases HG.out with ⟨e1, e2, h3⟩ | h
                · refine .inl ⟨e1, e2, fun s' k' hk hs' => ?_⟩
                  by_cases e : s' = s
                  · intro x y hR hx
                    rw [e] at hR
                    rw [← e2, h2 k' hk x (liveR_inv hR).1] at hx; cases hx
                  · exact h3 s' k' hk (by omega)
                · exact .inr h
              clear h1 h2
              go_wp2_with fail
              refine (HLT.out s g cap b' _ HLz.out.since hst hbl HLz.out.own).mono ?_
              rintro e w2 ⟨rfl, hs2⟩
              rw [HB.out]
              have HL2 : Hid (LvW w n g cap #[.int .i64 A.st, .slice ao n ca, .slice bo n cb] w2 b') := ⟨HLz.out.own.since hs2, HLz.out.box.since hs2, HLz.out.since.trans hs2⟩
              go_wp2
              go_roundw
              case rel => exact ⟨gr, s + 1, b', by omega, by go_num, rfl, HI'.out, HG2.out, HL2.out⟩
              case measure => simp [intOf]; omega
        · have hsn : s = n := by omega
          have HC2 : Hid (gr = false → ClosedR (liveR A) n b') := by
            intro hgr
            rcases HG.out with ⟨_, h2, h3⟩ | ⟨h, _⟩
            · rw [h2]; exact fun s' k' hs' hk => h3 s' k' hk (by omega)
            · rw [h] at hgr; cases hgr
          have HMe : Hid (grB (.bool gr) + missB wr g n < 1 + (n - cntT b)) := by
            have h1 := HLz.out.miss hbl.symm
            have h4 := cntT_le b'
            rcases HG.out with ⟨hgr, h2, _⟩ | ⟨hgr, h2⟩
            · rw [hgr]; show 0 + missB wr g n < _; rw [← h2]; omega
            · rw [hgr]; show 1 + missB wr g n < _; omega
          go_wp2
          go_roundw
          case rel => exact ⟨gr, b', rfl, HI'.out, HC2.out, HLz.out⟩
          case measure =>
            have h1 := HMe.out
            have h2 := HM0.out
            show _ < 1 + _
            omega
end Go.Proofs.Ytmaagihfjldgeaa
