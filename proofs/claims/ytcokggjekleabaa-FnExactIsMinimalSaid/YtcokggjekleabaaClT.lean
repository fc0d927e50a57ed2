/- The model's classes: a state's key, refining until nothing changes. -/
import Derived.Test.YtcokggjekleabaaClI
import Derived.Test.YtcokggjekleabaaTrN
import Derived.Test.YtcokggjekleabaaAuX
import Derived.Test.YtcokggjekleabaaEqG2
namespace Go.Proofs.Ytcokggjekleabaa
set_option maxRecDepth 100000
open Go.ChangeShapes Go.WideShapes Go.ChangeAt Go.RowKit Go.Maps
set_option linter.unusedVariables false
set_option linter.unusedSimpArgs false

def preI (g : Nat → Int) (k : Nat) : List Int := (List.range k).map g
theorem preI_step (g : Nat → Int) (k : Nat) : preI g (k + 1) = preI g k ++ [g k] := by unfold preI; rw [List.range_succ, List.map_append]; rfl
theorem preI_length (g : Nat → Int) (k : Nat) : (preI g k).length = k := by simp [preI]
theorem iniG_pre (A : Aut) (f : Nat → Bool) : preI (iniG A f) A.ac.length = iniC A f := rfl
set_option maxHeartbeats 4000000 in
set_option maxRecDepth 100000 in
theorem key_any (v u : Value) (A : Aut) (cls : List Int) (s : Nat) (w : World) (h : AutAt w v A) (hv : ValidA A) (hu : IntsAt w u cls) (hcl : cls.length = A.ac.length) (hs : s < A.ac.length) :
    Calls Try.prog 109 #[v, u, .int .i64 s] w (OwnOut w (sigC A.nx cls s)) := by
  obtain ⟨a, b, rfl, _, ha, hb⟩ := h
  obtain ⟨ao, ca, rfl⟩ := ha.len
  obtain ⟨bo, cb, rfl, HC⟩ := hb
  obtain ⟨uo, uc, rfl, HU⟩ := hu.row
  have hnm : A.nx.length = A.ac.length := hv.2.1
  have HNX := Lib.hid (next_cells hv HC s hs)
  have HCL : Hid (∀ t : Nat, t < A.ac.length → ∃ b off, uo = some ⟨b, off, none⟩ ∧ b < w.heap.size ∧ w.cell? ⟨b, off + t, none⟩ = some (.int .i64 (clC cls t))) := fun t ht => by
    have hx : t < cls.length := by omega
    rw [clC_at cls t hx]
    exact HU.out t hx
  have HNL : Hid (∀ k : Nat, k < 9 → -1 ≤ nextA A.nx s k ∧ nextA A.nx s k < (A.ac.length : Int)) := fun k hk => next_lt hv (by unfold InA; omega) hk
  have HIN : Hid (∀ t : Nat, t < A.ac.length → InI (clC cls t)) := fun t ht => by
    have hx : t < cls.length := by omega
    rw [clC_at cls t hx]; exact hu.1 _ (List.getElem_mem hx)
  have hn12 := hv.1
  rw [hcl, hnm]
  obtain ⟨n, hn⟩ : ∃ n, n = A.ac.length := ⟨_, rfl⟩
  rw [← hn] at hs HCL HNL HIN hn12 ⊢
  clear ha hv HC hu HU hcl hnm hn
  obtain ⟨b1, off1, b2, off2, c2, rfl, hb1, hcell1, hb2, hcell2⟩ := HNX.out
  obtain ⟨u1, uoff1, rfl, hu1, huc⟩ := HCL.out s hs
  obtain ⟨c, hc⟩ : ∃ c, c = clC cls s := ⟨_, rfl⟩
  have hci : InI c := by rw [hc]; exact HIN.out s hs
  rw [← hc] at huc
  have HALL : Hid (c :: preI (sgC A.nx cls (s : Int)) 9 = sigC A.nx cls s) := by unfold Hid sigC; rw [hc]; rfl
  have HC2 := Lib.hid hcell2
  have HC1 := Lib.hid hcell1
  have hsi : (s : Int) < (n : Int) := by omega
  have hs0i : (0 : Int) ≤ (s : Int) := by omega
  clear hc hcell2 hcell1 HNX
  obtain ⟨y, hy⟩ : ∃ y, y = w.alloc (.cells #[.int .i64 A.st, .slice ao n ca, .slice (some ⟨b1, off1, none⟩) n cb] 27) := ⟨_, rfl⟩
  have hs0 : Since w y := by rw [hy]; exact (Since.refl w).alloc _
  have hyz := hs0.size
  have B0 : Hid (Blk y w.heap.size 27 #[.int .i64 A.st, .slice ao n ca, .slice (some ⟨b1, off1, none⟩) n cb]) := by rw [hy]; exact Blk.new rfl _ _
  have HO0 : Hid (OwnNt 3 y.heap.size (y.alloc (.cells #[.int .i64 c] 3)) (.slice (some ⟨y.heap.size, 0, none⟩) 1 1) (c :: preI (sgC A.nx cls (s : Int)) 0)) := ownT_lit _ _ y (Nat.le_refl _) c hci
  have HS0 : Hid (Since y (y.alloc (.cells #[.int .i64 c] 3))) := (Since.refl y).alloc _
  have HY := Lib.hid hy
  have d1 := (Below.cell hs0 (p := ⟨u1, uoff1 + s, none⟩) hu1).trans huc
  clear hy huc
  go_enter Try.func109, Try.ntmps109
  go_upto_region 1 with fail
  rw [← HY.out]
  go_upto_region 3 with fail
  clear d1
  go_loopw [7, 8] (fun q i wr => ∃ (k : Nat) (v1 : Value), k ≤ 9 ∧ i = .int .i64 k ∧ v1 = q ∧ Hid (OwnNt 3 y.heap.size wr v1 (c :: preI (sgC A.nx cls (s : Int)) k)) ∧ Hid (Since y wr)) (fun _ i _ => 9 - (intOf i).toNat)
  case atStart => exact ⟨0, _, Nat.zero_le _, rfl, rfl, HO0.out, HS0.out⟩
  case round =>
    obtain ⟨k, v1, hk, rfl, rfl, HO, HS⟩ := hrel
    by_cases hlt : k < 9
    · have hki : (k : Int) < 9 := by omega
      have hk0 : (0 : Int) ≤ (k : Int) := by omega
      obtain ⟨q, hq⟩ : ∃ q, q = nextA A.nx (s : Int) (k : Int) := ⟨_, rfl⟩
      have e1 := (Below.cell (hs0.trans HS.out) (p := ⟨b2, off2 + k, none⟩) hb2).trans (HC2.out k hlt)
      have e0 := (Below.cell (hs0.trans HS.out) (p := ⟨b1, off1 + s, none⟩) hb1).trans HC1.out
      have HNQ := HNL.out k hlt
      rw [← hq] at e1 HNQ
      have HQ : Hid (sgC A.nx cls (s : Int) k = if q < 0 then -1 else clC cls q) := by unfold Hid sgC; rw [← hq]
      have hlen : (c :: preI (sgC A.nx cls (s : Int)) k).length ≤ 4194304 := by rw [List.length_cons, preI_length]; omega
      have hbz := HS.out.size
      have HST : Hid (c :: preI (sgC A.nx cls (s : Int)) (k + 1) = (c :: preI (sgC A.nx cls (s : Int)) k) ++ [sgC A.nx cls (s : Int) k]) := by unfold Hid; rw [preI_step]; rfl
      obtain ⟨⟨p0, p1, p2⟩, _⟩ := (B0.out.since HS.out).threeA
      clear hq
      by_cases hneg : q = -1
      · subst hneg
        have hb : ((-1 : Int) < 0) := by decide
        have hi1 : InI (-1) := by unfold InI; omega
        go_wp2_with (at_builtin; go_must (refine wpList_append_T rfl (.tmp 29) (.tmp 30) 30 3 rfl Try.underlying30 info_int y.heap.size v1 _ (by first | rfl | simp [Act.eval]) HO.out (-1) (by first | rfl | simp [Act.eval]) hi1 hlen hbz ?_); intro v5 w5 ho5 hg5)
        have HO5 : Hid (OwnNt 3 y.heap.size w5 v5 (c :: preI (sgC A.nx cls (s : Int)) (k + 1))) := by
          unfold Hid; rw [HST.out, HQ.out]; exact ho5
        have HS5 : Hid (Since y w5) := HS.out.grown hg5 (fun j hj => (HO.out.2.lt j hj).1)
        clear ho5 hg5
        go_roundw
        case rel => exact ⟨k + 1, v5, by omega, by go_num, rfl, HO5.out, HS5.out⟩
        case measure => simp [intOf]; omega
      · obtain ⟨t, rfl⟩ : ∃ t : Nat, q = t := ⟨q.toNat, by omega⟩
        have hb : ¬ ((t : Int) < 0) := by omega
        have htn : t < n := by omega
        have hti : (t : Int) < (n : Int) := by omega
        have ht0 : (0 : Int) ≤ (t : Int) := by omega
        obtain ⟨u2, uoff2, eu, hu2, huc2⟩ := HCL.out t htn
        injection eu with eu
        injection eu with eu1 eu2
        subst eu1 eu2
        have e2 := (Below.cell (hs0.trans HS.out) (p := ⟨u1, uoff1 + t, none⟩) hu1).trans huc2
        obtain ⟨d, hd⟩ : ∃ d, d = clC cls (t : Int) := ⟨_, rfl⟩
        have hdi : InI d := by rw [hd]; exact HIN.out t htn
        have HD : Hid (sgC A.nx cls (s : Int) k = d) := by unfold Hid; rw [HQ.out, if_neg hb, hd]
        rw [← hd] at e2
        clear hd huc2 hneg
        go_wp2_with (at_builtin; go_must (refine wpList_append_T rfl (.tmp 32) (.tmp 37) 30 3 rfl Try.underlying30 info_int y.heap.size v1 _ (by first | rfl | simp [Act.eval]) HO.out d (by first | rfl | simp [Act.eval]) hdi hlen hbz ?_); intro v5 w5 ho5 hg5)
        have HO5 : Hid (OwnNt 3 y.heap.size w5 v5 (c :: preI (sgC A.nx cls (s : Int)) (k + 1))) := by
          unfold Hid; rw [HST.out, HD.out]; exact ho5
        have HS5 : Hid (Since y w5) := HS.out.grown hg5 (fun j hj => (HO.out.2.lt j hj).1)
        clear ho5 hg5
        go_roundw
        case rel => exact ⟨k + 1, v5, by omega, by go_num, rfl, HO5.out, HS5.out⟩
        case measure => simp [intOf]; omega
    · obtain rfl : k = 9 := by omega
      rw [HALL.out] at HO
      have HO2 : Hid (Own y.heap.size wr v1 (sigC A.nx cls s)) := HO.out
      have HF := Lib.hid (hs0.trans HS.out)
      go_wp2
      go_ret
      exact ⟨_, rfl, HO2.out.mono hyz, HF.out⟩
end Go.Proofs.Ytcokggjekleabaa
