/- The program's classes: the classes to begin with, a state's signature. -/
import Derived.Test.YtmaagihfjldgeaaSgA
import Derived.Test.YtmaagihfjldgeaaAuY
import Derived.Test.YtmaagihfjldgeaaA3
import Derived.Test.YtmaagihfjldgeaaEqG
namespace Go.Proofs.Ytmaagihfjldgeaa
set_option maxRecDepth 100000
open Go.ChangeShapes Go.WideShapes Go.ChangeAt Go.RowKit Go.Maps
set_option linter.unusedVariables false
set_option linter.unusedSimpArgs false

/-- A row of n of which k cells are filled. -/
def filC (g : Nat → Int) (n k : Nat) : List Int := (List.range n).map fun j => if j < k then g j else 0
theorem filC_length (g : Nat → Int) (n k : Nat) : (filC g n k).length = n := by simp [filC]
theorem filC_at (g : Nat → Int) (n k j : Nat) (h : j < (filC g n k).length) : (filC g n k)[j] = if j < k then g j else 0 := by simp [filC]
theorem filC_zero (g : Nat → Int) (n : Nat) : filC g n 0 = List.replicate n 0 := by
  apply List.ext_getElem
  · simp [filC]
  · intro i h1 h2; simp [filC]
theorem filC_all (g : Nat → Int) (n : Nat) : filC g n n = (List.range n).map g := by
  unfold filC
  apply List.map_congr_left
  intro j hj
  rw [if_pos (List.mem_range.1 hj)]
theorem filC_set (g : Nat → Int) (n k : Nat) (x : Int) (hx : x = g k) : (filC g n k).set k x = filC g n (k + 1) := by
  subst hx
  apply List.ext_getElem
  · simp [filC]
  · intro j h1 h2
    rw [List.getElem_set, filC_at, filC_at]
    by_cases e : k = j
    · subst e; rw [if_pos rfl, if_pos (by omega)]
    · rw [if_neg e]
      by_cases e2 : j < k
      · rw [if_pos e2, if_pos (by omega)]
      · rw [if_neg e2, if_neg (by omega)]
theorem filC_keep (g : Nat → Int) (n k : Nat) (hx : g k = 0) : filC g n k = filC g n (k + 1) := by
  apply List.ext_getElem
  · simp [filC]
  · intro j h1 h2
    rw [filC_at, filC_at]
    by_cases e : k = j
    · subst e; rw [if_neg (by omega), if_pos (by omega), hx]
    · by_cases e2 : j < k
      · rw [if_pos e2, if_pos (by omega)]
      · rw [if_neg e2, if_neg (by omega)]
theorem own_fil0 {base : Nat} {w : World} {g n : Nat} (gf : Nat → Int) (hown : w.ownsRow base 3 1 (.slice (some ⟨g, 0, none⟩) n n) n (madeCells (Value.int IntKind.i64 0).cells (n * 1)).toList) : Own base w (.slice (some ⟨g, 0, none⟩) n n) (filC gf n 0) := by
  rw [made_ints] at hown
  rw [filC_zero]
  refine ⟨fun x hx => by have := List.eq_of_mem_replicate hx; subst this; unfold InI; omega, ?_⟩
  have e : (List.replicate n (0 : Int)).length = n := by simp
  rw [e, List.map_replicate]
  exact hown
theorem grown_setC (w : World) (r i : Nat) (u : Value) : w.grownBy (w.setCell ⟨r, i, none⟩ u) (some r) :=
  ⟨rfl, rfl, rfl, by simp [World.setCell], fun k _ hn => Below.heap_setCell w ⟨r, i, none⟩ u k (by intro e; apply hn; rw [e])⟩
/-- The number that stands for a state at the beginning. -/
def iniG (A : Aut) (f : Nat → Bool) (s : Nat) : Int := if f s = true then (if at0 A.ac s = true then 1 else 0) else -1
theorem iniG_all (A : Aut) (f : Nat → Bool) : filC (iniG A f) A.ac.length A.ac.length = iniC A f := by rw [filC_all]; rfl
set_option maxHeartbeats 4000000 in
set_option maxRecDepth 100000 in
theorem ini_any (v : Value) (A : Aut) (f : Nat → Bool) (w : World) (h : AutAt w v A) (hv : ValidA A) (hf : ∀ s, f s = true ↔ LiveP A s) :
    Calls Try.prog 155 #[v] w (OwnOut w (iniC A f)) := by
  have HLV : Hid (∀ W, Since w W → Calls Try.prog 107 #[v] W (BoOut W (boL f A.ac.length))) := fun W hW => implLive_any v A f W (h.since hW) hv hf
  obtain ⟨a, b, rfl, _, ha, hb⟩ := h
  obtain ⟨ao, ca, rfl, HC⟩ := ha
  obtain ⟨bo, cb, rfl⟩ := hb.len
  clear hb hf
  have hn12 := hv.1
  have hn0 : 0 < A.ac.length := by have := hv.2.2.1; omega
  have HCC : Hid (∀ s, s < A.ac.length → ∃ b off, ao = some ⟨b, off, none⟩ ∧ b < w.heap.size ∧ w.cell? ⟨b, off + s, none⟩ = some (.bool (at0 A.ac s))) := fun s hs => by
    rw [at0_get A.ac s hs]; exact HC.out s hs
  obtain ⟨n, hn⟩ : ∃ n, n = A.ac.length := ⟨_, rfl⟩
  obtain ⟨m, hmm⟩ : ∃ n, n = A.nx.length := ⟨_, rfl⟩
  rw [← hn, ← hmm] at HLV ⊢
  rw [← hn] at HCC hn12 hn0
  have HALL : Hid (filC (iniG A f) n n = iniC A f) := by rw [hn]; exact iniG_all A f
  clear hn hmm HC hv
  obtain ⟨i0, hi, hz0, hz1, hz2⟩ := info_parts info_int
  have HZ2 := Lib.hid hz2
  clear hz2
  obtain ⟨y, hy⟩ : ∃ y, y = w.alloc (.cells #[.int .i64 A.st, .slice ao n ca, .slice bo m cb] 39) := ⟨_, rfl⟩
  have hs0 : Since w y := by rw [hy]; exact (Since.refl w).alloc _
  have B0 : Hid (Blk y w.heap.size 39 #[.int .i64 A.st, .slice ao n ca, .slice bo m cb]) := by rw [hy]; exact Blk.new rfl _ _
  have HY := Lib.hid hy
  have hyz := hs0.size
  clear hy
  obtain ⟨⟨p0, p1, p2⟩, _⟩ := B0.out.threeA
  go_enter Try.func155, Try.ntmps155
  go_upto_region 1 with fail
  rw [← HY.out]
  go_upto_region 2 with (at_make; go_must (refine wpList_make_full _ rfl _ _ 24 rfl y.heap.size 3 i0 (.int .i64 0) 1 Try.underlying24 hi hz0 hz1 .i64 .i64 _ _ n rfl rfl rfl rfl (by rw [HZ2.out]; omega) (by unfold maxLen; omega) (Nat.le_refl _) ?_); intro w1 hown hgrow)
  have hs1 : Since y w1 := (Since.refl y).grown hgrow (fun _ h => by simp at h)
  have HO0 : Hid (Own y.heap.size w1 (.slice (some ⟨y.heap.size, 0, none⟩) n n) (filC (iniG A f) n 0)) := own_fil0 _ hown
  clear hown hgrow p0 p1 p2
  obtain ⟨⟨p0, p1, p2⟩, _⟩ := (B0.out.since hs1).threeA
  go_wp2_with fail
  refine (HLV.out _ (hs0.trans hs1)).mono ?_
  rintro e w2 ⟨v2, rfl, ho2, hs2⟩
  obtain ⟨lg, lc, rfl, hlg⟩ := own_block (v := v2) ho2 (by rw [boL_length]; exact hn0)
  rw [boL_length]
  have HB2 : Hid (OwnBo w1.heap.size w2 (.slice (some ⟨lg, 0, none⟩) n lc) (boL f n)) := by
    have h1 := ho2
    rw [boL_length] at h1
    exact h1
  have HS2 := Lib.hid (hs1.trans hs2)
  have HO2 := Lib.hid (HO0.out.since hs2)
  have hlg2 : y.heap.size < lg := by have := (HO0.out.2.lt y.heap.size rfl).2; omega
  clear ho2 p0 p1 p2
  go_wp2
  go_loopw [13] (fun i wr => ∃ k : Nat, k ≤ n ∧ i = .int .i64 k ∧ Hid (Own y.heap.size wr (.slice (some ⟨y.heap.size, 0, none⟩) n n) (filC (iniG A f) n k)) ∧ Hid (OwnBo w1.heap.size wr (.slice (some ⟨lg, 0, none⟩) n lc) (boL f n)) ∧ Hid (Since y wr)) (fun i _ => n - (intOf i).toNat)
  case atStart => exact ⟨0, Nat.zero_le _, rfl, HO2.out, HB2.out, HS2.out⟩
  case round =>
    obtain ⟨k, hk, rfl, HO, HB, HS⟩ := hrel
    by_cases hlt : k < n
    · have hki : (k : Int) < (n : Int) := by omega
      have hk0 : (0 : Int) ≤ (k : Int) := by omega
      have cb := (HB.out.cellB (by rw [boL_length]) k (by rw [boL_length]; exact hlt)).1
      rw [boL_at f n k hlt] at cb
      obtain ⟨b1, off1, rfl, hb1, ca1⟩ := HCC.out k hlt
      have ca := (Below.cell (hs0.trans HS.out) (p := ⟨b1, off1 + k, none⟩) hb1).trans ca1
      obtain ⟨⟨p0, p1, p2⟩, _⟩ := (B0.out.since HS.out).threeA
      obtain ⟨c0, f0⟩ := HO.out.cellI (by rw [filC_length]) k (by rw [filC_length]; exact hlt)
      obtain ⟨x, hx⟩ : ∃ x, x = f k := ⟨_, rfl⟩
      obtain ⟨z, hz⟩ : ∃ z, z = at0 A.ac k := ⟨_, rfl⟩
      have HG : Hid (iniG A f k = if x = true then (if z = true then 1 else 0) else -1) := by unfold Hid iniG; rw [← hx, ← hz]
      rw [← hx] at cb
      rw [← hz] at ca
      have hne : lg ≠ y.heap.size := by omega
      have HB4 : Hid (∀ u, OwnBo w1.heap.size (wr.setCell ⟨y.heap.size, k, none⟩ u) (.slice (some ⟨lg, 0, none⟩) n lc) (boL f n)) := fun u => World.ownsRow.kept HB.out (grown_setC wr y.heap.size k u) (.inr (by simp [Value.ownBlock]; omega))
      have HS4 : Hid (∀ u, Since y (wr.setCell ⟨y.heap.size, k, none⟩ u)) := fun u => HS.out.setCell (Nat.le_refl _) u
      clear hx hz ca1
      cases x with
      | false =>
        have HO4 : Hid (Own y.heap.size (wr.setCell ⟨y.heap.size, k, none⟩ (.int .i64 (-1))) (.slice (some ⟨y.heap.size, 0, none⟩) n n) (filC (iniG A f) n (k + 1))) := by
          have h := HO.out.setI (by rw [filC_length]) k (-1) (by unfold InI; omega)
          rw [filC_set (iniG A f) n k (-1) (by rw [HG.out]; rfl)] at h
          exact h
        go_wp2
        go_roundw
        case rel => exact ⟨k + 1, by omega, by go_num, HO4.out, HB4.out _, HS4.out _⟩
        case measure => simp [intOf]; omega
      | true =>
        cases z with
        | false =>
          have HO4 : Hid (Own y.heap.size wr (.slice (some ⟨y.heap.size, 0, none⟩) n n) (filC (iniG A f) n (k + 1))) := by
            unfold Hid
            rw [← filC_keep (iniG A f) n k (by rw [HG.out]; rfl)]
            exact HO.out
          go_wp2
          go_roundw
          case rel => exact ⟨k + 1, by omega, by go_num, HO4.out, HB.out, HS.out⟩
          case measure => simp [intOf]; omega
        | true =>
          have HO4 : Hid (Own y.heap.size (wr.setCell ⟨y.heap.size, k, none⟩ (.int .i64 1)) (.slice (some ⟨y.heap.size, 0, none⟩) n n) (filC (iniG A f) n (k + 1))) := by
            have h := HO.out.setI (by rw [filC_length]) k 1 (by unfold InI; omega)
            rw [filC_set (iniG A f) n k 1 (by rw [HG.out]; rfl)] at h
            exact h
          go_wp2
          go_roundw
          case rel => exact ⟨k + 1, by omega, by go_num, HO4.out, HB4.out _, HS4.out _⟩
          case measure => simp [intOf]; omega
    · obtain rfl : k = n := by omega
      rw [HALL.out] at HO
      have HF := Lib.hid (hs0.trans HS.out)
      go_wp2
      go_ret
      exact ⟨_, rfl, HO.out.mono hyz, HF.out⟩
end Go.Proofs.Ytmaagihfjldgeaa
