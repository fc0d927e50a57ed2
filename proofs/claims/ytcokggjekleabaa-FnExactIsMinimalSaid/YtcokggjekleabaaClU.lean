/- The model's classes: refining until nothing changes. -/
import Derived.Test.YtcokggjekleabaaClT
import Derived.Test.YtcokggjekleabaaClS
namespace Go.Proofs.Ytcokggjekleabaa
set_option maxRecDepth 100000
open Go.ChangeShapes Go.WideShapes Go.ChangeAt Go.RowKit Go.Maps
set_option linter.unusedVariables false
set_option linter.unusedSimpArgs false

/-- In the middle of a round: the keys found, the numbers given. -/
structure CkW (w : World) (CS : Array Value) (cv nv kv : Value) (cls nx : List Int) (xs : List (List Int)) (wr : World) : Prop where
  oc : Own (w.heap.size + 1) wr cv cls
  on : Own (w.heap.size + 1) wr nv nx
  ap : Apart cv nv
  ok : RowsO (w.heap.size + 1) wr kv xs [nv]
  b0 : Blk wr w.heap.size 27 CS
  sc : Since w wr
section
variable {w wr w' : World} {CS : Array Value} {cv nv kv : Value} {cls nx : List Int} {xs : List (List Int)}
theorem CkW.since (h : CkW w CS cv nv kv cls nx xs wr) (k : Since wr w') : CkW w CS cv nv kv cls nx xs w' := ⟨h.oc.since k, h.on.since k, h.ap, h.ok.since k, h.b0.since k, h.sc.trans k⟩
theorem CkW.lt (h : CkW w CS cv nv kv cls nx xs wr) : w.heap.size + 1 ≤ wr.heap.size := h.b0.lt
theorem CkW.next (h : CkW w CS cv nv kv cls nx xs wr) {nv' : Value} {nx' : List Int} (ho : Own (w.heap.size + 1) w' nv' nx') (k : wr.grownBy w' nv.ownBlock) (hn : NewB wr nv nv') : CkW w CS cv nv' kv cls nx' xs w' := by
  have hr : ∀ q, nv.ownBlock = some q → w.heap.size + 1 ≤ q := fun q e => (h.on.2.lt q e).1
  exact ⟨h.oc.grownX k h.ap, ho, h.ap.newB hn (own_ltX h.oc), h.ok.int k h.on (by simp) (fun u hu => by simp at hu; subst hu; exact .inr hn), blk_keep h.b0 k hr (by omega), h.sc.grown k (fun j hj => by have := hr j hj; omega)⟩
theorem CkW.push (h : CkW w CS cv nv kv cls nx xs wr) {p : Value} {x : List Int} (hp : Own (w.heap.size + 1) wr p x) (hok : RowsO (w.heap.size + 1) wr kv xs [p, nv]) (hap : Apart p nv) {kv' : Value}
    (ho : ∀ ps, ps.length = xs.length → wr.ownsRow (w.heap.size + 1) 30 1 kv xs.length ps → w'.ownsRow (w.heap.size + 1) 30 1 kv' (xs.length + 1) (ps ++ [p])) (k : wr.grownBy w' kv.ownBlock) : CkW w CS cv nv kv' cls nx (xs ++ [x]) w' := by
  have hr : ∀ q, kv.ownBlock = some q → w.heap.size + 1 ≤ q := fun q e => (hok.lt q e).1
  obtain ⟨ps0, p1, _⟩ := h.ok
  have ki : ∀ (v : Value) (l : List Int), Own (w.heap.size + 1) wr v l → Own (w.heap.size + 1) w' v l := fun v l hv => hv.grownX k (apart_types hv.2 p1 (by decide))
  exact ⟨ki _ _ h.oc, ki _ _ h.on, h.ap, hok.push (p := p) (by simp) hp ho k (fun u hu => by simp at hu; subst hu; exact ⟨by simp, hap⟩), blk_keep h.b0 k hr (by omega), h.sc.grown k (fun j hj => by have := hr j hj; omega)⟩
end
theorem RowsO.cell {base : Nat} {w : World} {no : Value} {xs : List (List Int)} {av : List Value} (h : RowsO base w no xs av) (i : Nat) (hi : i < xs.length) : ∃ g cap p, no = .slice (some ⟨g, 0, none⟩) xs.length cap ∧ g < w.heap.size ∧ w.cell? ⟨g, i, none⟩ = some p ∧ Own base w p xs[i] := by
  obtain ⟨ps, h1, h2, h3, _⟩ := h
  obtain ⟨g, cap, rfl, hg⟩ := own_block h1 (by omega)
  refine ⟨g, cap, ps[i]'(by omega), rfl, (h1.lt g rfl).2, ?_, h3 i (by omega) hi⟩
  rw [h1.cellAt i (by omega)]
  simp [h2, hi]
/-- The place of x among the first k keys; -1 where it is not there. -/
def atK (xs : List (List Int)) (x : List Int) (k : Nat) : Int := if x ∈ xs.take k then (posG xs x : Int) else -1
theorem atK_zero (xs : List (List Int)) (x : List Int) : atK xs x 0 = -1 := by simp [atK]
theorem take_step {α : Type} (xs : List α) (k : Nat) (h : k < xs.length) : xs.take (k + 1) = xs.take k ++ [xs[k]] := by rw [List.take_add_one, List.getElem?_eq_getElem h]; rfl
theorem atK_hit {xs : List (List Int)} (hd : xs.Nodup) (x : List Int) (k : Nat) (h : k < xs.length) (e : xs[k] = x) : atK xs x (k + 1) = (k : Int) := by
  unfold atK
  rw [take_step xs k h, if_pos (by simp [e]), ← e, posG_at xs hd k h]
theorem atK_miss (xs : List (List Int)) (x : List Int) (k : Nat) (h : k < xs.length) (e : xs[k] ≠ x) : atK xs x (k + 1) = atK xs x k := by
  unfold atK
  rw [take_step xs k h]
  have : (x ∈ xs.take k ++ [xs[k]]) ↔ x ∈ xs.take k := by
    rw [List.mem_append]
    constructor
    · rintro (h | h)
      · exact h
      · simp at h; exact absurd h.symm e
    · exact .inl
  by_cases hm : x ∈ xs.take k
  · rw [if_pos (this.2 hm), if_pos hm]
  · rw [if_neg (fun q => hm (this.1 q)), if_neg hm]
theorem atK_all (xs : List (List Int)) (x : List Int) : atK xs x xs.length = if x ∈ xs then (posG xs x : Int) else -1 := by unfold atK; rw [List.take_length]
theorem atK_rng (xs : List (List Int)) (x : List Int) (k : Nat) : -1 ≤ atK xs x k ∧ atK xs x k ≤ xs.length := by
  unfold atK
  split
  · rename_i h
    have := posG_lt xs x (List.mem_of_mem_take h)
    omega
  · omega
set_option maxHeartbeats 16000000 in
set_option maxRecDepth 100000 in
theorem specCls_any (v : Value) (A : Aut) (f : Nat → Bool) (w : World) (h : AutAt w v A) (hv : ValidA A) (hf : ∀ s, f s = true ↔ LiveP A s) :
    Calls Try.prog 58 #[v] w (OwnOut w (clsA A f)) := by
  have HLV : Hid (∀ W, Since w W → Calls Try.prog 89 #[v] W (BoOut W (boL f A.ac.length))) := fun W hW => specLive_any v A f W (h.since hW) hv hf
  have HKY : Hid (∀ u i s W, Since w W → IntsAt W u (itR A f i) → s < A.ac.length → Calls Try.prog 109 #[v, u, .int .i64 (s : Nat)] W (OwnOut W (sigC A.nx (itR A f i) s))) := fun u i s W hW hu hs => key_any v u A (itR A f i) s W (h.since hW) hv hu (itR_length A f i) hs
  have HRR : Hid (∀ i, ClsR A f (itR A f i)) := fun i => itR_R hv f i
  have HLN : Hid (∀ i, (itR A f i).length = A.ac.length) := itR_length A f
  have HST : Hid (∀ i, (∀ j, j ≤ i → refC A f (itR A f j) ≠ itR A f j) → i < A.ac.length) := fun i h => itR_stop A f i h
  have HCA : Hid (∀ i, i < A.ac.length + 1 → (∀ j, j < i → refC A f (itR A f j) ≠ itR A f j) → refC A f (itR A f i) = itR A f i → clsA A f = itR A f i) := fun i h1 h2 h3 => clsA_at A f i h1 h2 h3
  have HALL : Hid (∀ i, preI (cutN f (sigC A.nx (itR A f i))) A.ac.length = itR A f (i + 1)) := fun i => rfl
  have HINI : Hid (preI (iniG A f) A.ac.length = itR A f 0) := rfl
  obtain ⟨a, b, rfl, _, ha, hb⟩ := h
  obtain ⟨ao, ca, rfl, HC⟩ := ha
  obtain ⟨bo, cb, rfl⟩ := hb.len
  clear hb hf
  have hn12 := hv.1
  have hn0 : 0 < A.ac.length := by have := hv.2.2.1; omega
  have HCC : Hid (∀ s, s < A.ac.length → ∃ b off, ao = some ⟨b, off, none⟩ ∧ b < w.heap.size ∧ w.cell? ⟨b, off + s, none⟩ = some (.bool (at0 A.ac s))) := fun s hs => by
    rw [at0_get A.ac s hs]; exact HC.out s hs
  have HNEG : Hid (∀ i s, s < A.ac.length → (clC (itR A f i) (s : Int) < 0 ↔ f s = false)) := fun i s hs => (HRR.out i).neg s hs
  have HRNG : Hid (∀ i s, s < A.ac.length → -1 ≤ clC (itR A f i) (s : Int) ∧ clC (itR A f i) (s : Int) < 100000) := fun i s hs => (HRR.out i).rng s hs
  obtain ⟨n, hn⟩ : ∃ n, n = A.ac.length := ⟨_, rfl⟩
  obtain ⟨m, hmm⟩ : ∃ n, n = A.nx.length := ⟨_, rfl⟩
  rw [← hn, ← hmm] at HLV HKY ⊢
  rw [← hn] at HCC hn12 hn0 HLN HST HCA HALL HINI HNEG HRNG
  clear hn hmm HC hv HRR
  obtain ⟨CS, hCS⟩ : ∃ CS : Array Value, CS = #[.int .i64 A.st, .slice ao n ca, .slice bo m cb] := ⟨_, rfl⟩
  have HCS := Lib.hid hCS
  obtain ⟨y, hy⟩ : ∃ y, y = w.alloc (.cells #[.int .i64 A.st, .slice ao n ca, .slice bo m cb] 27) := ⟨_, rfl⟩
  have hs0 : Since w y := by rw [hy]; exact (Since.refl w).alloc _
  have hz : y.heap.size = w.heap.size + 1 := by rw [hy]; simp
  have B0 : Hid (Blk y w.heap.size 27 CS) := by rw [hy, hCS]; exact Blk.new rfl _ _
  have HY := Lib.hid hy
  have HZ := Lib.hid hz
  clear hy hz hCS
  have hbx := B0.out
  rw [HCS.out] at hbx
  obtain ⟨⟨p0, p1, p2⟩, _⟩ := hbx.threeA
  go_enter Try.func58, Try.ntmps58
  go_upto_region 1 with fail
  rw [← HY.out]
  go_wp2_with fail
  refine (HLV.out _ hs0).mono ?_
  rintro e w2 ⟨v2, rfl, ho2, hs2⟩
  obtain ⟨lg, lc, rfl, hlg⟩ := own_block (v := v2) ho2 (by rw [boL_length]; exact hn0)
  rw [boL_length]
  have HB2 : Hid (OwnBo y.heap.size w2 (.slice (some ⟨lg, 0, none⟩) n lc) (boL f n)) := by
    have h1 := ho2
    rw [boL_length] at h1
    exact h1
  have HO0 : Hid (OwnNt 3 (w.heap.size + 1) (w2.alloc (.cells #[] 3)) (.slice (some ⟨w2.heap.size, 0, none⟩) 0 0) (preI (iniG A f) 0)) := ⟨fun x hx => by simp [preI] at hx, World.ownsRow_lit w2 #[] 0 (by have := hs2.size; have := HZ.out; omega) (Nat.zero_le _) rfl⟩
  have hal : Since w2 (w2.alloc (.cells #[] 3)) := (Since.refl _).alloc _
  have HS0 : Hid (Since w2 (w2.alloc (.cells #[] 3))) := hal
  have HS2 := Lib.hid (hs0.trans hs2)
  have HBX := Lib.hid (B0.out.since hs2)
  have hlg2 : lg < w2.heap.size := (World.ownsRow.lt HB2.out lg rfl).2
  clear ho2 hbx p0 p1 p2 hal hs2
  go_upto_region 4 with fail
  go_loopw [4, 5] (fun q i wr => ∃ (k : Nat) (v1 : Value), k ≤ n ∧ i = .int .i64 k ∧ v1 = q ∧ Hid (OwnNt 3 w2.heap.size wr v1 (preI (iniG A f) k)) ∧ Hid (Since w2 wr)) (fun _ i _ => n - (intOf i).toNat)
  case atStart => exact ⟨0, _, Nat.zero_le _, rfl, rfl, ⟨fun x hx => by simp [preI] at hx, World.ownsRow_lit w2 #[] 0 (Nat.le_refl _) (Nat.zero_le _) rfl⟩, HS0.out⟩
  case round =>
    obtain ⟨k, v1, hk, rfl, rfl, HO, HS⟩ := hrel
    have hbx := HBX.out.since HS.out
    rw [HCS.out] at hbx
    obtain ⟨⟨p0, p1, p2⟩, _⟩ := hbx.threeA
    by_cases hlt : k < n
    · have hki : (k : Int) < (n : Int) := by omega
      have hk0 : (0 : Int) ≤ (k : Int) := by omega
      have cb1 := (HB2.out.cellB (by rw [boL_length]) k (by rw [boL_length]; exact hlt)).1
      rw [boL_at f n k hlt] at cb1
      have cb := (Below.cell HS.out (p := ⟨lg, k, none⟩) hlg2).trans cb1
      obtain ⟨b1, off1, rfl, hb1, ca1⟩ := HCC.out k hlt
      have ca := (Below.cell (HS2.out.trans HS.out) (p := ⟨b1, off1 + k, none⟩) hb1).trans ca1
      obtain ⟨x, hx⟩ : ∃ x, x = f k := ⟨_, rfl⟩
      obtain ⟨z, hz⟩ : ∃ z, z = at0 A.ac k := ⟨_, rfl⟩
      have HG : Hid (iniG A f k = if x = true then (if z = true then 1 else 0) else -1) := by unfold Hid iniG; rw [← hx, ← hz]
      rw [← hx] at cb
      rw [← hz] at ca
      have hlen : (preI (iniG A f) k).length ≤ 4194304 := by rw [preI_length]; omega
      have hbz := HS.out.size
      have HSTP := Lib.hid (preI_step (iniG A f) k)
      have hiA : InI (-1) := by unfold InI; omega
      have hiB : InI 0 := by unfold InI; omega
      have hiC : InI 1 := by unfold InI; omega
      clear hx hz ca1 cb1
      cases x with
      | false =>
        cases z with
        | false =>
          go_wp2_with (at_builtin; go_must (refine wpList_append_T rfl (.tmp 34) (.tmp 36) 30 3 rfl Try.underlying30 info_int w2.heap.size v1 _ (by first | rfl | simp [Act.eval]) HO.out (-1) (by first | rfl | simp [Act.eval]) hiA hlen hbz ?_); intro v5 w5 ho5 hg5)
          have HO5 : Hid (OwnNt 3 w2.heap.size w5 v5 (preI (iniG A f) (k + 1))) := by unfold Hid; rw [HSTP.out, HG.out]; exact ho5
          have HS5 : Hid (Since w2 w5) := HS.out.grown hg5 (fun j hj => (HO.out.2.lt j hj).1)
          clear ho5 hg5
          go_roundw
          case rel => exact ⟨k + 1, v5, by omega, by go_num, rfl, HO5.out, HS5.out⟩
          case measure => simp [intOf]; omega
        | true =>
          go_wp2_with (at_builtin; go_must (refine wpList_append_T rfl (.tmp 34) (.tmp 36) 30 3 rfl Try.underlying30 info_int w2.heap.size v1 _ (by first | rfl | simp [Act.eval]) HO.out (-1) (by first | rfl | simp [Act.eval]) hiA hlen hbz ?_); intro v5 w5 ho5 hg5)
          have HO5 : Hid (OwnNt 3 w2.heap.size w5 v5 (preI (iniG A f) (k + 1))) := by unfold Hid; rw [HSTP.out, HG.out]; exact ho5
          have HS5 : Hid (Since w2 w5) := HS.out.grown hg5 (fun j hj => (HO.out.2.lt j hj).1)
          clear ho5 hg5
          go_roundw
          case rel => exact ⟨k + 1, v5, by omega, by go_num, rfl, HO5.out, HS5.out⟩
          case measure => simp [intOf]; omega
      | true =>
        cases z with
        | false =>
          go_wp2_with (at_builtin; go_must (refine wpList_append_T rfl (.tmp 34) (.tmp 36) 30 3 rfl Try.underlying30 info_int w2.heap.size v1 _ (by first | rfl | simp [Act.eval]) HO.out 0 (by first | rfl | simp [Act.eval]) hiB hlen hbz ?_); intro v5 w5 ho5 hg5)
          have HO5 : Hid (OwnNt 3 w2.heap.size w5 v5 (preI (iniG A f) (k + 1))) := by unfold Hid; rw [HSTP.out, HG.out]; exact ho5
          have HS5 : Hid (Since w2 w5) := HS.out.grown hg5 (fun j hj => (HO.out.2.lt j hj).1)
          clear ho5 hg5
          go_roundw
          case rel => exact ⟨k + 1, v5, by omega, by go_num, rfl, HO5.out, HS5.out⟩
          case measure => simp [intOf]; omega
        | true =>
          go_wp2_with (at_builtin; go_must (refine wpList_append_T rfl (.tmp 34) (.tmp 36) 30 3 rfl Try.underlying30 info_int w2.heap.size v1 _ (by first | rfl | simp [Act.eval]) HO.out 1 (by first | rfl | simp [Act.eval]) hiC hlen hbz ?_); intro v5 w5 ho5 hg5)
          have HO5 : Hid (OwnNt 3 w2.heap.size w5 v5 (preI (iniG A f) (k + 1))) := by unfold Hid; rw [HSTP.out, HG.out]; exact ho5
          have HS5 : Hid (Since w2 w5) := HS.out.grown hg5 (fun j hj => (HO.out.2.lt j hj).1)
          clear ho5 hg5
          go_roundw
          case rel => exact ⟨k + 1, v5, by omega, by go_num, rfl, HO5.out, HS5.out⟩
          case measure => simp [intOf]; omega
    · obtain rfl : k = n := by omega
      rw [HINI.out] at HO
      have hw2 := HS2.out.size
      have hzz := HZ.out
      have HC0 : Hid (Own (w.heap.size + 1) wr v1 (itR A f 0)) := Own.mono (show Own w2.heap.size wr v1 (itR A f 0) from HO.out) (by have := HBX.out.lt; omega)
      have HBY := Lib.hid (HBX.out.since HS.out)
      have HSY := Lib.hid (HS2.out.trans HS.out)
      clear HO HS HBX HB2 HO0 HS0 HINI
      go_upto_region 13 with fail
      clear hbx p0 p1 p2
      go_loopw [4, 7] (fun q i wr => ∃ (r : Nat) (v1 : Value), i = .int .i64 r ∧ v1 = q ∧ Hid (∀ j, j < r → refC A f (itR A f j) ≠ itR A f j) ∧ Hid (Own (w.heap.size + 1) wr v1 (itR A f r)) ∧ Hid (Blk wr w.heap.size 27 CS) ∧ Hid (Since w wr)) (fun _ i _ => k + 1 - (intOf i).toNat)
      case atStart => exact ⟨0, _, rfl, rfl, fun j hj => by omega, HC0.out, HBY.out, HSY.out⟩
      case round =>
        clear HC0 HBY HSY
        obtain ⟨r, v1, rfl, rfl, HJ, HO, HB, HS⟩ := hrel
        have hrn : r ≤ k := by
          by_cases hr : r = 0
          · omega
          · have := HST.out (r - 1) (fun j hj => HJ.out j (by omega))
            omega
        have hri : (r : Int) ≤ (k : Int) := by omega
        obtain ⟨cg, cc, rfl, hcg⟩ := own_block HO.out.2 (by rw [HLN.out]; exact hn0)
        rw [HLN.out] at HO ⊢
        have hbx := HB.out
        rw [HCS.out] at hbx
        obtain ⟨⟨p0, p1, p2⟩, _⟩ := hbx.threeA
        obtain ⟨sg, hsg⟩ : ∃ sg, sg = sigC A.nx (itR A f r) := ⟨_, rfl⟩
        have HSG := Lib.hid hsg
        have HALr : Hid (preI (cutN f sg) k = itR A f (r + 1)) := by rw [hsg]; exact HALL.out r
        clear hsg
        have HK0 : Hid (CkW w CS (.slice (some ⟨cg, 0, none⟩) k cc) (.slice (some ⟨wr.heap.size + 1, 0, none⟩) 0 0) (.slice (some ⟨wr.heap.size, 0, none⟩) 0 0) (itR A f r) (preI (cutN f sg) 0) ((cutF f sg 0).map sg) ((wr.alloc (.cells #[] 30)).alloc (.cells #[] 3))) := by
          have s1 : Since wr (wr.alloc (.cells #[] 30)) := (Since.refl _).alloc _
          have s2 : Since (wr.alloc (.cells #[] 30)) ((wr.alloc (.cells #[] 30)).alloc (.cells #[] 3)) := (Since.refl _).alloc _
          have hb := HB.out.lt
          have hcl : cg < wr.heap.size := (HO.out.2.lt cg rfl).2
          have hz1 : (wr.alloc (.cells #[] 30)).heap.size = wr.heap.size + 1 := by simp
          have o1 : (wr.alloc (.cells #[] 30)).ownsRow (w.heap.size + 1) 30 1 (.slice (some ⟨wr.heap.size, 0, none⟩) 0 0) 0 [] := World.ownsRow_lit wr #[] 0 (by omega) (Nat.zero_le _) rfl
          have o2 : ((wr.alloc (.cells #[] 30)).alloc (.cells #[] 3)).ownsRow (w.heap.size + 1) 3 1 (.slice (some ⟨wr.heap.size + 1, 0, none⟩) 0 0) 0 [] := by
            have := World.ownsRow_lit (e := 3) (size := 1) (base := w.heap.size + 1) (wr.alloc (.cells #[] 30)) #[] 0 (by omega) (Nat.zero_le _) rfl
            rw [hz1] at this; exact this
          refine ⟨(HO.out.since s1).since s2, ⟨fun x hx => by simp [preI] at hx, o2⟩, .inr (by simp [Value.ownBlock]; omega), ⟨[], row_since o1 s2, rfl, fun i h => by simp at h, fun i j h => by simp at h, fun i h => by simp at h⟩, (HB.out.since s1).since s2, (HS.out.trans s1).trans s2⟩
        clear hbx
        go_upto_region 18 with fail
        clear p0 p1 p2
        go_loopw [8, 9, 10] (fun kq nq i wz => ∃ (s : Nat) (kv nv : Value), s ≤ k ∧ i = .int .i64 s ∧ kv = kq ∧ nv = nq ∧ Hid (CkW w CS (.slice (some ⟨cg, 0, none⟩) k cc) nv kv (itR A f r) (preI (cutN f sg) s) ((cutF f sg s).map sg) wz)) (fun _ _ i _ => k - (intOf i).toNat)
        case atStart => exact ⟨0, _, _, Nat.zero_le _, rfl, rfl, rfl, HK0.out⟩
        case round =>
          clear HK0 HO HB HS
          obtain ⟨s, kv, nv, hs, rfl, rfl, rfl, HX⟩ := hrel
          have hbx := HX.out.b0
          rw [HCS.out] at hbx
          obtain ⟨⟨p0, p1, p2⟩, _⟩ := hbx.threeA
          by_cases hst : s < k
          · have hsi : (s : Int) < (k : Int) := by omega
            have hs0i : (0 : Int) ≤ (s : Int) := by omega
            have ce := (HX.out.oc.cellI (by rw [HLN.out]) s (by rw [HLN.out]; exact hst)).1
            rw [← clC_at (itR A f r) s (by rw [HLN.out]; exact hst)] at ce
            have HNGs := Lib.hid (HNEG.out r s hst)
            have hrg := HRNG.out r s hst
            obtain ⟨c, hc⟩ : ∃ c, c = clC (itR A f r) (s : Int) := ⟨_, rfl⟩
            rw [← hc] at ce HNGs hrg
            have HSTP := Lib.hid (preI_step (cutN f sg) s)
            have hlen : (preI (cutN f sg) s).length ≤ 4000000 := by rw [preI_length]; omega
            have hbz := HX.out.lt
            clear hc hbx
            cases hl : f s with
            | false =>
              have hcn : c < 0 := HNGs.out.2 hl
              have HF : Hid (cutF f sg (s + 1) = cutF f sg s) := cutF_dead hl
              have HN : Hid (cutN f sg s = -1) := cutN_dead hl
              have HON := Lib.hid HX.out.on
              have hiA : InI (-1) := by unfold InI; omega
              clear hl hrg
              go_wp2_with (at_builtin; go_must (refine wpList_append_at rfl (.tmp 59) (.tmp 60) rfl (w.heap.size + 1) nv _ (by first | rfl | simp [Act.eval]) HON.out (-1) (by first | rfl | simp [Act.eval]) hiA hlen hbz ?_); intro v5 w5 ho5 hg5 hn5)
              have HX5 : Hid (CkW w CS (.slice (some ⟨cg, 0, none⟩) k cc) v5 kv (itR A f r) (preI (cutN f sg) (s + 1)) ((cutF f sg (s + 1)).map sg) w5) := by
                unfold Hid
                rw [HF.out, HSTP.out, HN.out]
                exact HX.out.next ho5 hg5 hn5
              clear ho5 hg5 hn5
              go_roundw
              case rel => exact ⟨s + 1, _, v5, by omega, by go_num, rfl, rfl, HX5.out⟩
              case measure => simp [intOf]; omega
            | true =>
              have hcn : ¬ c < 0 := fun e => by
                have h1 : f s = false := HNGs.out.1 e
                rw [hl] at h1; cases h1
              have HL : Hid (f s = true) := hl
              clear hl hrg HNGs
              go_wp2_with fail
              refine (HKY.out _ r s _ HX.out.sc HX.out.oc.at hst).mono ?_
              rintro e w3 ⟨xv, rfl, ho3, hs3⟩
              rw [← HSG.out] at ho3
              obtain ⟨x, hx⟩ : ∃ x, x = sg s := ⟨_, rfl⟩
              rw [← hx] at ho3
              have hxl : x.length = 10 := by rw [hx, HSG.out]; exact sigC_length _ _ _
              obtain ⟨xo, xc, rfl⟩ := ho3.len
              rw [hxl] at ho3 ⊢
              have HXS := Lib.hid hx
              have HOX := Lib.hid (ho3.mono hbz)
              have hfresh : ∀ g, (Value.slice xo 10 xc).ownBlock = some g → wr.heap.size ≤ g := fun g e => (ho3.2.lt g e).1
              have HAPX : Hid (Apart (.slice xo 10 xc) nv) := by
                cases e : (Value.slice xo 10 xc).ownBlock with
                | none => exact .inl e
                | some q =>
                  refine .inr fun e2 => ?_
                  rw [e] at e2
                  have h1 := hfresh q e
                  have h2 := (HX.out.on.2.lt q e2.symm).2
                  omega
              have HRW := Lib.hid ((HX.out.ok.add hfresh).since hs3)
              have HX3 := Lib.hid (HX.out.since hs3)
              have HDN : Hid (((cutF f sg s).map sg).Nodup) := cutF_nodup f sg s
              obtain ⟨xs, hxs⟩ : ∃ xs, xs = (cutF f sg s).map sg := ⟨_, rfl⟩
              have HXL : Hid (xs.length = (cutF f sg s).length) := by unfold Hid; rw [hxs, List.length_map]
              have hxk : xs.length ≤ 1000 := by have := cutF_len f sg s; rw [HXL.out]; omega
              rw [← hxs] at HRW HX3 HDN
              have HXX := Lib.hid hxs
              obtain ⟨ko, kc, rfl⟩ := HX3.out.ok.len
              clear ho3 hs3 hx hxs HX hfresh p0 p1 p2 ce hbz
              have hat0 := atK_zero xs x
              go_upto_region 25 with fail
              go_loopw [12, 13] (fun aq i wk => ∃ (j : Nat), j ≤ xs.length ∧ i = .int .i64 j ∧ aq = .int .i64 (atK xs x j) ∧ Hid (Since w3 wk)) (fun _ i _ => xs.length - (intOf i).toNat)
              case atStart => exact ⟨0, Nat.zero_le _, rfl, by rw [hat0], Since.refl _⟩
              case round =>
                obtain ⟨j, hj, rfl, rfl, HS4⟩ := hrel
                obtain ⟨av, hav⟩ : ∃ av, av = atK xs x j := ⟨_, rfl⟩
                have HAV := Lib.hid hav
                rw [← hav]
                clear hat0 hav
                by_cases hjt : j < xs.length
                · have hji : (j : Int) < (xs.length : Int) := by omega
                  have hj0 : (0 : Int) ≤ (j : Int) := by omega
                  obtain ⟨g5, c5, p, e5, hg5, hcp, hop⟩ := (HX3.out.ok.since HS4.out).cell j hjt
                  injection e5 with e5 e6 e7
                  subst e5 e7
                  clear e6
                  have HOP := Lib.hid hop
                  obtain ⟨x2, hx2⟩ : ∃ x2, x2 = xs[j] := ⟨_, rfl⟩
                  rw [← hx2] at HOP
                  have HX2 : Hid (∃ h : j < xs.length, xs[j] = x2) := ⟨hjt, hx2.symm⟩
                  have HL2 : Hid (x2.length ≤ 4611686018427387904) := by
                    have hm : x2 ∈ xs := by rw [hx2]; exact List.getElem_mem hjt
                    rw [HXX.out] at hm
                    obtain ⟨t, _, e⟩ := List.mem_map.1 hm
                    unfold Hid
                    rw [← e, HSG.out, sigC_length]; omega
                  clear hop hx2
                  obtain ⟨pp, hpp⟩ : ∃ q : Value, q = p := ⟨_, rfl⟩
                  subst hpp
                  go_wp2_with fail
                  refine (l2Cmp_any _ _ x2 x _ HOP.out.at (HOX.out.since HS4.out).at HL2.out (by rw [hxl]; omega)).mono ?_
                  rintro e w6 ⟨rfl, hs6⟩
                  have HS6 := Lib.hid (HS4.out.trans hs6)
                  obtain ⟨d, hd⟩ : ∃ d, d = lexC x2 x := ⟨_, rfl⟩
                  rw [← hd]
                  by_cases he : x2 = x
                  · have hd0 : d = 0 := by rw [hd, he]; exact lexC_self x
                    subst hd0
                    have HA : Hid (atK xs x (j + 1) = (j : Int)) := by
                      obtain ⟨h1, h2⟩ := HX2.out
                      exact atK_hit HDN.out x j h1 (by rw [h2]; exact he)
                    clear hd he
                    go_wp2
                    go_roundw
                    case rel => exact ⟨j + 1, by omega, by go_num, by rw [HA.out], HS6.out⟩
                    case measure => simp [intOf]; omega
                  · have hd0 : (d == 0) = false := by
                      simp only [beq_eq_false_iff_ne]
                      intro e; rw [hd] at e; exact he (lexC_zero e)
                    have HA : Hid (atK xs x (j + 1) = av) := by
                      obtain ⟨h1, h2⟩ := HX2.out
                      rw [HAV.out]
                      exact atK_miss xs x j h1 (by rw [h2]; exact he)
                    clear hd he
                    go_wp2
                    go_roundw
                    case rel => exact ⟨j + 1, by omega, by go_num, by rw [HA.out], HS6.out⟩
                    case measure => simp [intOf]; omega
                · obtain rfl : j = xs.length := by omega
                  have HAW : Hid (av = if x ∈ xs then (posG xs x : Int) else -1) := by rw [HAV.out]; exact atK_all xs x
                  have HX4 := Lib.hid (HX3.out.since HS4.out)
                  have HRW4 := Lib.hid (HRW.out.since HS4.out)
                  have HOX4 := Lib.hid (HOX.out.since HS4.out)
                  have hbz := HX4.out.lt
                  clear HX3 HRW HOX HAV HS4
                  by_cases hmem : x ∈ xs
                  · have HF : Hid (cutF f sg (s + 1) = cutF f sg s) := cutF_old HL.out (by rw [← HXX.out, ← HXS.out]; exact hmem)
                    have hav : av = (posG xs x : Int) := by rw [HAW.out, if_pos hmem]
                    have HN : Hid (cutN f sg s = av) := by
                      have := cutN_old (f := sg) HL.out (by rw [← HXX.out, ← HXS.out]; exact hmem)
                      rw [← HXX.out, ← HXS.out] at this
                      rw [hav]; exact this
                    have hp := posG_lt xs x hmem
                    have hneg : ¬ av < 0 := by omega
                    have hiA : InI av := by unfold InI; omega
                    have HON := Lib.hid HX4.out.on
                    clear hav hmem hp HAW
                    go_wp2_with (at_builtin; go_must (refine wpList_append_at rfl (.tmp 88) (.tmp 90) rfl (w.heap.size + 1) nv _ (by first | rfl | simp [Act.eval]) HON.out av (by first | rfl | simp [Act.eval]) hiA hlen hbz ?_); intro v5 w5 ho5 hg5 hn5)
                    have HX5 : Hid (CkW w CS (.slice (some ⟨cg, 0, none⟩) k cc) v5 (.slice ko xs.length kc) (itR A f r) (preI (cutN f sg) (s + 1)) ((cutF f sg (s + 1)).map sg) w5) := by
                      unfold Hid
                      rw [HF.out, HSTP.out, HN.out, ← HXX.out]
                      exact HX4.out.next ho5 hg5 hn5
                    clear ho5 hg5 hn5
                    go_roundw
                    case rel => exact ⟨s + 1, _, v5, by omega, by go_num, rfl, rfl, HX5.out⟩
                    case measure => simp [intOf]; omega
                  · have HF : Hid (cutF f sg (s + 1) = cutF f sg s ++ [s]) := cutF_new HL.out (by rw [← HXX.out, ← HXS.out]; exact hmem)
                    have hav : av = -1 := by rw [HAW.out, if_neg hmem]
                    subst hav
                    have HN : Hid (cutN f sg s = (xs.length : Int)) := by
                      rw [HXL.out]
                      exact cutN_new (f := sg) HL.out (by rw [← HXX.out, ← HXS.out]; exact hmem)
                    have hneg : (-1 : Int) < 0 := by decide
                    have hxl9 : xs.length ≤ 4000000 := by omega
                    have hiA : InI (xs.length : Int) := by unfold InI; omega
                    clear hmem HAW
                    go_upto_region 32 with (at_builtin; go_must (refine wpList_append_rowv rfl (.tmp 84) (.tmp 86) rfl (w.heap.size + 1) (.slice ko xs.length kc) xs _ (by first | rfl | simp [Act.eval]) HRW4.out (.slice xo 10 xc) (by first | rfl | simp [Act.eval]) rfl hxl9 hbz ?_); intro v6 w6 ho6 hg6; obtain ⟨v6o, v6n, v6c, rfl⟩ := rowv_shape HRW4.out ho6)
                    have HX6 := Lib.hid (HX4.out.push HOX4.out HRW4.out HAPX.out ho6 hg6)
                    have hbz6 := HX6.out.lt
                    have HON := Lib.hid HX6.out.on
                    clear ho6 hg6 HX4 HRW4 HOX4
                    go_wp2_with (at_builtin; go_must (refine wpList_append_at rfl (.tmp 88) (.tmp 90) rfl (w.heap.size + 1) nv _ (by first | rfl | simp [Act.eval]) HON.out (xs.length : Int) (by first | rfl | simp [Act.eval]) hiA hlen hbz6 ?_); intro v5 w5 ho5 hg5 hn5)
                    have HX5 : Hid (CkW w CS (.slice (some ⟨cg, 0, none⟩) k cc) v5 (.slice v6o v6n v6c) (itR A f r) (preI (cutN f sg) (s + 1)) ((cutF f sg (s + 1)).map sg) w5) := by
                      unfold Hid
                      rw [HF.out, HSTP.out, HN.out, List.map_append, List.map_cons, List.map_nil, ← HXX.out, ← HXS.out]
                      exact HX6.out.next ho5 hg5 hn5
                    clear ho5 hg5 hn5
                    go_roundw
                    case rel => exact ⟨s + 1, _, v5, by omega, by go_num, rfl, rfl, HX5.out⟩
                    case measure => simp [intOf]; omega
          · obtain rfl : s = k := by omega
            rw [HALr.out] at HX
            clear hbx
            obtain ⟨no, nc, rfl⟩ := HX.out.on.len
            rw [HLN.out] at HX ⊢
            go_wp2_with fail
            refine (l2Cmp_any _ _ (itR A f (r + 1)) (itR A f r) _ HX.out.on.at HX.out.oc.at (by rw [HLN.out]; omega) (by rw [HLN.out]; omega)).mono ?_
            rintro e w6 ⟨rfl, hs6⟩
            have HX6 := Lib.hid (HX.out.since hs6)
            obtain ⟨d, hd⟩ : ∃ d, d = lexC (itR A f (r + 1)) (itR A f r) := ⟨_, rfl⟩
            rw [← hd]
            clear p0 p1 p2 hs6
            by_cases he : itR A f (r + 1) = itR A f r
            · have hd0 : d = 0 := by rw [hd, he]; exact lexC_self _
              subst hd0
              have HE : Hid (clsA A f = itR A f r) := HCA.out r (by omega) HJ.out he
              have HOC := Lib.hid HX6.out.oc
              have HSC := Lib.hid HX6.out.sc
              clear hd he
              go_wp2
              go_ret
              rw [HE.out]
              exact ⟨_, rfl, HOC.out.mono (Nat.le_succ _), HSC.out⟩
            · have hd0 : (d == 0) = false := by
                simp only [beq_eq_false_iff_ne]
                intro e; rw [hd] at e; exact he (lexC_zero e)
              have HNE : Hid (refC A f (itR A f r) ≠ itR A f r) := he
              have HON := Lib.hid HX6.out.on
              have HBX := Lib.hid HX6.out.b0
              have HSC := Lib.hid HX6.out.sc
              clear hd he
              go_wp2
              go_roundw
              case rel => exact ⟨r + 1, _, by go_num, rfl, (fun j hj => by
                by_cases e : j = r
                · subst e; exact HNE.out
                · exact HJ.out j (by omega)), HON.out, HBX.out, HSC.out⟩
              case measure => simp [intOf]; omega
end Go.Proofs.Ytcokggjekleabaa
