/- TrF, TrS: small words and contracts that the other texts use. -/
import Derived.Test.YtmaagihfjldgeaaA3
import Derived.Test.YtmaagihfjldgeaaK3
import Derived.Test.YtmaagihfjldgeaaA1
import Derived.Test.YtmaagihfjldgeaaK1
/- l11Find, l11Nothing. -/
namespace Go.Proofs.Ytmaagihfjldgeaa
set_option maxRecDepth 100000
open Go.ChangeShapes Go.WideShapes Go.ChangeAt Go.RowKit Go.Maps
set_option linter.unusedVariables false
set_option linter.unusedSimpArgs false

def findL (xs : List Int) (x : Int) : Int := if x ∈ xs then (posN xs x : Int) else -1
theorem posN_first : ∀ (xs : List Int) (k : Nat) (h : k < xs.length) (x : Int), (∀ j (hj : j < xs.length), j < k → xs[j] ≠ x) → xs[k] = x → posN xs x = k
  | y :: ys, 0, h, x, hp, e => by simp at e; simp [posN, e]
  | y :: ys, k + 1, h, x, hp, e => by
    have h0 := hp 0 (by simp) (by omega)
    simp at h0
    unfold posN
    rw [if_neg h0, posN_first ys k (by simpa using h) x (fun j hj hk => by have := hp (j + 1) (by simpa using hj) (by omega); simpa using this) (by simpa using e)]
set_option maxRecDepth 100000 in
theorem find_any (v : Value) (xs : List Int) (x : Int) (w : World) (h : IntsAt w v xs) (hl : xs.length ≤ 4000000) :
    Calls Try.prog 195 #[v, .int .i64 x] w fun e w' => e = .returned (.int .i64 (findL xs x)) ∧ Since w w' := by
  obtain ⟨ao, cap, rfl, HC⟩ := h.row
  clear h
  obtain ⟨n, hn⟩ : ∃ n, n = xs.length := ⟨_, rfl⟩
  rw [← hn] at hl ⊢
  have HN := Lib.hid hn
  clear hn
  go_enter Try.func195, Try.ntmps195
  go_wp2
  go_loopw [5] (fun i wr => ∃ k : Nat, k ≤ n ∧ i = .int .i64 k ∧ Hid (∀ j (hj : j < xs.length), j < k → xs[j] ≠ x) ∧ wr = w) (fun i _ => n - (intOf i).toNat)
  case atStart => exact ⟨0, Nat.zero_le _, rfl, fun j hj hk => by omega, rfl⟩
  case round =>
    obtain ⟨k, hk, rfl, HJ, rfl⟩ := hrel
    by_cases hlt : k < n
    · have hki : (k : Int) < (n : Int) := by omega
      have hk0 : (0 : Int) ≤ (k : Int) := by omega
      have hkx : k < xs.length := by rw [← HN.out]; exact hlt
      obtain ⟨b, off, rfl, hb, d⟩ := HC.out k hkx
      obtain ⟨q, hq⟩ : ∃ q, q = xs[k] := ⟨_, rfl⟩
      rw [← hq] at d
      by_cases e : q = x
      · have HF : Hid (findL xs x = (k : Int)) := by
          unfold Hid findL
          have hm : x ∈ xs := by rw [← e, hq]; exact List.getElem_mem hkx
          rw [if_pos hm, posN_first xs k hkx x HJ.out (by rw [← hq]; exact e)]
        have hqe : (q == x) = true := by simpa using e
        clear hq e
        go_wp2
        go_ret
        exact ⟨ret_int HF.out.symm, Since.refl _⟩
      · have HJ2 : Hid (∀ j (hj : j < xs.length), j < k + 1 → xs[j] ≠ x) := by
          intro j hj hk2
          by_cases e2 : j = k
          · subst e2; rw [← hq]; exact e
          · exact HJ.out j hj (by omega)
        have hqe : (q == x) = false := by simpa using e
        clear hq e
        go_wp2
        go_roundw
        case rel => exact ⟨k + 1, by omega, by go_num, HJ2.out, by first | exact rfl | trivial⟩
        case measure => simp [intOf]; omega
    · have HF : Hid (findL xs x = -1) := by
        unfold Hid findL
        rw [if_neg (fun hm => by
          obtain ⟨j, hj, e⟩ := List.getElem_of_mem hm
          exact HJ.out j hj (by have := HN.out; omega) e)]
      obtain rfl : k = n := by omega
      go_wp2
      go_ret
      exact ⟨ret_int HF.out.symm, Since.refl _⟩
def nothingA : Aut := ⟨0, [false], [List.replicate 9 (-1)]⟩
set_option maxHeartbeats 2000000 in
set_option maxRecDepth 100000 in
theorem nothing_any (w : World) : Calls Try.prog 130 #[] w (AOut w nothingA) := by
  obtain ⟨y, hy⟩ : ∃ y, y = (w.alloc (.cells #[.int .i64 0, .slice none 0 0, .slice none 0 0] 39)).alloc (.cells #[] 3) := ⟨_, rfl⟩
  have hs0 : Since w y := by rw [hy]; exact ((Since.refl w).alloc _).alloc _
  have hz : y.heap.size = w.heap.size + 1 + 1 := by rw [hy]; simp
  have B0 : Hid (Blk y w.heap.size 39 #[.int .i64 0, .slice none 0 0, .slice none 0 0]) := by rw [hy]; exact (Blk.new rfl _ _).alloc _
  have HL0 : Hid (Own (w.heap.size + 1) y (.slice (some ⟨w.heap.size + 1, 0, none⟩) 0 0) (List.replicate 0 (-1))) := by
    unfold Hid
    rw [hy]
    have := own_lit (w.alloc (.cells #[.int .i64 0, .slice none 0 0, .slice none 0 0] 39)) (w.alloc (.cells #[.int .i64 0, .slice none 0 0, .slice none 0 0] 39)) (Since.refl _)
    simpa using this
  have HY := Lib.hid hy
  clear hy
  go_enter Try.func130, Try.ntmps130
  go_upto_region 3 with fail
  rw [← HY.out]
  go_loopw [1, 2] (fun q i wr => ∃ (k : Nat) (v1 : Value), k ≤ 9 ∧ i = .int .i64 k ∧ v1 = q ∧ Hid (Own (w.heap.size + 1) wr v1 (List.replicate k (-1))) ∧ Hid (Since w wr) ∧ Hid (Blk wr w.heap.size 39 #[.int .i64 0, .slice none 0 0, .slice none 0 0])) (fun _ i _ => 9 - (intOf i).toNat)
  case atStart => exact ⟨0, _, Nat.zero_le _, rfl, rfl, HL0.out, hs0, B0.out⟩
  case round =>
    obtain ⟨k, v1, hk, rfl, rfl, HO, HS, HB⟩ := hrel
    have hbl := HB.out.lt
    by_cases hlt : k < 9
    · have hki : (k : Int) < 9 := by omega
      have hOT : OwnNt 3 (w.heap.size + 1) wr v1 (List.replicate k (-1)) := HO.out
      have hb1 : w.heap.size + 1 ≤ wr.heap.size := by omega
      have hi1 : InI (-1) := by unfold InI; omega
      have hlen : (List.replicate k (-1 : Int)).length ≤ 4194304 := by simp; omega
      go_wp2_with (at_builtin; go_must (refine wpList_append_T rfl (.tmp 8) (.tmp 9) 24 3 rfl Try.underlying24 info_int (w.heap.size + 1) v1 (List.replicate k (-1)) (by first | rfl | simp [Act.eval]) hOT (-1) (by first | rfl | simp [Act.eval]) hi1 hlen hb1 ?_); intro v5 w5 ho5 hg5)
      have HO5 : Hid (Own (w.heap.size + 1) w5 v5 (List.replicate (k + 1) (-1))) := by
        unfold Hid; rw [List.replicate_succ']; exact ho5
      have HS5 : Hid (Since w w5) := HS.out.grown hg5 (fun j hj => by have := (HO.out.2.lt j hj).1; omega)
      have HB5 : Hid (Blk w5 w.heap.size 39 #[.int .i64 0, .slice none 0 0, .slice none 0 0]) := (hg5.block _ hbl (by intro e; have := (HO.out.2.lt _ e.symm).1; omega)).trans HB.out
      clear ho5 hg5 hOT
      go_roundw
      case rel => exact ⟨k + 1, v5, by omega, by go_num, rfl, HO5.out, HS5.out, HB5.out⟩
      case measure => simp [intOf]; omega
    · obtain rfl : k = 9 := by omega
      obtain ⟨g, cap, rfl, hg⟩ := own_block HO.out.2 (by simp)
      obtain ⟨wz, hwz⟩ : ∃ wz, wz = (((wr.setCell ⟨w.heap.size, 0, none⟩ (.int .i64 0)).setCell ⟨w.heap.size, 1, none⟩ (.slice (some ⟨wr.heap.size, 0, none⟩) 1 1)).setCell ⟨w.heap.size, 2, none⟩ (.slice (some ⟨wr.heap.size + 1, 0, none⟩) 1 1)) := ⟨_, rfl⟩
      have hzz : wz.heap.size = wr.heap.size := by rw [hwz]; simp
      have HOz : Hid (Own (w.heap.size + 1) wz (.slice (some ⟨g, 0, none⟩) 9 cap) (List.replicate 9 (-1))) := by
        have := HO.out
        rw [hwz]
        exact ((this.far (p := ⟨w.heap.size, 0, none⟩) (Nat.lt_succ_self _) _).far (p := ⟨w.heap.size, 1, none⟩) (Nat.lt_succ_self _) _).far (p := ⟨w.heap.size, 2, none⟩) (Nat.lt_succ_self _) _
      have HSz : Hid (Since w wz) := by
        rw [hwz]
        exact ((HS.out.setCell (Nat.le_refl _) _).setCell (Nat.le_refl _) _).setCell (Nat.le_refl _) _
      have HA : Hid (OwnA (w.heap.size + 1) (wr.heap.size + 2) ((wz.alloc (.cells #[.bool false] 4)).alloc (.cells #[.slice (some ⟨g, 0, none⟩) 9 cap] 24)) (.agg #[.int .i64 0, .slice (some ⟨wr.heap.size, 0, none⟩) 1 1, .slice (some ⟨wr.heap.size + 1, 0, none⟩) 1 1]) nothingA) := by
        have k1 : Since wz (wz.alloc (.cells #[.bool false] 4)) := (Since.refl _).alloc _
        have k2 : Since (wz.alloc (.cells #[.bool false] 4)) ((wz.alloc (.cells #[.bool false] 4)).alloc (.cells #[.slice (some ⟨g, 0, none⟩) 9 cap] 24)) := (Since.refl _).alloc _
        have o1 : OwnBo (w.heap.size + 1) (wz.alloc (.cells #[.bool false] 4)) (.slice (some ⟨wr.heap.size, 0, none⟩) 1 1) [false] := by
          rw [← hzz]
          exact World.ownsRow_lit wz #[.bool false] 1 (by omega) (by unfold maxLen; omega) rfl
        have o2 := World.ownsRow_lit (e := 24) (size := 1) (base := w.heap.size + 1) (wz.alloc (.cells #[.bool false] 4)) #[.slice (some ⟨g, 0, none⟩) 9 cap] 1 (by simp; omega) (by unfold maxLen; omega) rfl
        have hz1 : (wz.alloc (.cells #[.bool false] 4)).heap.size = wr.heap.size + 1 := by simp [hzz]
        rw [hz1] at o2
        have o3 := (HOz.out.since k1).since k2
        have l3 := o3.2.lt
        refine ⟨_, _, rfl, by unfold InI; simp [nothingA], o1.since k2, fun q hq => ?_, [_], o2, rfl, fun q hq => ?_, fun i hi hx => ?_, fun i j hi hj hne => ?_⟩
        · simp [Value.ownBlock] at hq; omega
        · simp [Value.ownBlock] at hq; omega
        · obtain rfl : i = 0 := by simpa using hi
          refine ⟨o3, fun q hq => ?_⟩
          have := l3 q hq
          simp at this; omega
        · simp at hi hj; omega
      obtain ⟨⟨r0, r1, r2⟩, r3, r4, r5⟩ := HB.out.threeA
      go_wp2
      refine bodyPost_ret (v := .agg #[.int .i64 0, .slice (some ⟨wr.heap.size, 0, none⟩) 1 1, .slice (some ⟨wr.heap.size + 1, 0, none⟩) 1 1]) (by simp [results, Try.results130, go_sem, *]) rfl ?_
      rw [← hwz]
      refine ⟨_, rfl, ?_, (HSz.out.alloc _).alloc _⟩
      refine OwnA.wider (lo := w.heap.size + 1) (hi := wr.heap.size + 2) HA.out (by omega) (by simp [hzz])
end Go.Proofs.Ytmaagihfjldgeaa

/- The state of the model's numbering: what it holds, round by round. -/
namespace Go.Proofs.Ytmaagihfjldgeaa
set_option maxRecDepth 100000
open Go.ChangeShapes Go.WideShapes Go.ChangeAt Go.RowKit Go.Maps
set_option linter.unusedVariables false
set_option linter.unusedSimpArgs false

theorem blk_keep {base g : Nat} {w w' : World} {t : TypeId} {cs : Array Value} {row : Option Nat} (h : Blk w g t cs) (k : w.grownBy w' row) (hr : ∀ q, row = some q → base ≤ q) (hg : g < base) : Blk w' g t cs :=
  (k.block g h.lt (by intro e; have := hr g e.symm; omega)).trans h
theorem RowsO.add {base : Nat} {w : World} {no : Value} {xs : List (List Int)} {av : List Value} (h : RowsO base w no xs av) {u : Value} (hu : ∀ g, u.ownBlock = some g → w.heap.size ≤ g) : RowsO base w no xs (u :: av) := by
  obtain ⟨ps, h1, h2, h3, h4, h5⟩ := h
  refine ⟨ps, h1, h2, h3, h4, fun i hi z hz => ?_⟩
  rcases List.mem_cons.1 hz with hz | hz
  · subst hz
    cases e : (ps[i]).ownBlock with
    | none => exact .inl e
    | some q => exact .inr fun e2 => by rw [e] at e2; have := ((h3 i hi (by omega)).2.lt q e).2; have := hu q e2.symm; omega
  · exact h5 i hi z hz
/-- Between the rounds. -/
structure NmO (w : World) (CS : Array Value) (wr : World) (ov rv bv nv : Value) (os rs : List Int) (bs : List Bool) (xs : List (List Int)) : Prop where
  so : Own (w.heap.size + 3) wr ov os
  sr : Own (w.heap.size + 3) wr rv rs
  ap : Apart ov rv
  sb : OwnBo (w.heap.size + 3) wr bv bs
  sn : RowsO (w.heap.size + 3) wr nv xs [ov, rv]
  bx : Blk wr (w.heap.size + 2) 39 #[.int .i64 0, bv, nv]
  b0 : Blk wr w.heap.size 39 CS
  b1 : Blk wr (w.heap.size + 1) 39 #[.int .i64 0, nilS, nilS]
  sc : Since w wr
/-- In a round: with the row under way. -/
structure NmT (w : World) (CS : Array Value) (wr : World) (ov rv bv nv tv : Value) (os rs : List Int) (bs : List Bool) (xs : List (List Int)) (ts : List Int) : Prop where
  so : Own (w.heap.size + 3) wr ov os
  sr : Own (w.heap.size + 3) wr rv rs
  st : Own (w.heap.size + 3) wr tv ts
  ap : Apart ov rv
  a1 : Apart ov tv
  a2 : Apart rv tv
  sb : OwnBo (w.heap.size + 3) wr bv bs
  sn : RowsO (w.heap.size + 3) wr nv xs [ov, rv, tv]
  bx : Blk wr (w.heap.size + 2) 39 #[.int .i64 0, bv, nv]
  b0 : Blk wr w.heap.size 39 CS
  b1 : Blk wr (w.heap.size + 1) 39 #[.int .i64 0, nilS, nilS]
  sc : Since w wr
section
variable {w wr w' : World} {CS : Array Value} {ov rv bv nv tv : Value} {os rs ts : List Int} {bs : List Bool} {xs : List (List Int)}
theorem NmO.lt (h : NmO w CS wr ov rv bv nv os rs bs xs) : w.heap.size + 3 ≤ wr.heap.size := h.bx.lt
theorem NmT.lt (h : NmT w CS wr ov rv bv nv tv os rs bs xs ts) : w.heap.size + 3 ≤ wr.heap.size := h.bx.lt
theorem NmT.since (h : NmT w CS wr ov rv bv nv tv os rs bs xs ts) (k : Since wr w') : NmT w CS w' ov rv bv nv tv os rs bs xs ts :=
  ⟨h.so.since k, h.sr.since k, h.st.since k, h.ap, h.a1, h.a2, h.sb.since k, h.sn.since k, h.bx.since k, h.b0.since k, h.b1.since k, h.sc.trans k⟩
/-- A new, empty row. -/
theorem NmO.begin (h : NmO w CS wr ov rv bv nv os rs bs xs) : NmT w CS (wr.alloc (.cells #[] 3)) ov rv bv nv (.slice (some ⟨wr.heap.size, 0, none⟩) 0 0) os rs bs xs [] := by
  have k : Since wr (wr.alloc (.cells #[] 3)) := (Since.refl _).alloc _
  have hl := h.lt
  have key : ∀ (v : Value) (l : List Int), Own (w.heap.size + 3) wr v l → Apart v (.slice (some ⟨wr.heap.size, 0, none⟩) 0 0) := fun v l hv => by
    cases e : v.ownBlock with
    | none => exact .inl e
    | some q => exact .inr fun e2 => by rw [e] at e2; simp [Value.ownBlock] at e2; have := (hv.2.lt q e).2; omega
  have hn := h.sn.add (u := .slice (some ⟨wr.heap.size, 0, none⟩) 0 0) (fun g e => by simp [Value.ownBlock] at e; omega)
  exact ⟨h.so.since k, h.sr.since k, ⟨fun x hx => by simp at hx, World.ownsRow_lit wr #[] 0 hl (Nat.zero_le _) rfl⟩, h.ap, key _ _ h.so, key _ _ h.sr, h.sb.since k,
    (hn.fewer (fun u hu => by simp at hu ⊢; rcases hu with hu | hu | hu <;> simp [hu])).since k, h.bx.since k, h.b0.since k, h.b1.since k, h.sc.trans k⟩
theorem ints_keep {base : Nat} {v o : Value} {l zs : List Int} (h : Own base wr v l) (k : wr.grownBy w' o.ownBlock) (ha : Apart v o) : Own base w' v l := h.grownX k ha
theorem own_ltX {base : Nat} {v : Value} {l : List Int} (h : Own base wr v l) : ∀ g, v.ownBlock = some g → g < wr.heap.size := fun g e => (h.2.lt g e).2
theorem bools_keep {base : Nat} {v o : Value} {l : List Bool} {zs : List Int} (h : OwnBo base wr v l) (k : wr.grownBy w' o.ownBlock) (ho : Own base wr o zs) : OwnBo base w' v l :=
  World.ownsRow.kept h k (apart_types (a := v) (b := o) h ho.2 (by decide))
theorem NmT.ord (h : NmT w CS wr ov rv bv nv tv os rs bs xs ts) {ov' : Value} {os' : List Int} (ho : Own (w.heap.size + 3) w' ov' os') (k : wr.grownBy w' ov.ownBlock) (hn : NewB wr ov ov') : NmT w CS w' ov' rv bv nv tv os' rs bs xs ts := by
  have hr : ∀ q, ov.ownBlock = some q → w.heap.size + 3 ≤ q := fun q e => (h.so.2.lt q e).1
  refine ⟨ho, h.sr.grownX k h.ap.symm, h.st.grownX k h.a1.symm, (h.ap.symm.newB hn (own_ltX h.sr)).symm, (h.a1.symm.newB hn (own_ltX h.st)).symm, h.a2, bools_keep h.sb k h.so, h.sn.int k h.so (by simp) (fun u hu => ?_), blk_keep h.bx k hr (by omega), blk_keep h.b0 k hr (by omega), blk_keep h.b1 k hr (by omega), h.sc.grown k (fun j hj => by have := hr j hj; omega)⟩
  simp at hu
  rcases hu with hu | hu | hu
  · subst hu; exact .inr hn
  · left; simp [hu]
  · left; simp [hu]
theorem NmT.rep (h : NmT w CS wr ov rv bv nv tv os rs bs xs ts) {rv' : Value} {rs' : List Int} (ho : Own (w.heap.size + 3) w' rv' rs') (k : wr.grownBy w' rv.ownBlock) (hn : NewB wr rv rv') : NmT w CS w' ov rv' bv nv tv os rs' bs xs ts := by
  have hr : ∀ q, rv.ownBlock = some q → w.heap.size + 3 ≤ q := fun q e => (h.sr.2.lt q e).1
  refine ⟨h.so.grownX k h.ap, ho, h.st.grownX k h.a2.symm, h.ap.newB hn (own_ltX h.so), h.a1, (h.a2.symm.newB hn (own_ltX h.st)).symm, bools_keep h.sb k h.sr, h.sn.int k h.sr (by simp) (fun u hu => ?_), blk_keep h.bx k hr (by omega), blk_keep h.b0 k hr (by omega), blk_keep h.b1 k hr (by omega), h.sc.grown k (fun j hj => by have := hr j hj; omega)⟩
  simp at hu
  rcases hu with hu | hu | hu
  · left; simp [hu]
  · subst hu; exact .inr hn
  · left; simp [hu]
theorem NmT.row (h : NmT w CS wr ov rv bv nv tv os rs bs xs ts) {tv' : Value} {ts' : List Int} (ho : Own (w.heap.size + 3) w' tv' ts') (k : wr.grownBy w' tv.ownBlock) (hn : NewB wr tv tv') : NmT w CS w' ov rv bv nv tv' os rs bs xs ts' := by
  have hr : ∀ q, tv.ownBlock = some q → w.heap.size + 3 ≤ q := fun q e => (h.st.2.lt q e).1
  refine ⟨h.so.grownX k h.a1, h.sr.grownX k h.a2, ho, h.ap, h.a1.newB hn (own_ltX h.so), h.a2.newB hn (own_ltX h.sr), bools_keep h.sb k h.st, h.sn.int k h.st (by simp) (fun u hu => ?_), blk_keep h.bx k hr (by omega), blk_keep h.b0 k hr (by omega), blk_keep h.b1 k hr (by omega), h.sc.grown k (fun j hj => by have := hr j hj; omega)⟩
  simp at hu
  rcases hu with hu | hu | hu
  · left; simp [hu]
  · left; simp [hu]
  · subst hu; exact .inr hn
theorem boolT {base : Nat} {bv : Value} {bs : List Bool} (hb : OwnBo base wr bv bs) : ∀ q, bv.ownBlock = some q → ∀ cs t fz, wr.heap[q]? = some (.cells cs t fz) → t ≠ 3 ∧ t ≠ 24 := fun q e cs t fz hq => by
  obtain ⟨cs2, fz2, hq2⟩ := own_block_of hb q e
  rw [hq] at hq2
  injection hq2 with hq2
  injection hq2 with _ hq2 _
  subst hq2
  exact ⟨by decide, by decide⟩
/-- The truth values have grown and are laid into the box. -/
theorem NmT.acc (h : NmT w CS wr ov rv bv nv tv os rs bs xs ts) {bv' : Value} {bs' : List Bool} (ho : OwnBo (w.heap.size + 3) w' bv' bs') (k : wr.grownBy w' bv.ownBlock) : NmT w CS (w'.setCell ⟨w.heap.size + 2, 1, none⟩ bv') ov rv bv' nv tv os rs bs' xs ts := by
  have hr : ∀ q, bv.ownBlock = some q → w.heap.size + 3 ≤ q := fun q e => (World.ownsRow.lt h.sb q e).1
  have hl := h.lt
  have ki : ∀ (v : Value) (l : List Int), Own (w.heap.size + 3) wr v l → Own (w.heap.size + 3) (w'.setCell ⟨w.heap.size + 2, 1, none⟩ bv') v l := fun v l hv =>
    (hv.grownX k (apart_types hv.2 h.sb (by decide))).far (p := ⟨w.heap.size + 2, 1, none⟩) (by show w.heap.size + 2 < w.heap.size + 3; omega) _
  have kx := blk_keep h.bx k hr (by omega)
  have hn : RowsO (w.heap.size + 3) w' nv xs [ov, rv, tv] := h.sn.other k (boolT h.sb)
  refine ⟨ki _ _ h.so, ki _ _ h.sr, ki _ _ h.st, h.ap, h.a1, h.a2, ho.far (p := ⟨w.heap.size + 2, 1, none⟩) (by show w.heap.size + 2 < w.heap.size + 3; omega) _, hn.other (grown_set w' (w.heap.size + 2) 1 bv') (fun q e cs t fz hq => ?_), kx.set 1 _, (blk_keep h.b0 k hr (by omega)).far (by show w.heap.size ≠ w.heap.size + 2; omega) _, (blk_keep h.b1 k hr (by omega)).far (by show w.heap.size + 1 ≠ w.heap.size + 2; omega) _, (h.sc.grown k (fun j hj => by have := hr j hj; omega)).setCell (by show w.heap.size ≤ w.heap.size + 2; omega) _⟩
  injection e with e
  subst e
  rw [kx] at hq
  injection hq with hq
  injection hq with _ hq _
  subst hq
  exact ⟨by decide, by decide⟩
/-- The row is laid into the rows, and they into the box. -/
theorem NmT.fin (h : NmT w CS wr ov rv bv nv tv os rs bs xs ts) {nv' : Value} (ho : ∀ ps, ps.length = xs.length → wr.ownsRow (w.heap.size + 3) 24 1 nv xs.length ps → w'.ownsRow (w.heap.size + 3) 24 1 nv' (xs.length + 1) (ps ++ [tv])) (k : wr.grownBy w' nv.ownBlock) : NmO w CS (w'.setCell ⟨w.heap.size + 2, 2, none⟩ nv') ov rv bv nv' os rs bs (xs ++ [ts]) := by
  have hr : ∀ q, nv.ownBlock = some q → w.heap.size + 3 ≤ q := fun q e => (h.sn.lt q e).1
  obtain ⟨ps0, p1, _⟩ := h.sn
  have hl := h.lt
  have ki : ∀ (v : Value) (l : List Int), Own (w.heap.size + 3) wr v l → Own (w.heap.size + 3) (w'.setCell ⟨w.heap.size + 2, 2, none⟩ nv') v l := fun v l hv =>
    (hv.grownX k (apart_types hv.2 p1 (by decide))).far (p := ⟨w.heap.size + 2, 2, none⟩) (by show w.heap.size + 2 < w.heap.size + 3; omega) _
  have kx := blk_keep h.bx k hr (by omega)
  have hn : RowsO (w.heap.size + 3) w' nv' (xs ++ [ts]) [ov, rv] := h.sn.push (p := tv) (by simp) h.st ho k (fun u hu => by
    simp at hu
    rcases hu with hu | hu
    · subst hu; exact ⟨by simp, h.a1.symm⟩
    · subst hu; exact ⟨by simp, h.a2.symm⟩)
  have hb2 : OwnBo (w.heap.size + 3) w' bv bs := World.ownsRow.kept h.sb k (apart_types (a := bv) (b := nv) h.sb p1 (by decide))
  refine ⟨ki _ _ h.so, ki _ _ h.sr, h.ap, hb2.far (p := ⟨w.heap.size + 2, 2, none⟩) (by show w.heap.size + 2 < w.heap.size + 3; omega) _, hn.other (grown_set w' (w.heap.size + 2) 2 nv') (fun q e cs t fz hq => ?_), kx.set 2 _, (blk_keep h.b0 k hr (by omega)).far (by show w.heap.size ≠ w.heap.size + 2; omega) _, (blk_keep h.b1 k hr (by omega)).far (by show w.heap.size + 1 ≠ w.heap.size + 2; omega) _, (h.sc.grown k (fun j hj => by have := hr j hj; omega)).setCell (by show w.heap.size ≤ w.heap.size + 2; omega) _⟩
  injection e with e
  subst e
  rw [kx] at hq
  injection hq with hq
  injection hq with _ hq _
  subst hq
  exact ⟨by decide, by decide⟩
theorem NmO.done (h : NmO w CS wr ov rv bv nv os rs bs xs) : OwnA (w.heap.size + 3) wr.heap.size wr (.agg #[.int .i64 0, bv, nv]) ⟨0, bs, xs⟩ :=
  ⟨_, _, rfl, by unfold InI; simp, h.sb, OwnBo.inR h.sb, h.sn.done (Nat.le_refl _)⟩
end
end Go.Proofs.Ytmaagihfjldgeaa
