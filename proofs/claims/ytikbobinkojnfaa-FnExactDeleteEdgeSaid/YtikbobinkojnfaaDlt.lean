/- slices.Delete of one edge, in place. -/
import Derived.Test.YtikbobinkojnfaaDel
import Derived.Test.YtikbobinkojnfaaGB
import Derived.Deep.RegionLaw
import Derived.Lib.SliceRun
namespace Go.Proofs.Ytikbobinkojnfaa
open Go.ChangeShapes Go.WideShapes Go.ChangeAt Go.RowKit
set_option linter.unusedVariables false
set_option linter.unusedSimpArgs false

/-- Cells of a block written one after the other. -/
theorem Blk.sets {g : Nat} {t : TypeId} : ∀ (vs : List Value) (o : Nat) (w : World) (cur : Array Value), Blk w g t cur → ∃ cur', Blk (w.setCells g o vs) g t cur' ∧ cur'.size = cur.size ∧
    (∀ j, j < o ∨ o + vs.length ≤ j → cur'[j]? = cur[j]?) ∧ (∀ j, j < vs.length → o + j < cur.size → cur'[o + j]? = vs[j]?)
  | [], o, w, cur, h => ⟨cur, h, rfl, fun _ _ => rfl, fun j hj => by simp at hj⟩
  | v :: r, o, w, cur, h => by
    obtain ⟨cur', h1, h2, h3, h4⟩ := Blk.sets r (o + 1) (w.setCell ⟨g, o, none⟩ v) _ (h.set o v)
    refine ⟨cur', h1, by rw [h2]; simp, fun j hj => ?_, fun j hj hs => ?_⟩
    · rw [List.length_cons] at hj
      rw [h3 j (by omega), Array.getElem?_setIfInBounds_ne (by omega)]
    · cases j with
      | zero =>
        rw [h3 (o + 0) (by omega), Nat.add_zero, Array.getElem?_setIfInBounds_self_of_lt (by omega)]; rfl
      | succ j =>
        rw [List.length_cons] at hj
        rw [show o + (j + 1) = o + 1 + j from by omega, h4 j (by omega) (by simp; omega)]; rfl
theorem grown_sets (g : Nat) : ∀ (vs : List Value) (o : Nat) (w : World), w.grownBy (w.setCells g o vs) (some g)
  | [], _, w => World.grownBy.refl w _
  | v :: r, o, w => by
    have h := grown_sets g r (o + 1) (w.setCell ⟨g, o, none⟩ v)
    have k := Within.cell w ⟨g, o, none⟩ v
    exact ⟨h.os.trans k.os, h.tape.trans k.tape, h.output.trans k.output, Nat.le_trans k.size h.size, fun i hi hn => (h.block i (Nat.lt_of_lt_of_le hi k.size) hn).trans (k.block i hi (by simp only; have : i ≠ g := fun e => hn (by rw [e]); omega))⟩
theorem run_clear_edge (w : World) (ty : TypeId) (b o n c : Nat) (hn : n = 1) (hc : ∀ j, j < 4 → (w.cell? ⟨b, o + j, none⟩).isSome = true) (hf : ∀ j, j < 4 → w.frozen? ⟨b, o + j, none⟩ = false) :
    (Builtin.clear_ #[28] ty #[.slice (some ⟨b, o, none⟩) n c]).run Try.prog w = .ok (.tuple #[]) (w.setCells b o [.int .i64 0, .int .i64 0, .int .i64 0, .int .i64 0]) := by
  subst hn
  have hz : ∀ w, (zeroValue 40).run Try.prog w = .ok (ev zeroE) w := fun w => by
    obtain ⟨i0, hi, h0, _, _⟩ := info_parts info_edge
    simp [zeroValue, typeInfo, hi, h0]
  have hzc : (Builtin.zeroCells (ev zeroE).cells 1).toList = [.int .i64 0, .int .i64 0, .int .i64 0, .int .i64 0] := by kernel_rfl
  have hst := run_storeCells_cells (P := Try.prog) b o [.int .i64 0, .int .i64 0, .int .i64 0, .int .i64 0] 0 w (by simpa using hc) (by simpa using hf) (by intro v hv; simp at hv; subst hv; rfl)
  simp only [Nat.add_zero] at hst
  simp [Builtin.clear_, run_underlying Try.underlying28, hz, hzc, hst]
def DelOut (w : World) (base g cap p : Nat) (ys : List Edg) (e : Ending) (w' : World) : Prop := e = .returned (.slice (some ⟨g, 0, none⟩) p cap) ∧ OwnE base w' (.slice (some ⟨g, 0, none⟩) p cap) ys ∧ w.grownBy w' (some g)
theorem delL_cells (xs : List Edg) (k : Nat) : ecells (delL xs k) = (ecells xs).take (k * 4) ++ (ecells xs).drop ((k + 1) * 4) := by
  unfold delL
  rw [ecells_append, ecells_take, ecells_drop]
theorem delL_length (xs : List Edg) (k p : Nat) (hk : k < xs.length) (hp : p + 1 = xs.length) : (delL xs k).length = p := by unfold delL; simp; omega
theorem delL_in {xs : List Edg} (h : ∀ x ∈ xs, x.In) (k : Nat) : ∀ x ∈ delL xs k, x.In := by
  intro x hx
  unfold delL at hx
  rcases List.mem_append.1 hx with h1 | h1
  · exact h x (List.mem_of_mem_take h1)
  · exact h x (List.mem_of_mem_drop h1)

set_option maxHeartbeats 1000000 in
set_option maxRecDepth 100000 in
theorem slicesDelete_any (xs : List Edg) (base g cap k p n : Nat) (w : World) (hn : n = xs.length) (h : OwnE base w (.slice (some ⟨g, 0, none⟩) n cap) xs) (hk : k < n) (hp : p + 1 = n) (hl : n ≤ 1048577) :
    Calls Try.prog 50 #[.slice (some ⟨g, 0, none⟩) n cap, .int .i64 k, .int .i64 ((k : Int) + 1)] w (DelOut w base g cap p (delL xs k)) := by
  obtain ⟨hin, hlen, hrow⟩ := h
  rcases hrow with ⟨h0, _⟩ | ⟨g', cap', cur, e, hb, hg, hnc, hcm, hcs, hct⟩
  · cases h0
  injection e with e1 e0 e2
  clear e0
  injection e1 with e1; injection e1 with e1
  subst e1; subst e2
  rw [← hn] at hnc hct
  have hblk : Blk w g 40 cur := hg
  obtain ⟨i0, hi0, hz0, hz1, hz2⟩ := info_parts info_edge
  -- the cells that are moved
  obtain ⟨q, hq⟩ : ∃ q, q = n - (k + 1) := ⟨_, rfl⟩
  obtain ⟨news, hnews⟩ : ∃ news, news = (ecells xs).drop ((k + 1) * 4) := ⟨_, rfl⟩
  have hnl : news.length = q * 4 := by rw [hnews, List.length_drop, ecells_length]; omega
  have hcell : ∀ j, j < n * 4 → cur[j]? = (ecells xs)[j]? := by
    intro j hj
    rw [← hct, List.getElem?_take, if_pos hj, Array.getElem?_toList]
  obtain ⟨A, hA, hsrc⟩ : ∃ A : Addr, (if cap = k + 1 then some (⟨g, 0, none⟩ : Addr) else some ⟨g, (k + 1) * 4, none⟩) = some A ∧ Hid (∀ t u, news[t]? = some u → w.drew.cell? (A.add t) = some u) := by
    by_cases hc : cap = k + 1
    · refine ⟨⟨g, 0, none⟩, by simp [hc], fun t u hu => ?_⟩
      have : news.length = 0 := by omega
      rw [List.length_eq_zero_iff.1 this] at hu
      simp at hu
    · refine ⟨⟨g, (k + 1) * 4, none⟩, by simp [hc], fun t u hu => ?_⟩
      have ht : t < news.length := (List.getElem?_eq_some_iff.1 hu).1
      rw [add_plain]
      show w.cell? ⟨g, (k + 1) * 4 + t, none⟩ = some u
      rw [hblk.cell, hcell _ (by omega)]
      rw [hnews, List.getElem?_drop] at hu
      exact hu
  have s1 := Lib.hid hnl
  have s2 : Hid (∀ u ∈ news, u.oneCell' = true) := fun u hu => by rw [hnews] at hu; exact ecells_oneCell xs u (List.mem_of_mem_drop hu)
  have s3 : Hid (∀ t, t < news.length → (w.drew.cell? ⟨g, 0 + k * 4 + t, none⟩).isSome = true ∧ w.drew.frozen? ⟨g, 0 + k * 4 + t, none⟩ = false) := by
    intro t ht
    refine ⟨?_, hblk.frozen _⟩
    show (w.cell? _).isSome = true
    rw [hblk.cell, Array.getElem?_eq_getElem (by omega)]; rfl
  obtain ⟨cur1, hb1, hc1, hc2, hc3⟩ := Blk.sets news (0 + k * 4) w.drew cur hblk.drew
  have hgr1 := grown_sets g news (0 + k * 4) w.drew
  obtain ⟨W1, hW1⟩ : ∃ W1, W1 = w.drew.setCells g (0 + k * 4) news := ⟨_, rfl⟩
  rw [← hW1] at hb1 hgr1
  have hcl : ∀ ty c, (Builtin.clear_ #[28] ty #[.slice (some ⟨g, p * 4, none⟩) 1 c]).run Try.prog W1 = .ok (.tuple #[]) (W1.setCells g (p * 4) [.int .i64 0, .int .i64 0, .int .i64 0, .int .i64 0]) :=
    fun ty c => run_clear_edge W1 ty g (p * 4) 1 c rfl (fun j hj => by rw [hb1.cell, Array.getElem?_eq_getElem (by omega)]; rfl) (fun j _ => hb1.frozen _)
  obtain ⟨cur2, hb2, hd1, hd2, hd3⟩ := Blk.sets [.int .i64 0, .int .i64 0, .int .i64 0, .int .i64 0] (p * 4) W1 cur1 hb1
  have hgr2 := grown_sets g [.int .i64 0, .int .i64 0, .int .i64 0, .int .i64 0] (p * 4) W1
  have HF : Hid (OwnE base (W1.setCells g (p * 4) [.int .i64 0, .int .i64 0, .int .i64 0, .int .i64 0]) (.slice (some ⟨g, 0, none⟩) p cap) (delL xs k) ∧ w.grownBy (W1.setCells g (p * 4) [.int .i64 0, .int .i64 0, .int .i64 0, .int .i64 0]) (some g)) := by
    refine ⟨⟨delL_in hin k, ?_⟩, ⟨hgr2.os.trans hgr1.os, hgr2.tape.trans hgr1.tape, hgr2.output.trans hgr1.output, Nat.le_trans hgr1.size hgr2.size, fun i hi hn => (hgr2.block i (Nat.lt_of_lt_of_le hi hgr1.size) hn).trans (hgr1.block i hi hn)⟩⟩
    rw [delL_length xs k p (by omega) (by omega)]
    refine ⟨by rw [ecells_length, delL_length xs k p (by omega) (by omega)], .inr ⟨g, cap, cur2, rfl, hb, hb2, by omega, hcm, by omega, ?_⟩⟩
    rw [delL_cells]
    apply List.ext_getElem?
    intro j
    rw [List.getElem?_take]
    have hel := ecells_length xs
    by_cases hj : j < p * 4
    · rw [if_pos hj, Array.getElem?_toList, hd2 j (.inl hj)]
      by_cases hjk : j < k * 4
      · rw [hc2 j (.inl (by omega)), hcell j (by omega), List.getElem?_append_left (by rw [List.length_take]; omega), List.getElem?_take, if_pos hjk]
      · have hnq : j - k * 4 < news.length := by omega
        have := hc3 (j - k * 4) hnq (by show 0 + k * 4 + (j - k * 4) < cur.size; omega)
        rw [show 0 + k * 4 + (j - k * 4) = j from by omega] at this
        rw [this, List.getElem?_append_right (by rw [List.length_take]; omega), List.length_take, show min (k * 4) (ecells xs).length = k * 4 from by omega, ← hnews]
    · rw [if_neg hj, List.getElem?_eq_none (by rw [List.length_append, List.length_take, List.length_drop]; omega)]
  have hW : Hid (W1 = w.drew.setCells g (0 + k * 4) news) := hW1
  have hkq : Hid (k + q = p) := by unfold Hid; omega
  have hnq : n - (k + 1) = q := hq.symm
  have hnp : n - p = 1 := by omega
  have hcp : ¬ cap = p := by omega
  have hkc : k ≤ cap := by omega
  have hkc2 : k + 1 ≤ cap := by omega
  have hkn : k + 1 ≤ n := by omega
  have ik0 : (0 : Int) ≤ (k : Int) := by omega
  have ik1 : (k : Int) ≤ (cap : Int) := by omega
  have ik2 : (0 : Int) ≤ (k : Int) + 1 := by omega
  have ik3 : (k : Int) + 1 ≤ (n : Int) := by omega
  have ik4 : (n : Int) ≤ (cap : Int) := by omega
  have ik5 : (k : Int) ≤ (k : Int) + 1 := by omega
  have ip0 : (0 : Int) ≤ (p : Int) := by omega
  have ip1 : (p : Int) ≤ (n : Int) := by omega
  have hpc : p ≤ cap := by omega
  have hpn : p ≤ n := by omega
  have hqc : k + q ≤ cap := by omega
  have hne : ((k : Int) == (k : Int) + 1) = false := by simp; omega
  have hQ := Lib.hid hq
  have hHP := Lib.hid hp
  clear hq hW1 hb1 hgr1 hc1 hc2 hc3 hb2 hd1 hd2 hd3 hgr2 hcell hnews hnl hblk hg hcs hct hlen hin hn hp hcm hk hb
  go_enter Try.func50, Try.ntmps50
  go_wp2_with fail
  go_region_law (refine step_append_room rfl (.tmp 22) (.tmp 25) 28 rfl 40 i0 4 Try.underlying28 hi0 hz1 g 0 k cap (by simp [Act.eval, Act.put]) A q (cap - (k + 1)) news (by simp [Act.eval, Act.put]) s1.out hsrc.out s2.out hqc s3.out ?_; rw [← hW.out]; rw [hkq.out])
  go_wp2
  go_ret
  exact ⟨rfl, HF.out⟩
end Go.Proofs.Ytikbobinkojnfaa
