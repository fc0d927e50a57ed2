/- slices.Delete of the first graphs, in place; removeOldest. -/
import Derived.Test.YtgdeiecbkmhbeaaHci
import Derived.Test.YtgdeiecbkmhbeaaK3
namespace Go.Proofs.Ytgdeiecbkmhbeaa
set_option maxRecDepth 100000
open Go.ChangeShapes Go.WideShapes Go.ChangeAt Go.RowKit
set_option linter.unusedVariables false
set_option linter.unusedSimpArgs false

theorem zerosG_length (n : Nat) : (Builtin.zeroCells (Value.agg #[nilV, nilV]).cells n).toList.length = n * 2 := by
  simp [Builtin.zeroCells, Value.cells]
theorem zerosG_one (n : Nat) : ∀ u ∈ (Builtin.zeroCells (Value.agg #[nilV, nilV]).cells n).toList, u.oneCell' = true := by
  intro u hu
  have e : (Value.agg #[nilV, nilV]).cells = #[nilV, nilV] := rfl
  rw [e] at hu
  simp [Builtin.zeroCells] at hu
  obtain ⟨i, _, rfl⟩ := hu
  have hi : i % 2 = 0 ∨ i % 2 = 1 := by omega
  rcases hi with h | h <;> rw [h] <;> rfl
theorem run_clear_graphs (w : World) (ty : TypeId) (b o n c : Nat) (hn1 : 1 ≤ n) (hc : ∀ j, j < n * 2 → (w.cell? ⟨b, o + j, none⟩).isSome = true) (hf : ∀ j, j < n * 2 → w.frozen? ⟨b, o + j, none⟩ = false) :
    (Builtin.clear_ #[24] ty #[.slice (some ⟨b, o, none⟩) n c]).run Try.prog w = .ok (.tuple #[]) (w.setCells b o (Builtin.zeroCells (Value.agg #[nilV, nilV]).cells n).toList) := by
  have hz : ∀ w, (zeroValue 39).run Try.prog w = .ok (.agg #[nilV, nilV]) w := fun w => by
    obtain ⟨i0, hi, h0, _, _⟩ := info_parts info_graph
    simp [zeroValue, typeInfo, hi, h0]
  have hzl := zerosG_length n
  have hst := run_storeCells_cells (P := Try.prog) b o (Builtin.zeroCells (Value.agg #[nilV, nilV]).cells n).toList 0 w (by
    intro j hj
    rw [hzl] at hj
    simpa using hc j hj) (by
    intro j hj
    rw [hzl] at hj
    simpa using hf j hj) (zerosG_one n)
  simp only [Nat.add_zero] at hst
  obtain ⟨m, rfl⟩ : ∃ m, n = m + 1 := ⟨n - 1, by omega⟩
  simp [Builtin.clear_, run_underlying Try.underlying24, hz, hst]
def DelGOut (w : World) (base g cap q : Nat) (ps : List (Value × Value)) (e : Ending) (w' : World) : Prop :=
  e = .returned (.slice (some ⟨g, 0, none⟩) q cap) ∧ w'.ownsRow base 39 2 (.slice (some ⟨g, 0, none⟩) q cap) q (gcells ps) ∧ w.grownBy w' (some g)
theorem nest_one {w : World} : ∀ {lo hi : Nat} {ps : List (Value × Value)} {gs : List Grf}, Nest w lo hi ps gs → ∀ u ∈ gcells ps, u.oneCell' = true
  | lo, hi, [], [], _, u, hu => by simp [gcells] at hu
  | lo, hi, p :: ps, g :: gs, ⟨m, _, _, ⟨a, b, e, ka, _, kb, _⟩, h4⟩, u, hu => by
    have e2 : gcells (p :: ps) = [p.1, p.2] ++ gcells ps := by simp [gcells, gcs]
    rw [e2] at hu
    rcases List.mem_append.1 hu with hu | hu
    · injection e with e; injection e with e; injection e with e1 e2; injection e2 with e2 _
      obtain ⟨ao, ac, ha⟩ := ka.len
      obtain ⟨bo, bc, hb⟩ := kb.len
      simp at hu
      rcases hu with rfl | rfl
      · rw [e1, ha]; rfl
      · rw [e2, hb]; rfl
    · exact nest_one h4 u hu
  | _, _, [], _ :: _, h, _, _ => h.elim
  | _, _, _ :: _, [], h, _, _ => h.elim
theorem gcells_drop (ps : List (Value × Value)) (c : Nat) : gcells (ps.drop c) = (gcells ps).drop (c * 2) := (fcells_drop gcs_len ps c).symm
set_option maxHeartbeats 1000000 in
set_option maxRecDepth 100000 in
theorem slicesDeleteG_any (ps : List (Value × Value)) (base g cap n c q : Nat) (w : World) (hn : n = ps.length) (h : w.ownsRow base 39 2 (.slice (some ⟨g, 0, none⟩) n cap) n (gcells ps)) (hone : ∀ u ∈ gcells ps, u.oneCell' = true) (hq : q + c = n) (hl : n ≤ 1048577) :
    Calls Try.prog 106 #[.slice (some ⟨g, 0, none⟩) n cap, .int .i64 0, .int .i64 c] w (DelGOut w base g cap q (ps.drop c)) := by
  have hrow0 := Lib.hid h
  obtain ⟨hlen, hrow⟩ := h
  rcases hrow with ⟨h0, _⟩ | ⟨g', cap', cur, e, hb, hg, hnc, hcm, hcs, hct⟩
  · cases h0
  injection e with e1 e0 e2
  clear e0
  injection e1 with e1; injection e1 with e1
  subst e1; subst e2
  have ik0 : (0 : Int) ≤ (c : Int) := by omega
  have ik1 : (c : Int) ≤ (n : Int) := by omega
  have ik2 : c ≤ n := by omega
  have ik4 : (n : Int) ≤ (cap : Int) := by omega
  have ik5 : (0 : Int) ≤ (n : Int) := by omega
  have hcc : c ≤ cap := by omega
  have ik6 : (c : Int) ≤ (cap : Int) := by omega
  have ik7 : (0 : Int) ≤ (cap : Int) := by omega
  by_cases hc0 : c = 0
  · have hqn : q = n := by omega
    subst hqn
    subst hc0
    have hd0 : ps.drop 0 = ps := rfl
    rw [hd0]
    have heq : ((0 : Int) == ((0 : Nat) : Int)) = true := by decide
    clear hg hct hn hlen hq hcs
    go_enter Try.func106, Try.ntmps106
    go_wp2
    go_ret
    exact ⟨rfl, hrow0.out, World.grownBy.refl _ _⟩
  have hc1 : 1 ≤ c := by omega
  have hblk : Blk w g 39 cur := hg
  obtain ⟨i0, hi0, hz0, hz1, hz2⟩ := info_parts info_graph
  have hgl := gcells_length ps
  obtain ⟨news, hnews⟩ : ∃ news, news = (gcells ps).drop (c * 2) := ⟨_, rfl⟩
  have hnl : news.length = q * 2 := by rw [hnews, List.length_drop, hgl]; omega
  have hcell : ∀ j, j < n * 2 → cur[j]? = (gcells ps)[j]? := by
    intro j hj
    rw [← hct, List.getElem?_take, if_pos hj, Array.getElem?_toList]
  obtain ⟨A, hA, hsrc⟩ : ∃ A : Addr, (if cap = c then some (⟨g, 0, none⟩ : Addr) else some ⟨g, c * 2, none⟩) = some A ∧ Hid (∀ t u, news[t]? = some u → w.drew.cell? (A.add t) = some u) := by
    by_cases hc : cap = c
    · refine ⟨⟨g, 0, none⟩, by simp [hc], fun t u hu => ?_⟩
      have : news.length = 0 := by omega
      rw [List.length_eq_zero_iff.1 this] at hu
      simp at hu
    · refine ⟨⟨g, c * 2, none⟩, by simp [hc], fun t u hu => ?_⟩
      have ht : t < news.length := (List.getElem?_eq_some_iff.1 hu).1
      rw [add_plain]
      show w.cell? ⟨g, c * 2 + t, none⟩ = some u
      rw [hblk.cell, hcell _ (by omega)]
      rw [hnews, List.getElem?_drop] at hu
      exact hu
  have s1 := Lib.hid hnl
  have s2 : Hid (∀ u ∈ news, u.oneCell' = true) := fun u hu => by rw [hnews] at hu; exact hone u (List.mem_of_mem_drop hu)
  have s3 : Hid (∀ t, t < news.length → (w.drew.cell? ⟨g, 0 + 0 * 2 + t, none⟩).isSome = true ∧ w.drew.frozen? ⟨g, 0 + 0 * 2 + t, none⟩ = false) := by
    intro t ht
    refine ⟨?_, hblk.frozen _⟩
    show (w.cell? _).isSome = true
    rw [hblk.cell, Array.getElem?_eq_getElem (by omega)]; rfl
  obtain ⟨cur1, hb1, hc1', hc2, hc3⟩ := Blk.sets news (0 + 0 * 2) w.drew cur hblk.drew
  have hgr1 := grown_sets g news (0 + 0 * 2) w.drew
  obtain ⟨W1, hW1⟩ : ∃ W1, W1 = w.drew.setCells g (0 + 0 * 2) news := ⟨_, rfl⟩
  rw [← hW1] at hb1 hgr1
  obtain ⟨zs, hzs⟩ : ∃ zs, zs = (Builtin.zeroCells (Value.agg #[nilV, nilV]).cells c).toList := ⟨_, rfl⟩
  have hzl : zs.length = c * 2 := by rw [hzs]; exact zerosG_length c
  have hcl : ∀ ty cc, (Builtin.clear_ #[24] ty #[.slice (some ⟨g, q * 2, none⟩) c cc]).run Try.prog W1 = .ok (.tuple #[]) (W1.setCells g (q * 2) zs) := by
    rw [hzs]
    exact fun ty cc => run_clear_graphs W1 ty g (q * 2) c cc hc1 (fun j hj => by rw [hb1.cell, Array.getElem?_eq_getElem (by omega)]; rfl) (fun j _ => hb1.frozen _)
  obtain ⟨cur2, hb2, hd1, hd2, hd3⟩ := Blk.sets zs (q * 2) W1 cur1 hb1
  have hgr2 := grown_sets g zs (q * 2) W1
  have HF : Hid ((W1.setCells g (q * 2) zs).ownsRow base 39 2 (.slice (some ⟨g, 0, none⟩) q cap) q (gcells (ps.drop c)) ∧ w.grownBy (W1.setCells g (q * 2) zs) (some g)) := by
    refine ⟨?_, ⟨hgr2.os.trans hgr1.os, hgr2.tape.trans hgr1.tape, hgr2.output.trans hgr1.output, Nat.le_trans hgr1.size hgr2.size, fun i hi hn => (hgr2.block i (Nat.lt_of_lt_of_le hi hgr1.size) hn).trans (hgr1.block i hi hn)⟩⟩
    refine ⟨by rw [gcells_length, List.length_drop]; omega, .inr ⟨g, cap, cur2, rfl, hb, hb2, by omega, hcm, by omega, ?_⟩⟩
    rw [gcells_drop, ← hnews]
    apply List.ext_getElem?
    intro j
    rw [List.getElem?_take]
    by_cases hj : j < q * 2
    · rw [if_pos hj, Array.getElem?_toList, hd2 j (.inl hj)]
      have := hc3 j (by omega) (by omega)
      rw [show 0 + 0 * 2 + j = j from by omega] at this
      exact this
    · rw [if_neg hj, List.getElem?_eq_none (by omega)]
  have hW : Hid (W1 = w.drew.setCells g (0 + 0 * 2) news) := hW1
  have hkq : Hid (0 + q = q) := by unfold Hid; omega
  have hnq : n - c = q := by omega
  have hnp : n - q = c := by omega
  have hcp : ¬ cap = q := by omega
  have ip0 : (0 : Int) ≤ (q : Int) := by omega
  have ip1 : (q : Int) ≤ (n : Int) := by omega
  have hpc : q ≤ cap := by omega
  have hpn : q ≤ n := by omega
  have hqc : 0 + q ≤ cap := by omega
  have hne : ((0 : Int) == (c : Int)) = false := by simp; omega
  have hQ := Lib.hid hq
  clear hq hW1 hb1 hgr1 hc1' hc2 hc3 hb2 hd1 hd2 hd3 hgr2 hcell hnews hnl hblk hg hcs hct hlen hn hcm hb hzs hzl hc0 hgl hone
  go_enter Try.func106, Try.ntmps106
  go_wp2_with fail
  go_region_law (refine step_append_room rfl (.tmp 22) (.tmp 25) 24 rfl 39 i0 2 Try.underlying24 hi0 hz1 g 0 0 cap (by simp [Act.eval, Act.put]) A q (cap - c) news (by simp [Act.eval, Act.put]) s1.out hsrc.out s2.out hqc s3.out ?_; rw [← hW.out]; (try rw [hkq.out]))
  go_wp2
  go_ret
  exact ⟨rfl, HF.out⟩
end Go.Proofs.Ytgdeiecbkmhbeaa
