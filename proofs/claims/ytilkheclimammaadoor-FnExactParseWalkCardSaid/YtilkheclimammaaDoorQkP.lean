/- ParseWalk: parts of strings; the program's parseStep. -/
import Derived.Test.YtilkheclimammaaDoorQkM
import Derived.Test.YtilkheclimammaaDoorPw
import Derived.Test.YtilkheclimammaaDoorParseI
import Derived.Test.YtilkheclimammaaDoorK2
namespace Go.Proofs.YtilkheclimammaaDoor
set_option maxRecDepth 100000
open Go.ChangeShapes Go.WideShapes Go.ChangeAt Go.RowKit
set_option linter.unusedVariables false
set_option linter.unusedSimpArgs false

abbrev bS (t : List UInt8) : ByteArray := ⟨t.toArray⟩
theorem bS_list (t : List UInt8) : (bS t).data.toList = t := by simp
theorem bS_size (t : List UInt8) : (bS t).size = t.length := by simp [ByteArray.size]
/-- What a list of parts lays out in block g. -/
def PartsAt (g : Nat) (w : World) (P : List (List UInt8)) : Prop := ∀ W, Since w W → ∀ k (hk : k < P.length), W.cell? ⟨g, k, none⟩ = some (.string (bS P[k]))
def PartsOut (w : World) (P : List (List UInt8)) (e : Ending) (w' : World) : Prop := ∃ g c, e = .returned (.slice (some ⟨g, 0, none⟩) P.length c) ∧ P.length ≤ c ∧ Since w w' ∧ Hid (PartsAt g w' P)
theorem cut_parts (s : ByteArray) (w : World) (hs : s.size ≤ 1048576) :
    Calls Tryd.prog 24 #[.string s, .int .u8 32] w (PartsOut w (cutL s.data.toList)) := by
  refine (l2Cut_any s w hs).mono ?_
  rintro e w' ⟨v, rfl, ho, hs1⟩
  have hl : (cutB s).length = (cutL s.data.toList).length := cutB_length s
  have hp := cutL_pos s.data.toList
  have ho2 := ho
  rcases ho.2 with ⟨_, h0⟩ | ⟨g, cap, cur, rfl, hb, hg, hnc, _⟩
  · omega
  · refine ⟨g, cap, by rw [hl], by omega, hs1, fun W hW k hk => ?_⟩
    have hc := ho2.cellAt k (by omega)
    rw [Below.cell hW (p := ⟨g, k, none⟩) (heap_lt hg), hc, List.getElem?_map]
    unfold cutB
    rw [List.getElem?_map, List.getElem?_eq_getElem hk]
    rfl
theorem len_split (N : Nat) (hN : 2 ≤ N) (s : ByteArray) : ((cutL s.data.toList).length ≤ N - 1 → Lib.splitB sp 0 (min N (s.size + 1) - 1) s = cutB s) ∧ (N - 1 < (cutL s.data.toList).length → N - 1 < (Lib.splitB sp 0 (min N (s.size + 1) - 1) s).length) := by
  obtain ⟨k, hk⟩ : ∃ k, k = min N (s.size + 1) - 1 := ⟨_, rfl⟩
  rw [← hk]
  have hd := Lib.splitB_data sp 0 k s
  have hz : s.size = s.data.toList.length := rfl
  obtain ⟨a, b⟩ := splitK_cut k s.data.toList
  have hle := cutL_length_le s.data.toList
  have hlen : (Lib.splitB sp 0 k s).length = (Lib.splitK [32] 0 k s.data.toList).length := by
    have := congrArg List.length hd; rw [List.length_map] at this; exact this
  refine ⟨fun h => ?_, fun h => ?_⟩
  · have a := a (by omega)
    rw [show sp.data.toList = [32] from rfl, a] at hd
    rw [← map_back (Lib.splitB sp 0 k s), hd]; rfl
  · rw [hlen]
    by_cases h9 : (cutL s.data.toList).length ≤ k + 1
    · rw [a h9]; omega
    · rw [b (by omega)]; omega
theorem split_part (k : Nat) : ∀ s : ByteArray, (∀ q ∈ Lib.splitB sp 0 k s, q.size ≤ s.size) ∧ 1 ≤ (Lib.splitB sp 0 k s).length := by
  induction k with
  | zero => intro s; rw [Lib.splitB_zero]; simp
  | succ k ih =>
    intro s
    by_cases hi : Lib.indexB s sp = -1
    · rw [Lib.splitB_miss _ _ _ _ hi]; simp
    · obtain ⟨i, hh⟩ : ∃ i : Nat, Lib.indexB s sp = (i : Int) := ⟨(Lib.indexB s sp).toNat, by have := Lib.index_ge s.data.toList sp.data.toList; unfold Lib.indexB at *; omega⟩
      rw [Lib.splitB_hit _ _ _ _ _ hh]
      refine ⟨fun q hq => ?_, by simp⟩
      rcases List.mem_cons.1 hq with rfl | hq
      · rw [ByteArray.size_extract]; omega
      · have := (ih _).1 q hq
        rw [ByteArray.size_extract] at this; omega
/-- The parts that the program reads. -/
def parts62 (s : ByteArray) : List (List UInt8) := (Lib.splitB sp 0 (min 62 (s.size + 1) - 1) s).map (·.data.toList)
theorem parts_back (s : ByteArray) : (parts62 s).map bS = Lib.splitB sp 0 (min 62 (s.size + 1) - 1) s := map_back _
theorem parts_le (s : ByteArray) : ∀ t ∈ parts62 s, t.length ≤ s.size := by
  intro t ht
  obtain ⟨q, hq, rfl⟩ := List.mem_map.1 ht
  have := (split_part _ s).1 q hq
  have e : q.data.toList.length = q.size := by rw [Array.length_toList]; rfl
  omega
theorem piB_long {p : List UInt8} {r : List (List UInt8)} (h : 60 < r.length) : piB p r = false := by
  unfold piB; rw [decide_eq_false (by omega : ¬ r.length ≤ 60)]; simp
theorem parts_same (s : ByteArray) : ∃ p r p' t, cutL s.data.toList = p :: r ∧ parts62 s = p' :: t ∧ piB p' t = piB p r ∧ pkW p' t = pkW p r := by
  obtain ⟨a, b⟩ := len_split 62 (by omega) s
  cases hc : cutL s.data.toList with
  | nil => exact absurd hc (cutL_ne _)
  | cons p r =>
    cases hp : parts62 s with
    | nil =>
      have h1 := (split_part (min 62 (s.size + 1) - 1) s).2
      have h2 := congrArg List.length hp
      unfold parts62 at h2
      rw [List.length_map, List.length_nil] at h2
      omega
    | cons p' t =>
      refine ⟨p, r, p', t, rfl, rfl, ?_⟩
      by_cases hl : (cutL s.data.toList).length ≤ 61
      · have e := a hl
        have h2 : parts62 s = cutL s.data.toList := by
          unfold parts62; rw [e]; unfold cutB; rw [List.map_map]
          conv => rhs; rw [← List.map_id (cutL s.data.toList)]
          exact List.map_congr_left fun q _ => by simp
        rw [hp, hc] at h2
        obtain ⟨rfl, rfl⟩ := List.cons.inj h2
        exact ⟨rfl, rfl⟩
      · have h1 := b (by omega)
        have h2 := congrArg List.length hp
        unfold parts62 at h2
        rw [List.length_map, List.length_cons] at h2
        rw [hc, List.length_cons] at hl
        have e1 : piB p' t = false := piB_long (by omega)
        have e2 : piB p r = false := piB_long (by omega)
        rw [e1, e2, pkW_no e1, pkW_no e2]; exact ⟨rfl, rfl⟩
/-- The cell of internal/bytealg.MaxLen holds some number. -/
def MaxK (w : World) : Prop := 0 < w.heap.size ∧ ∃ m : Int, w.cell? ⟨0, 0, none⟩ = some (.int .i64 m)
theorem MaxK.since {w w' : World} (h : MaxK w) (k : Since w w') : MaxK w' := by
  obtain ⟨h1, m, h2⟩ := h
  exact ⟨Nat.lt_of_lt_of_le h1 k.size, m, (Below.cell k (p := ⟨0, 0, none⟩) h1).trans h2⟩
theorem splitN_parts (s : ByteArray) (w : World) (hs : s.size ≤ 1048576) (hm : MaxK w) :
    Calls Tryd.prog 26 #[.string s, .string ⟨#[32]⟩, .int .i64 62] w (PartsOut w (parts62 s)) := by
  obtain ⟨_, m, hm⟩ := hm
  refine (Tryd.strings_SplitN s sp 62 m w (by omega) hm (by decide) (by omega) (by omega)).mono ?_
  rintro e w' ⟨rfl, hw⟩
  have hl := Lib.splitB_length_le sp 0 (min 62 (s.size + 1) - 1) s
  have hpl : (parts62 s).length = (Lib.splitB sp 0 (min 62 (s.size + 1) - 1) s).length := by unfold parts62; rw [List.length_map]
  refine ⟨_, _, by rw [hpl], by omega, by rw [hw]; exact (Since.refl w).alloc _, fun W hW k hk => ?_⟩
  rw [Below.cell hW (p := ⟨w.heap.size, k, none⟩) (by rw [hw]; simp), hw, World.cell?_alloc_at _ _ _ _ rfl]
  unfold Lib.cellsOf
  rw [← parts_back, List.getElem?_toArray, List.getElem?_append_left (by simpa using hk), List.getElem?_map, List.getElem?_map, List.getElem?_eq_getElem hk]; rfl
theorem trim_cut (l : List UInt8) : Lib.trimSuffix l [45] = cutM l ∧ Lib.hasSuffix l [45] = hasM l := by
  have h : Lib.hasSuffix l [45] = hasM l := by
    unfold Lib.hasSuffix hasM
    rw [Bool.eq_iff_iff, List.isSuffixOf_iff_suffix, beq_iff_eq]
    constructor
    · rintro ⟨t, rfl⟩; simp
    · intro h
      have hne : l ≠ [] := by intro e; subst e; simp at h
      have h45 : l.getLast hne = 45 := by
        have := List.getLast?_eq_some_getLast hne
        rw [h] at this
        exact (Option.some.inj this).symm
      have := List.dropLast_concat_getLast hne
      rw [h45] at this
      exact ⟨_, this⟩
  refine ⟨?_, h⟩
  unfold Lib.trimSuffix cutM
  rw [h]
  split
  · rw [List.dropLast_eq_take]; rfl
  · rfl
def psO (t : List UInt8) : Stp := if okP t = true then sOf t else zeroS
set_option maxRecDepth 100000 in
theorem parseStep_any (t : List UInt8) (w : World) (hl : t.length ≤ 1048576) (ht : Tab w) :
    Calls Tryd.prog 28 #[.string (bS t)] w fun e w' => e = .returned (.tuple #[.agg #[.int .i64 (psO t).id, .bool (psO t).inv], .bool (okP t)]) ∧ Since w w' := by
  have HT := Lib.hid ht
  clear ht
  have hs0 : Since w (w.alloc (.cells #[.int .i64 0, .bool false] 41)) := (Since.refl w).alloc _
  have R0 : Hid (Blk (w.alloc (.cells #[.int .i64 0, .bool false] 41)) w.heap.size 41 #[.int .i64 0, .bool false]) := Blk.new rfl _ _
  have HCS : Hid (∀ W, Calls Tryd.prog 37 #[.string (bS t), .string ⟨#[45]⟩] W fun e w' => e = .returned (.tuple #[.string (bS (cutM t)), .bool (hasM t)]) ∧ w' = W) := fun W => by
    have h := Tryd.strings_CutSuffix (bS t) ⟨#[45]⟩ W (by rw [bS_size]; omega)
    rw [bS_list, show (⟨#[45]⟩ : ByteArray).data.toList = [45] from rfl, (trim_cut t).1, (trim_cut t).2] at h
    exact h
  have hcl : (bS (cutM t)).size ≤ 1048576 := by
    rw [bS_size]; unfold cutM; split
    · rw [List.length_dropLast]; omega
    · exact hl
  have HPI : Hid (∀ W, Since w W → Calls Tryd.prog 27 #[.string (bS (cutM t))] W fun e w' => e = .returned (.tuple #[.int .i64 (pOut (cutM t)).1, .bool (pOut (cutM t)).2]) ∧ Since W w') := fun W hW => by
    have h := implPI_any (bS (cutM t)) W hcl (HT.out.since hW)
    rw [bS_list] at h
    exact h
  have HOK : Hid (okP t = ((pOut (cutM t)).2 && inB (pOut (cutM t)).1 1 99)) := rfl
  have HSO : Hid (sOf t = ⟨(pOut (cutM t)).1, hasM t⟩) := rfl
  have HPS : Hid (psO t = if okP t = true then sOf t else zeroS) := rfl
  generalize psO t = Z at HPS ⊢
  generalize okP t = K at HOK HPS ⊢
  rw [HSO.out] at HPS
  clear HSO
  generalize hasM t = M at HCS HPS
  generalize (pOut (cutM t)).2 = B at HPI HOK
  generalize (pOut (cutM t)).1 = n at HPI HOK HPS
  generalize bS (cutM t) = U at HCS HPI
  clear hcl hl
  go_enter Tryd.func28, Tryd.ntmps28
  go_wp2_with fail
  refine (HCS.out _).mono ?_
  rintro e w1 ⟨rfl, rfl⟩
  go_wp2_with fail
  refine (HPI.out _ hs0).mono ?_
  rintro e w2 ⟨rfl, hs2⟩
  have hs02 := hs0.trans hs2
  obtain ⟨q0, q1, q2, q3⟩ := (R0.out.since hs2).two
  cases B
  · have HK : Hid (K = false) := HOK.out
    have HZ : Hid (Z = zeroS) := by unfold Hid; rw [HPS.out, HK.out]; rfl
    go_wp2_with fail
    refine bodyPost_ret (v := .tuple #[.agg #[.int .i64 0, .bool false], .bool false]) (by simp [results, Tryd.results28, go_sem, *]) rfl ?_
    refine ⟨by rw [HK.out, HZ.out]; rfl, ?_⟩
    exact (hs02.setCell (by simp) _).setCell (by simp) _
  · go_wp2_with fail
    refine (isEdgeID_any _ _).mono ?_
    rintro e w3 ⟨rfl, rfl⟩
    obtain ⟨c, hc⟩ : ∃ c, inB n 1 99 = c := ⟨_, rfl⟩
    have HC : Hid (K = c) := by unfold Hid; rw [HOK.out, hc]; rfl
    rw [hc]
    clear hc
    cases c
    · have HZ : Hid (Z = zeroS) := by unfold Hid; rw [HPS.out, HC.out]; rfl
      go_wp2_with fail
      refine bodyPost_ret (v := .tuple #[.agg #[.int .i64 0, .bool false], .bool false]) (by simp [results, Tryd.results28, go_sem, *]) rfl ?_
      refine ⟨by rw [HC.out, HZ.out]; rfl, ?_⟩
      exact (hs02.setCell (by simp) _).setCell (by simp) _
    · have HZ : Hid (Z = ⟨n, M⟩) := by unfold Hid; rw [HPS.out, HC.out]; rfl
      go_wp2_with fail
      refine bodyPost_ret (v := .tuple #[.agg #[.int .i64 n, .bool M], .bool true]) (by simp [results, Tryd.results28, go_sem, *]) rfl ?_
      refine ⟨by rw [HC.out, HZ.out], ?_⟩
      exact (hs02.setCell (by simp) _).setCell (by simp) _
end Go.Proofs.YtilkheclimammaaDoor
