/- ParseGraph: the program's way to read the parts and the values. -/
import Derived.Test.YtpmkpeclfhmhlaaDoorPgS
namespace Go.Proofs.YtpmkpeclfhmhlaaDoor
set_option maxRecDepth 100000
open Go.ChangeShapes Go.WideShapes Go.ChangeAt Go.RowKit
set_option linter.unusedVariables false
set_option linter.unusedSimpArgs false

theorem splitB_part (k : Nat) : ∀ s : ByteArray, (∀ q ∈ Lib.splitB sp 0 k s, q.size ≤ s.size) ∧ 1 ≤ (Lib.splitB sp 0 k s).length := by
  induction k with
  | zero => intro s; rw [Lib.splitB_zero]; simp
  | succ k ih =>
    intro s
    by_cases hi : Lib.indexB s sp = -1
    · rw [Lib.splitB_miss _ _ _ _ hi]; simp
    · obtain ⟨i, hh⟩ : ∃ i : Nat, Lib.indexB s sp = (i : Int) := ⟨(Lib.indexB s sp).toNat, by have := Lib.index_ge s.data.toList sp.data.toList; unfold Lib.indexB at *; omega⟩
      rw [Lib.splitB_hit _ _ _ _ _ hh]
      refine ⟨fun q hq => ?_, by simp⟩
      rcases List.mem_cons.1 hq with rfl | hq
      · rw [ByteArray.size_extract]; omega
      · have := (ih _).1 q hq
        rw [ByteArray.size_extract] at this; omega
/-- SplitN(s, " ", 14) against the whole cut. -/
theorem splitB_14 (s : ByteArray) : ((cutB s).length ≤ 13 → Lib.splitB sp 0 (min 14 (s.size + 1) - 1) s = cutB s) ∧ (13 < (cutB s).length → 13 < (Lib.splitB sp 0 (min 14 (s.size + 1) - 1) s).length) := by
  obtain ⟨k, hk⟩ : ∃ k, k = min 14 (s.size + 1) - 1 := ⟨_, rfl⟩
  rw [← hk]
  have hd := Lib.splitB_data sp 0 k s
  have hz : s.size = s.data.toList.length := rfl
  obtain ⟨a, b⟩ := splitK_cut k s.data.toList
  have hle := cutL_length_le s.data.toList
  have hlen : (Lib.splitB sp 0 k s).length = (Lib.splitK [32] 0 k s.data.toList).length := by
    have := congrArg List.length hd; rw [List.length_map] at this; exact this
  rw [cutB_length]
  refine ⟨fun h => ?_, fun h => ?_⟩
  · have a := a (by omega)
    rw [show sp.data.toList = [32] from rfl, a] at hd
    rw [← map_back (Lib.splitB sp 0 k s), hd]; rfl
  · rw [hlen]
    by_cases h9 : (cutL s.data.toList).length ≤ k + 1
    · rw [a h9]; omega
    · rw [b (by omega)]; omega
/-- The parts that the program reads say what all parts say. -/
theorem pg_split {s p p' : ByteArray} {r t : List ByteArray} (h : cutB s = p :: r) (h' : Lib.splitB sp 0 (min 14 (s.size + 1) - 1) s = p' :: t) : pgB p' t = pgB p r ∧ pgG p' t = pgG p r := by
  obtain ⟨a, b⟩ := splitB_14 s
  by_cases hl : (cutB s).length ≤ 13
  · have := a hl
    rw [h, h'] at this
    obtain ⟨rfl, rfl⟩ := List.cons.inj this
    exact ⟨rfl, rfl⟩
  · have h1 := b (by omega)
    rw [h', List.length_cons] at h1
    rw [h, List.length_cons] at hl
    have e1 : pgB p' t = false := pg_long (.inl (by omega))
    have e2 : pgB p r = false := pg_long (.inl (by omega))
    exact ⟨e1.trans e2.symm, (pg_no e1).trans (pg_no e2).symm⟩
/-- A value that is none, among what was read and among what the bytes say. -/
def Bad (p : ByteArray) (xs : List Int) : Prop := (∃ x ∈ xs, 2 < x) ∧ ∃ x ∈ vsOf p, 2 < x
theorem valid_bad {xs : List Int} {es : List Edg} (h : ∃ x ∈ xs, 2 < x) : validB ⟨xs, es⟩ = false := by
  obtain ⟨x, hx, h2⟩ := h
  refine validB_false fun hv => ?_
  have := hv.2.1 x hx
  omega
theorem pg_read {p : ByteArray} {xs : List Int} (h : xs = vsOf p ∨ Bad p xs) (t : List ByteArray) (hok : okE t = true) : validB ⟨xs, esOf t⟩ = pgB p t ∧ (pgB p t = true → pgG p t = ⟨xs, esOf t⟩) := by
  rcases h with rfl | ⟨h1, h2⟩
  · refine ⟨by unfold pgB; rw [hok]; simp, fun k => pg_yes k⟩
  · have e : pgB p t = false := by unfold pgB; rw [valid_bad h2]; simp
    rw [valid_bad h1, e]
    exact ⟨rfl, fun k => by cases k⟩
def RunOk (p : ByteArray) (k : Nat) (xs : List Int) : Prop := (k ≤ p.size ∧ xs = (vsOf p).take k) ∨ Bad p xs
theorem run_ascii {p : ByteArray} {k : Nat} {xs : List Int} (h : k < p.size) (hr : RunOk p k xs) : RunOk p (k + 1) (xs ++ [(p[k].toNat : Int) - 48]) := by
  rcases hr with ⟨h1, rfl⟩ | ⟨⟨x, hx, h2⟩, h3⟩
  · exact .inl ⟨h, (vsOf_take k h).symm⟩
  · exact .inr ⟨⟨x, List.mem_append_left _ hx, h2⟩, h3⟩
theorem run_high {p : ByteArray} {k k' : Nat} {xs : List Int} {x : Int} (h : k < p.size) (ha : ¬ (p[k].toNat) < 128) (hx : 128 ≤ x) : RunOk p k' (xs ++ [x - 48]) := by
  refine .inr ⟨⟨x - 48, by simp, by omega⟩, (p[k].toNat : Int) - 48, ?_, by omega⟩
  unfold vsOf
  exact List.mem_map.2 ⟨p[k], by exact isd_mem h, rfl⟩
theorem run_end {p : ByteArray} {k : Nat} {xs : List Int} (h : ¬ k < p.size) (hr : RunOk p k xs) : xs = vsOf p ∨ Bad p xs := by
  rcases hr with ⟨h1, rfl⟩ | hb
  · exact .inl (List.take_of_length_le (by rw [vsOf_length]; omega))
  · exact .inr hb
theorem Within.mono {lo hi lo' hi' : Nat} {a b : World} (h : Within lo hi a b) (h1 : lo' ≤ lo) (h2 : hi ≤ hi') : Within lo' hi' a b := ⟨h.os, h.tape, h.output, h.size, fun i hi hn => h.block i hi (by omega)⟩
theorem Within.iterAt {lo hi : Nat} {a w : World} (h : Within lo hi a w) {k : Nat} (hk : lo ≤ k ∧ k < hi) (s : ByteArray) (n : Nat) : Within lo hi a (w.iterAt k s n) :=
  ⟨h.os, h.tape, h.output, by rw [Lib.iterAt_size]; exact h.size, fun i hi' hn => (Lib.iterAt_other w k i s n (by omega)).trans (h.block i hi' hn)⟩
theorem Blk.iterAt {w : World} {g : Nat} {ty : TypeId} {cs : Array Value} (h : Blk w g ty cs) {k : Nat} (hk : g ≠ k) (s : ByteArray) (n : Nat) : Blk (w.iterAt k s n) g ty cs := (Lib.iterAt_other w k g s n hk).trans h
theorem Own.iterAt {base : Nat} {w : World} {v : Value} {xs : List Int} (h : Own base w v xs) {k : Nat} (hk : k < base) (s : ByteArray) (n : Nat) : Own base (w.iterAt k s n) v xs := ⟨h.1, ownsRow_iterAt h.2 hk s n⟩

theorem splitN_at {s p : ByteArray} {t : List ByteArray} (h : Lib.splitB sp 0 (min 14 (s.size + 1) - 1) s = p :: t) (T : Nat) (hT : T = t.length) (w : World) (hs : s.size ≤ 1048576) (hm : MaxL w) :
    Calls Tryd.prog 44 #[.string s, .string ⟨#[32]⟩, .int .i64 14] w fun e w' => ∃ g c, e = .returned (.slice (some ⟨g, 0, none⟩) (T + 1) c) ∧ T + 1 ≤ c ∧ Since w w' ∧ Hid (∀ W, Since w' W → W.cell? ⟨g, 0, none⟩ = some (.string p) ∧ ∀ k (hk : k < t.length), W.cell? ⟨g, k + 1, none⟩ = some (.string t[k])) := by
  subst hT
  obtain ⟨_, m, hm⟩ := hm
  refine (Tryd.strings_SplitN s sp 14 m w (by omega) hm (by decide) (by omega) (by omega)).mono ?_
  rintro e w' ⟨rfl, hw⟩
  have hl := Lib.splitB_length_le sp 0 (min 14 (s.size + 1) - 1) s
  rw [h] at hw hl
  rw [h]
  refine ⟨_, _, rfl, by rw [List.length_cons] at hl; omega, by rw [hw]; exact (Since.refl w).alloc _, fun W hW => ?_⟩
  have hc : ∀ j (hj : j < (p :: t).length), W.cell? ⟨w.heap.size, j, none⟩ = some (.string (p :: t)[j]) := by
    intro j hj
    rw [Below.cell hW (p := ⟨w.heap.size, j, none⟩) (by rw [hw]; simp), hw, World.cell?_alloc_at _ _ _ _ rfl]
    unfold Lib.cellsOf
    rw [List.getElem?_toArray, List.getElem?_append_left (by simpa using hj), List.getElem?_map, List.getElem?_eq_getElem hj]; rfl
  exact ⟨hc 0 (by simp), fun k hk => hc (k + 1) (by simp; omega)⟩
end Go.Proofs.YtpmkpeclfhmhlaaDoor
