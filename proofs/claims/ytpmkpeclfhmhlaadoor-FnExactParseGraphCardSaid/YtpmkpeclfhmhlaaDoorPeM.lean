/- ParseEdge: what it answers, told in the model's way and in the program's. -/
import Derived.Test.YtpmkpeclfhmhlaaDoorFeD
import Derived.Test.YtpmkpeclfhmhlaaDoorFiePlain
import Derived.Test.YtpmkpeclfhmhlaaDoorPlI
import Derived.Test.YtpmkpeclfhmhlaaDoorPwC
namespace Go.Proofs.YtpmkpeclfhmhlaaDoor
set_option maxRecDepth 100000
open Go.ChangeShapes Go.WideShapes Go.ChangeAt Go.RowKit
set_option linter.unusedVariables false

/-- The edge that the pieces name. -/
def eOf (a m : ByteArray) : Edg := ⟨(pOut a.data.toList).1, gb m 0 - 48, gb m 2 - 48, (plN (m.extract 1 2)).tdiv 2⟩
def peO (s : ByteArray) : Edg × Bool :=
  match cutCB s with
  | [a, m] => if m.size = 3 ∧ fmtE (eOf a m) = s then (eOf a m, true) else (zeroE, false)
  | _ => (zeroE, false)
theorem pe_other {s : ByteArray} (h : (cutCB s).length ≠ 2) : peO s = (zeroE, false) := by
  unfold peO
  split
  · rename_i a m he; rw [he] at h; simp at h
  · rfl
theorem pe_size {s a m : ByteArray} (h : cutCB s = [a, m]) (h3 : m.size ≠ 3) : peO s = (zeroE, false) := by
  unfold peO; rw [h]; exact if_neg (fun k => h3 k.1)
theorem pe_yes {s a m : ByteArray} (h : cutCB s = [a, m]) (h3 : m.size = 3) (hf : fmtE (eOf a m) = s) : peO s = (eOf a m, true) := by
  unfold peO; rw [h]; exact if_pos ⟨h3, hf⟩
theorem pe_no {s a m : ByteArray} (h : cutCB s = [a, m]) (hf : fmtE (eOf a m) ≠ s) : peO s = (zeroE, false) := by
  unfold peO; rw [h]; exact if_neg (fun k => hf k.2)

theorem itoa_digit {x : UInt8} (h : 0 ≤ (x.toNat : Int) - 48 ∧ (x.toNat : Int) - 48 < 5) : Lib.itoa ((x.toNat : Int) - 48) = [x] := by
  rw [Lib.itoa, if_neg (by omega), dd_small (by omega)]
  congr 1
  apply UInt8.toNat_inj.1
  rw [UInt8.toNat_ofNat']
  have := x.toNat_lt
  omega
theorem itoa_one {n : Int} (h0 : 0 ≤ n) (h1 : n < 5) : ∃ x, Lib.itoa n = [x] := by
  rw [Lib.itoa, if_neg (by omega), dd_small (by omega)]
  exact ⟨_, rfl⟩
theorem itoa_no58 {n : Int} (h0 : 0 ≤ n) : (58 : UInt8) ∉ Lib.itoa n := by
  rw [Lib.itoa, if_neg (by omega)]
  intro hm
  have := dd_all _ _ hm
  exact absurd this (by decide)
theorem pl_some {s : ByteArray} (h : plB s = true) : ∃ k : Nat, k ≤ 8 ∧ plN s = k ∧ fmtB k = s := by
  unfold plB at h
  obtain ⟨k, hk⟩ := Option.isSome_iff_exists.1 h
  refine ⟨k, ?_, by unfold plN; rw [hk]; rfl, ?_⟩
  · have := List.mem_of_find?_eq_some hk
    simp at this; omega
  · have := List.find?_some hk
    simpa using this
theorem mid_eq (x y z : UInt8) : (⟨#[x, y, z]⟩ : ByteArray).extract 1 2 = ⟨#[y]⟩ := str_ext (by rw [ext_list]; rfl)
theorem gb0 (x y z : UInt8) : gb ⟨#[x, y, z]⟩ 0 = (x.toNat : Int) := rfl
theorem gb2 (x y z : UInt8) : gb ⟨#[x, y, z]⟩ 2 = (z.toNat : Int) := rfl

/-- The letter of one byte that lies in an edge. -/
theorem mid_fmt {y : UInt8} (hl : plB ⟨#[y]⟩ = true) (h2 : (plN ⟨#[y]⟩).tdiv 2 ≤ 2) : fmtL (2 * (plN ⟨#[y]⟩).tdiv 2) = ⟨#[y]⟩ ∧ y ≠ 58 := by
  obtain ⟨k, hk, hn, he⟩ := pl_some hl
  rw [hn] at h2 ⊢
  have hs := congrArg ByteArray.size he
  rcases nine hk with rfl | rfl | rfl | rfl | rfl | rfl | rfl | rfl | rfl
  · rw [← he]; exact ⟨by decide, by intro e; subst e; exact absurd he (by decide)⟩
  · exact absurd (show (2 : Nat) = 1 from hs) (by decide)
  · rw [← he]; exact ⟨by decide, by intro e; subst e; exact absurd he (by decide)⟩
  · exact absurd (show (2 : Nat) = 1 from hs) (by decide)
  · rw [← he]; exact ⟨by decide, by intro e; subst e; exact absurd he (by decide)⟩
  · exact absurd (show (2 : Nat) = 1 from hs) (by decide)
  · exact absurd h2 (by decide)
  · exact absurd h2 (by decide)
  · exact absurd h2 (by decide)
theorem fmtL_byte {l : Int} (h0 : 0 ≤ l) (h1 : l ≤ 2) : ∃ y, (fmtL (2 * l)).data.toList = [y] ∧ plB ⟨#[y]⟩ = true := by
  obtain rfl | rfl | rfl : l = 0 ∨ l = 1 ∨ l = 2 := by omega
  · exact ⟨97, rfl, by decide +kernel⟩
  · exact ⟨98, rfl, by decide +kernel⟩
  · exact ⟨99, rfl, by decide +kernel⟩

/-- The two ways to tell a good edge: the program's test, the model's. -/
theorem pe_key (a : List UInt8) (x y z : UInt8) (ha : (58 : UInt8) ∉ a) (s : ByteArray) (hs : s.data.toList = a ++ 58 :: [x, y, z]) :
    ((pOut a).2 = true ∧ plB ⟨#[y]⟩ = true ∧ edB 5 (eOf ⟨a.toArray⟩ ⟨#[x, y, z]⟩) = true) ↔ (cutCB s = [⟨a.toArray⟩, ⟨#[x, y, z]⟩] ∧ fmtE (eOf ⟨a.toArray⟩ ⟨#[x, y, z]⟩) = s) := by
  constructor
  · rintro ⟨hn, hl, hb⟩
    have hok := (edB_iff 5 _).1 hb
    rw [fmtE_in hb]
    unfold eOf at hok ⊢
    simp only [gb0, gb2, mid_eq] at hok ⊢
    obtain ⟨o1, o2, o3, o4⟩ := hok
    obtain ⟨hm1, hm2⟩ := mid_fmt hl o4.2
    have hA : Acc a := by
      by_cases h : Acc a
      · exact h
      · rw [pOut_out h] at hn; cases hn
    have hid : Lib.itoa (pOut a).1 = a := by rw [pOut_in hA]; exact hA.2.2
    constructor
    · unfold cutCB
      rw [hs, cutCL_app _ ha, cutCL_none]
      · rfl
      · simp only [List.mem_cons, List.not_mem_nil, or_false, not_or]
        refine ⟨?_, fun e => hm2 e.symm, ?_⟩
        · intro e; subst e; exact absurd (show (((58 : UInt8).toNat : Nat) : Int) - 48 < 5 from o2.2) (by decide)
        · intro e; subst e; exact absurd (show (((58 : UInt8).toNat : Nat) : Int) - 48 < 5 from o3.2) (by decide)
    · apply str_ext
      rw [hs, hm1]
      unfold itoaS
      rw [itoa_digit (by simpa using o2), itoa_digit (by simpa using o3)]
      simp only [ByteArray.data_append, Array.toList_append]
      rw [hid]
      simp
  · rintro ⟨hc, hf⟩
    rcases Bool.eq_false_or_eq_true (edB 5 (eOf ⟨a.toArray⟩ ⟨#[x, y, z]⟩)) with hb | hb
    · have hok := (edB_iff 5 _).1 hb
      rw [fmtE_in hb] at hf
      have hl := congrArg (fun t => t.data.toList) hf
      simp only [ByteArray.data_append, Array.toList_append, hs] at hl
      obtain ⟨E, hE⟩ : ∃ E, E = eOf ⟨a.toArray⟩ ⟨#[x, y, z]⟩ := ⟨_, rfl⟩
      rw [← hE] at hl hok
      obtain ⟨o1, o2, o3, o4⟩ := hok
      obtain ⟨p, hp⟩ := itoa_one o2.1 (by simpa using o2.2)
      obtain ⟨q, hq⟩ := itoa_one o3.1 (by simpa using o3.2)
      obtain ⟨r, hr, hr2⟩ := fmtL_byte o4.1 o4.2
      have hl' : Lib.itoa E.id ++ 58 :: [p, r, q] = a ++ 58 :: [x, y, z] := by
        rw [← hl, hr]; unfold itoaS; rw [hp, hq]; simp
      have h1 := congrArg cutCL hl'
      rw [cutCL_app _ (itoa_no58 (by omega)), cutCL_app _ ha] at h1
      have h2 : Lib.itoa E.id = a := (List.cons.inj h1).1
      rw [h2] at hl'
      have h3 := List.append_cancel_left hl'
      simp only [List.cons.injEq, and_true, true_and] at h3
      obtain ⟨rfl, rfl, rfl⟩ := h3
      refine ⟨?_, hr2, hb⟩
      rw [← h2, pOut_itoa, if_pos (by omega)]
    · rw [fmtE_out hb] at hf
      rw [← hf] at hs
      simp at hs

theorem list3 {m : List UInt8} (h : m.length = 3) : ∃ x y z, m = [x, y, z] := by
  match m, h with
  | [x, y, z], _ => exact ⟨x, y, z, rfl⟩
theorem pe_miss {s : ByteArray} (h : Lib.index s.data.toList [58] = -1) : peO s = (zeroE, false) :=
  pe_other (by unfold cutCB; rw [cutCL_none (index58_miss h)]; simp)
theorem pe_len {s : ByteArray} {a m : List UInt8} (ha : (58 : UInt8) ∉ a) (hs : s.data.toList = a ++ 58 :: m) (h : m.length ≠ 3) : peO s = (zeroE, false) := by
  by_cases hm : (58 : UInt8) ∈ m
  · refine pe_other ?_
    obtain ⟨p, q, hpq⟩ := List.append_of_mem hm
    unfold cutCB
    rw [hs, cutCL_app _ ha, List.length_map, List.length_cons]
    intro e
    have e1 : (cutCL m).length = 1 := by omega
    obtain ⟨i, hi⟩ := List.getElem?_of_mem hm
    have : Lib.index m [58] ≠ -1 := fun k => index58_miss k hm
    rw [Lib.index_one] at this
    obtain ⟨j, hj⟩ : ∃ j : Nat, Lib.indexByte m 58 = (j : Int) := ⟨(Lib.indexByte m 58).toNat, by have := Lib.indexByte_ge m 58; omega⟩
    have h2 := index58_hit (l := m) (i := j) (by rw [Lib.index_one]; exact hj)
    rw [h2.1, cutCL_app _ h2.2, List.length_cons] at e1
    have := cutCL_pos (m.drop (j + 1))
    omega
  · exact pe_size (a := ⟨a.toArray⟩) (m := ⟨m.toArray⟩) (by unfold cutCB; rw [hs, cutCL_app _ ha, cutCL_none hm]; rfl) (by simpa [ByteArray.size] using h)
theorem pe_three {s : ByteArray} {a : List UInt8} {x y z : UInt8} (ha : (58 : UInt8) ∉ a) (hs : s.data.toList = a ++ 58 :: [x, y, z]) :
    peO s = if (pOut a).2 = true ∧ plB ⟨#[y]⟩ = true ∧ edB 5 (eOf ⟨a.toArray⟩ ⟨#[x, y, z]⟩) = true then (eOf ⟨a.toArray⟩ ⟨#[x, y, z]⟩, true) else (zeroE, false) := by
  have hk := pe_key a x y z ha s hs
  by_cases h : (pOut a).2 = true ∧ plB ⟨#[y]⟩ = true ∧ edB 5 (eOf ⟨a.toArray⟩ ⟨#[x, y, z]⟩) = true
  · rw [if_pos h]
    obtain ⟨hc, hf⟩ := hk.1 h
    exact pe_yes hc rfl hf
  · rw [if_neg h]
    by_cases hm : (58 : UInt8) ∈ [x, y, z]
    · refine pe_other ?_
      unfold cutCB
      rw [hs, cutCL_app _ ha, List.length_map, List.length_cons]
      intro e
      have e1 : (cutCL [x, y, z]).length = 1 := by omega
      have : Lib.index [x, y, z] [58] ≠ -1 := fun k => index58_miss k hm
      rw [Lib.index_one] at this
      obtain ⟨j, hj⟩ : ∃ j : Nat, Lib.indexByte [x, y, z] 58 = (j : Int) := ⟨(Lib.indexByte [x, y, z] 58).toNat, by have := Lib.indexByte_ge [x, y, z] 58; omega⟩
      have h2 := index58_hit (l := [x, y, z]) (i := j) (by rw [Lib.index_one]; exact hj)
      rw [h2.1, cutCL_app _ h2.2, List.length_cons] at e1
      have := cutCL_pos ([x, y, z].drop (j + 1))
      omega
    · have hc : cutCB s = [⟨a.toArray⟩, ⟨#[x, y, z]⟩] := by unfold cutCB; rw [hs, cutCL_app _ ha, cutCL_none hm]; rfl
      exact pe_no hc (fun hf => h (hk.2 ⟨hc, hf⟩))
end Go.Proofs.YtpmkpeclfhmhlaaDoor
