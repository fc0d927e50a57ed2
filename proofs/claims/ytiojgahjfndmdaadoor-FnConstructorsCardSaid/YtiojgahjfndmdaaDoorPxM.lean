/- ParseExpr: parts of strings; what a part reads as, told in the model's way and in the program's. -/
import Derived.Test.YtiojgahjfndmdaaDoorFmx
import Derived.Test.YtiojgahjfndmdaaDoorXd
import Derived.Test.YtiojgahjfndmdaaDoorPl
import Derived.Test.YtiojgahjfndmdaaDoorParseI
import Derived.Test.YtiojgahjfndmdaaDoorCut
import Derived.Test.YtiojgahjfndmdaaDoorPw
namespace Go.Proofs.YtiojgahjfndmdaaDoor
set_option maxRecDepth 100000
open Go.ChangeShapes Go.WideShapes Go.ChangeAt Go.RowKit
set_option linter.unusedVariables false
set_option linter.unusedSimpArgs false

abbrev bX (t : List UInt8) : ByteArray := ⟨t.toArray⟩
theorem bX_list (t : List UInt8) : (bX t).data.toList = t := by simp
theorem bX_size (t : List UInt8) : (bX t).size = t.length := by simp [ByteArray.size]
def PartsAtX (g : Nat) (w : World) (P : List (List UInt8)) : Prop := ∀ W, Since w W → ∀ k (hk : k < P.length), W.cell? ⟨g, k, none⟩ = some (.string (bX P[k]))
def PartsOutX (w : World) (P : List (List UInt8)) (e : Ending) (w' : World) : Prop := ∃ g c, e = .returned (.slice (some ⟨g, 0, none⟩) P.length c) ∧ P.length ≤ c ∧ Since w w' ∧ Hid (PartsAtX g w' P)
theorem cut_partsX (s : ByteArray) (w : World) (hs : s.size ≤ 1048576) :
    Calls Tryd.prog 125 #[.string s, .int .u8 32] w (PartsOutX w (cutL s.data.toList)) := by
  refine (l2Cut_any s w hs).mono ?_
  rintro e w' ⟨v, rfl, ho, hs1⟩
  have hl : (cutB s).length = (cutL s.data.toList).length := cutB_length s
  have hp := cutL_pos s.data.toList
  have ho2 := ho
  rcases ho.2 with ⟨_, h0⟩ | ⟨g, cap, cur, rfl, hb, hg, hnc, _⟩
  · omega
  · refine ⟨g, cap, by rw [hl], by omega, hs1, fun W hW k hk => ?_⟩
    have hc := ho2.cellAt k (by omega)
    rw [Below.cell hW (p := ⟨g, k, none⟩) (heap_lt hg), hc, List.getElem?_map]
    unfold cutB
    rw [List.getElem?_map, List.getElem?_eq_getElem hk]
    rfl
theorem len_splitX (N : Nat) (hN : 2 ≤ N) (s : ByteArray) : ((cutL s.data.toList).length ≤ N - 1 → Lib.splitB sp 0 (min N (s.size + 1) - 1) s = cutB s) ∧ (N - 1 < (cutL s.data.toList).length → N - 1 < (Lib.splitB sp 0 (min N (s.size + 1) - 1) s).length) := by
  obtain ⟨k, hk⟩ : ∃ k, k = min N (s.size + 1) - 1 := ⟨_, rfl⟩
  rw [← hk]
  have hd := Lib.splitB_data sp 0 k s
  have hz : s.size = s.data.toList.length := rfl
  obtain ⟨a, b⟩ := splitK_cut k s.data.toList
  have hle := cutL_length_le s.data.toList
  have hlen : (Lib.splitB sp 0 k s).length = (Lib.splitK [32] 0 k s.data.toList).length := by
    have := congrArg List.length hd; rw [List.length_map] at this; exact this
  refine ⟨fun h => ?_, fun h => ?_⟩
  · have a := a (by omega)
    rw [show sp.data.toList = [32] from rfl, a] at hd
    rw [← map_back (Lib.splitB sp 0 k s), hd]; rfl
  · rw [hlen]
    by_cases h9 : (cutL s.data.toList).length ≤ k + 1
    · rw [a h9]; omega
    · rw [b (by omega)]; omega
theorem split_partX (k : Nat) : ∀ s : ByteArray, (∀ q ∈ Lib.splitB sp 0 k s, q.size ≤ s.size) ∧ 1 ≤ (Lib.splitB sp 0 k s).length := by
  induction k with
  | zero => intro s; rw [Lib.splitB_zero]; simp
  | succ k ih =>
    intro s
    by_cases hi : Lib.indexB s sp = -1
    · rw [Lib.splitB_miss _ _ _ _ hi]; simp
    · obtain ⟨i, hh⟩ : ∃ i : Nat, Lib.indexB s sp = (i : Int) := ⟨(Lib.indexB s sp).toNat, by have := Lib.index_ge s.data.toList sp.data.toList; unfold Lib.indexB at *; omega⟩
      rw [Lib.splitB_hit _ _ _ _ _ hh]
      refine ⟨fun q hq => ?_, by simp⟩
      rcases List.mem_cons.1 hq with rfl | hq
      · rw [ByteArray.size_extract]; omega
      · have := (ih _).1 q hq
        rw [ByteArray.size_extract] at this; omega
/-- The parts that the program reads. -/
def partsX25 (s : ByteArray) : List (List UInt8) := (Lib.splitB sp 0 (min 25 (s.size + 1) - 1) s).map (·.data.toList)
theorem partsX25_back (s : ByteArray) : (partsX25 s).map bX = Lib.splitB sp 0 (min 25 (s.size + 1) - 1) s := map_back _
theorem partsX25_le (s : ByteArray) : ∀ t ∈ partsX25 s, t.length ≤ s.size := by
  intro t ht
  obtain ⟨q, hq, rfl⟩ := List.mem_map.1 ht
  have := (split_partX _ s).1 q hq
  have e : q.data.toList.length = q.size := by rw [Array.length_toList]; rfl
  omega
theorem partsX25_len (s : ByteArray) : (partsX25 s).length ≤ 25 := by
  unfold partsX25
  rw [List.length_map]
  have := Lib.splitB_length_le sp 0 (min 25 (s.size + 1) - 1) s
  omega
theorem partsX25_same (s : ByteArray) : ((cutL s.data.toList).length ≤ 24 → partsX25 s = cutL s.data.toList) ∧ (24 < (cutL s.data.toList).length → 24 < (partsX25 s).length) := by
  obtain ⟨a, b⟩ := len_splitX 25 (by omega) s
  refine ⟨fun hl => ?_, fun hl => ?_⟩
  · have e := a (by omega)
    unfold partsX25; rw [e]; unfold cutB; rw [List.map_map]
    conv => rhs; rw [← List.map_id (cutL s.data.toList)]
    exact List.map_congr_left fun q _ => by simp
  · have := b (by omega)
    unfold partsX25
    rw [List.length_map]
    omega
/-- Which kind has this text as its format (0: none). -/
def kindL (t : List UInt8) : Nat := if t = [33] then 1 else if t = [40, 41] then 2 else if t = [46] then 4 else if t = [124] then 5 else if t = [42] then 6 else 0
/-- The model's reading of a part. -/
def repL (t : List UInt8) : Tok := match t with
  | [a, b, c, d, e] => if a = 123 ∧ c = 44 ∧ e = 125 then ⟨7, 0, (b.toNat : Int) - 48, (d.toNat : Int) - 48⟩ else leafK 0
  | _ => leafK 0
def rdL (t : List UInt8) : Tok := if kindL t = 0 then (if plB (bX t) = true then ⟨3, plN (bX t), 0, 0⟩ else repL t) else leafK (kindL t)
/-- The program's reading of a repetition, and of a part. -/
def innL (t : List UInt8) : List UInt8 := Lib.trimSuffix (Lib.trimPrefix t [123]) [125]
def repB (t : List UInt8) : Bool := Lib.hasPrefix t [123] && Lib.hasSuffix (Lib.trimPrefix t [123]) [125] && (pOut (Lib.cut (innL t) [44]).1).2 && (pOut (Lib.cut (innL t) [44]).2.1).2
def repT (t : List UInt8) : Tok := if repB t = true then ⟨7, 0, (pOut (Lib.cut (innL t) [44]).1).1, (pOut (Lib.cut (innL t) [44]).2.1).1⟩ else leafK 0
def ptT (t : List UInt8) : Tok := if plB (bX t) = true then ⟨3, plN (bX t), 0, 0⟩ else if kindL t = 0 then repT t else leafK (kindL t)
def ptB (t : List UInt8) : Bool := plB (bX t) || decide (kindL t ≠ 0) || repB t
theorem pOut_small {l : List UInt8} (h : (pOut l).2 = true) (h0 : 0 ≤ (pOut l).1) (h3 : (pOut l).1 ≤ 3) : ∃ n : Nat, n ≤ 3 ∧ (pOut l).1 = (n : Int) ∧ l = [UInt8.ofNat (48 + n)] := by
  by_cases ha : Acc l
  · rw [pOut_in ha] at h0 h3 ⊢
    obtain ⟨_, _, h1⟩ := ha
    simp only at h0 h3 ⊢
    rcases (by omega : sval l = 0 ∨ sval l = 1 ∨ sval l = 2 ∨ sval l = 3) with e | e | e | e
    · exact ⟨0, by omega, e, by rw [← h1, e]; decide +kernel⟩
    · exact ⟨1, by omega, e, by rw [← h1, e]; decide +kernel⟩
    · exact ⟨2, by omega, e, by rw [← h1, e]; decide +kernel⟩
    · exact ⟨3, by omega, e, by rw [← h1, e]; decide +kernel⟩
  · rw [pOut_out ha] at h; cases h
theorem hasP_cons {t : List UInt8} (h : Lib.hasPrefix t [123] = true) : ∃ u, t = 123 :: u ∧ Lib.trimPrefix t [123] = u := by
  have h' := h
  unfold Lib.hasPrefix at h
  rw [List.isPrefixOf_iff_prefix] at h
  obtain ⟨u, rfl⟩ := h
  refine ⟨u, rfl, ?_⟩
  unfold Lib.trimPrefix
  rw [if_pos h']; rfl
theorem hasS_snoc {t : List UInt8} (h : Lib.hasSuffix t [125] = true) : ∃ u, t = u ++ [125] ∧ Lib.trimSuffix t [125] = u := by
  have h' := h
  unfold Lib.hasSuffix at h
  rw [List.isSuffixOf_iff_suffix] at h
  obtain ⟨u, rfl⟩ := h
  refine ⟨u, rfl, ?_⟩
  unfold Lib.trimSuffix
  rw [if_pos h']; simp
theorem cut44_hit {l : List UInt8} {i : Nat} (h : Lib.index l [44] = (i : Int)) : Lib.cut l [44] = (l.take i, l.drop (i + 1), true) := by
  unfold Lib.cut; rw [if_pos (by omega), h]; rfl
theorem index44_hit {l : List UInt8} {i : Nat} (h : Lib.index l [44] = (i : Int)) : l = l.take i ++ 44 :: l.drop (i + 1) := by
  rw [Lib.index_one] at h
  obtain ⟨h1, h2⟩ := Lib.indexByte_some h
  obtain ⟨hi, he⟩ := List.getElem?_eq_some_iff.1 h1
  conv => lhs; rw [← List.take_append_drop i l]
  rw [List.drop_eq_getElem_cons hi, he]
theorem kindL_cases (t : List UInt8) : (kindL t = 0) ∨ (t = [33] ∧ kindL t = 1) ∨ (t = [40, 41] ∧ kindL t = 2) ∨ (t = [46] ∧ kindL t = 4) ∨ (t = [124] ∧ kindL t = 5) ∨ (t = [42] ∧ kindL t = 6) := by
  unfold kindL
  split
  · rename_i h; exact .inr (.inl ⟨h, rfl⟩)
  · split
    · rename_i h; exact .inr (.inr (.inl ⟨h, rfl⟩))
    · split
      · rename_i h; exact .inr (.inr (.inr (.inl ⟨h, rfl⟩)))
      · split
        · rename_i h; exact .inr (.inr (.inr (.inr (.inl ⟨h, rfl⟩))))
        · split
          · rename_i h; exact .inr (.inr (.inr (.inr (.inr ⟨h, rfl⟩))))
          · exact .inl rfl
theorem kind_pl {t : List UInt8} (h : kindL t ≠ 0) : plB (bX t) = false ∧ okT (leafK (kindL t)) = true := by
  rcases kindL_cases t with h0 | ⟨rfl, _⟩ | ⟨rfl, _⟩ | ⟨rfl, _⟩ | ⟨rfl, _⟩ | ⟨rfl, _⟩
  · exact absurd h0 h
  all_goals decide +kernel
theorem repL_ok {t : List UInt8} (h : okT (repL t) = true) : ∃ b d : UInt8, t = [123, b, 44, d, 125] ∧ repL t = ⟨7, 0, (b.toNat : Int) - 48, (d.toNat : Int) - 48⟩ ∧ 48 ≤ b.toNat ∧ b.toNat ≤ 51 ∧ 48 ≤ d.toNat ∧ d.toNat ≤ 51 := by
  unfold repL at h ⊢
  split at h
  · rename_i a b c d e
    split at h
    · rename_i hc
      obtain ⟨rfl, rfl, rfl⟩ := hc
      have := okT_rep_in h rfl
      simp only at this
      exact ⟨b, d, rfl, rfl, by omega, by omega, by omega, by omega⟩
    · exact absurd h (by decide)
  · exact absurd h (by decide)
theorem byte_of {b : UInt8} (n : Nat) (h : b.toNat = n) (hn : n < 256) : b = UInt8.ofNat n := by
  rw [← h]; exact (UInt8.ofNat_toNat).symm
theorem byte48 {b : UInt8} (h1 : 48 ≤ b.toNat) (h2 : b.toNat ≤ 51) : b = 48 ∨ b = 49 ∨ b = 50 ∨ b = 51 := by
  rcases (by omega : b.toNat = 48 ∨ b.toNat = 49 ∨ b.toNat = 50 ∨ b.toNat = 51) with e | e | e | e
  · exact .inl (byte_of 48 e (by decide))
  · exact .inr (.inl (byte_of 49 e (by decide)))
  · exact .inr (.inr (.inl (byte_of 50 e (by decide))))
  · exact .inr (.inr (.inr (byte_of 51 e (by decide))))
theorem rep_yes {b d : UInt8} (hb : b = 48 ∨ b = 49 ∨ b = 50 ∨ b = 51) (hd : d = 48 ∨ d = 49 ∨ d = 50 ∨ d = 51) : repB [123, b, 44, d, 125] = true ∧ repT [123, b, 44, d, 125] = repL [123, b, 44, d, 125] := by
  rcases hb with rfl | rfl | rfl | rfl <;> rcases hd with rfl | rfl | rfl | rfl <;> decide +kernel
theorem rd_yes {t : List UInt8} (h : okT (rdL t) = true) : ptB t = true ∧ ptT t = rdL t := by
  by_cases hk : kindL t = 0
  · by_cases hp : plB (bX t) = true
    · exact ⟨by unfold ptB; rw [hp]; rfl, by unfold ptT rdL; rw [if_pos hp, if_pos hk, if_pos hp]⟩
    · have e : rdL t = repL t := by unfold rdL; rw [if_pos hk, if_neg hp]
      rw [e] at h ⊢
      have e2 : ptT t = repT t := by unfold ptT; rw [if_neg hp, if_pos hk]
      rw [e2]
      obtain ⟨b, d, rfl, _, b1, b2, d1, d2⟩ := repL_ok h
      obtain ⟨e1, e2⟩ := rep_yes (byte48 b1 b2) (byte48 d1 d2)
      exact ⟨by unfold ptB; rw [e1]; simp, e2⟩
  · have hp := (kind_pl hk).1
    exact ⟨by unfold ptB; simp [hk], by unfold ptT rdL; rw [if_neg hk, hp, if_neg (by decide), if_neg hk]⟩
theorem rd_no {t : List UInt8} (h : okT (rdL t) = false) : ptB t = false ∨ okT (ptT t) = false := by
  rcases Bool.eq_false_or_eq_true (ptB t) with hb | hb
  · right
    rcases Bool.eq_false_or_eq_true (okT (ptT t)) with ho | ho
    · exfalso
      unfold rdL at h
      unfold ptT at ho
      by_cases hk : kindL t = 0
      · rw [if_pos hk] at h ho
        by_cases hp : plB (bX t) = true
        · rw [if_pos hp] at h ho; rw [h] at ho; cases ho
        · rw [if_neg hp] at h ho
          have hr : repB t = true := by
            unfold ptB at hb
            simpa [hp, hk] using hb
          have hr' := hr
          unfold repT at ho
          rw [if_pos hr] at ho
          unfold repB at hr
          simp only [Bool.and_eq_true] at hr
          obtain ⟨⟨⟨r1, r2⟩, r3⟩, r4⟩ := hr
          obtain ⟨u, hu, hu2⟩ := hasP_cons r1
          rw [hu2] at r2
          obtain ⟨v, hv, hv2⟩ := hasS_snoc r2
          have hin : innL t = v := by unfold innL; rw [hu2]; exact hv2
          rw [hin] at r3 r4 ho
          have hq := okT_rep_in ho rfl
          simp only at hq
          obtain ⟨n, n3, en, ea⟩ := pOut_small r3 hq.1 hq.2.1
          obtain ⟨m, m3, em, eb⟩ := pOut_small r4 hq.2.2.1 hq.2.2.2
          rw [en, em] at ho
          by_cases hi : 0 ≤ Lib.index v [44]
          · obtain ⟨i, hi⟩ : ∃ i : Nat, Lib.index v [44] = (i : Int) := ⟨(Lib.index v [44]).toNat, by omega⟩
            rw [cut44_hit hi] at ea eb
            simp only at ea eb
            have hvv := index44_hit hi
            rw [ea, eb] at hvv
            have ht : t = [123, UInt8.ofNat (48 + n), 44, UInt8.ofNat (48 + m), 125] := by rw [hu, hv, hvv]; rfl
            have hn : (UInt8.ofNat (48 + n)).toNat = 48 + n := by rw [UInt8.toNat_ofNat']; omega
            have hm : (UInt8.ofNat (48 + m)).toNat = 48 + m := by rw [UInt8.toNat_ofNat']; omega
            have hl : repL t = ⟨7, 0, (n : Int), (m : Int)⟩ := by
              rw [ht]
              show (if (123 : UInt8) = 123 ∧ (44 : UInt8) = 44 ∧ (125 : UInt8) = 125 then (⟨7, 0, ((UInt8.ofNat (48 + n)).toNat : Int) - 48, ((UInt8.ofNat (48 + m)).toNat : Int) - 48⟩ : Tok) else leafK 0) = _
              rw [if_pos ⟨rfl, rfl, rfl⟩, hn, hm]
              congr 1 <;> omega
            rw [hl] at h
            rw [h] at ho; cases ho
          · have : (Lib.cut v [44]).2.1 = [] := by unfold Lib.cut; rw [if_neg hi]
            rw [this] at eb; cases eb
      · rw [if_neg hk] at h
        rw [(kind_pl hk).2] at h; cases h
    · exact ho
  · exact .inl hb
theorem repL_in (t : List UInt8) : (repL t).In := by
  unfold repL
  split
  · rename_i a b c d e
    split
    · have hb := b.toNat_lt
      have hd := d.toNat_lt
      exact ⟨int_lit 7 (by decide), int_lit 0 (by decide), by unfold InI; simp only; omega, by unfold InI; simp only; omega⟩
    · exact leafK_in 0 (by decide)
  · exact leafK_in 0 (by decide)
theorem rdL_in (t : List UInt8) : (rdL t).In := by
  unfold rdL
  split
  · split
    · refine ⟨int_lit 3 (by decide), ?_, int_lit 0 (by decide), int_lit 0 (by decide)⟩
      unfold plN pl InI
      cases h : (List.range 9).find? fun k => decide (fmtB k = bX t) with
      | none => simp
      | some k => have := List.mem_of_find?_eq_some h; simp at this; simp; omega
    · exact repL_in t
  · exact leafK_in _ (by rcases kindL_cases t with h | ⟨_, h⟩ | ⟨_, h⟩ | ⟨_, h⟩ | ⟨_, h⟩ | ⟨_, h⟩ <;> rw [h] <;> decide)
theorem pOut_inX (l : List UInt8) : InI (pOut l).1 := by
  by_cases h : Acc l
  · rw [pOut_in h]; have := sval_bounds l h.2.1; unfold InI; simp only; omega
  · rw [pOut_out h]; unfold InI; simp
theorem ptT_in (t : List UInt8) : (ptT t).In := by
  unfold ptT
  split
  · refine ⟨int_lit 3 (by decide), ?_, int_lit 0 (by decide), int_lit 0 (by decide)⟩
    unfold plN pl InI
    cases h : (List.range 9).find? fun k => decide (fmtB k = bX t) with
    | none => simp
    | some k => have := List.mem_of_find?_eq_some h; simp at this; simp; omega
  · split
    · unfold repT
      split
      · exact ⟨int_lit 7 (by decide), int_lit 0 (by decide), pOut_inX _, pOut_inX _⟩
      · exact leafK_in 0 (by decide)
    · exact leafK_in _ (by rcases kindL_cases t with h | ⟨_, h⟩ | ⟨_, h⟩ | ⟨_, h⟩ | ⟨_, h⟩ | ⟨_, h⟩ <;> rw [h] <;> decide)
theorem valid_no {xs : List Tok} {x : Tok} (h : x ∈ xs) (hn : okT x = false) : validXB xs = false := by
  rcases Bool.eq_false_or_eq_true (validXB xs) with hv | hv
  · have := (valid_all hv).2.2 x h; rw [hn] at this; cases this
  · exact hv
theorem valid_long {xs : List Tok} (h : 24 < xs.length) : validXB xs = false := by
  rcases Bool.eq_false_or_eq_true (validXB xs) with hv | hv
  · have := (valid_all hv).1; omega
  · exact hv
/-- What ParseExpr answers. -/
def pxL (s : ByteArray) : List Tok := ((cutL s.data.toList).take 25).map rdL
def pxB (s : ByteArray) : Bool := validXB (pxL s)
def pxA (s : ByteArray) : List Tok := if pxB s = true then pxL s else []
theorem pxA_len (s : ByteArray) : (pxA s).length ≤ 25 := by
  unfold pxA; split
  · unfold pxL; rw [List.length_map, List.length_take]; omega
  · simp
theorem px_fail {s : ByteArray} {k : Nat} (hk : k < (partsX25 s).length) (h : ptB (partsX25 s)[k] = false) : pxB s = false := by
  obtain ⟨sm1, sm2⟩ := partsX25_same s
  by_cases hl : (cutL s.data.toList).length ≤ 24
  · have e := sm1 hl
    unfold pxB pxL
    rw [List.take_of_length_le (by omega), ← e]
    refine valid_no (x := rdL (partsX25 s)[k]) (List.mem_map.2 ⟨_, List.getElem_mem hk, rfl⟩) ?_
    rcases Bool.eq_false_or_eq_true (okT (rdL (partsX25 s)[k])) with ho | ho
    · have := (rd_yes ho).1; rw [h] at this; cases this
    · exact ho
  · unfold pxB pxL
    exact valid_long (by rw [List.length_map, List.length_take]; omega)
theorem px_all {s : ByteArray} (h : ∀ t ∈ partsX25 s, ptB t = true) : validXB ((partsX25 s).map ptT) = pxB s ∧ (pxB s = true → (partsX25 s).map ptT = pxA s) := by
  obtain ⟨sm1, sm2⟩ := partsX25_same s
  by_cases hl : (cutL s.data.toList).length ≤ 24
  · have e := sm1 hl
    have e2 : pxL s = (partsX25 s).map rdL := by unfold pxL; rw [List.take_of_length_le (by omega), ← e]
    by_cases hall : ∀ t ∈ partsX25 s, okT (rdL t) = true
    · have : (partsX25 s).map ptT = (partsX25 s).map rdL := List.map_congr_left fun t ht => (rd_yes (hall t ht)).2
      rw [this, ← e2]
      exact ⟨rfl, fun hp => by unfold pxA; rw [if_pos hp]⟩
    · obtain ⟨t, ht, hn⟩ : ∃ t, t ∈ partsX25 s ∧ okT (rdL t) = false := by
        refine Classical.byContradiction fun hc => hall fun t ht => ?_
        rcases Bool.eq_false_or_eq_true (okT (rdL t)) with ho | ho
        · exact ho
        · exact absurd ⟨t, ht, ho⟩ hc
      have f1 : pxB s = false := by unfold pxB; rw [e2]; exact valid_no (List.mem_map.2 ⟨t, ht, rfl⟩) hn
      have f2 : validXB ((partsX25 s).map ptT) = false := by
        rcases rd_no hn with hb | hb
        · rw [h t ht] at hb; cases hb
        · exact valid_no (List.mem_map.2 ⟨t, ht, rfl⟩) hb
      rw [f1, f2]
      exact ⟨rfl, fun hp => by cases hp⟩
  · have f1 : pxB s = false := by
      unfold pxB pxL
      exact valid_long (by rw [List.length_map, List.length_take]; omega)
    have f2 : validXB ((partsX25 s).map ptT) = false := valid_long (by rw [List.length_map]; exact sm2 (by omega))
    rw [f1, f2]
    exact ⟨rfl, fun hp => by cases hp⟩
end Go.Proofs.YtiojgahjfndmdaaDoor
