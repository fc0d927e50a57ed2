/- ParseBatch: parts of strings; what it answers, told in the model's way and in the program's. -/
import Derived.Test.YtdbedoediicmhaaDoorPeS
import Derived.Test.YtdbedoediicmhaaDoorPeI
import Derived.Test.YtdbedoediicmhaaDoorFbM
import Derived.Test.YtdbedoediicmhaaDoorPw
namespace Go.Proofs.YtdbedoediicmhaaDoor
set_option maxRecDepth 100000
open Go.ChangeShapes Go.WideShapes Go.ChangeAt Go.RowKit
set_option linter.unusedVariables false
set_option linter.unusedSimpArgs false

abbrev bP (t : List UInt8) : ByteArray := ⟨t.toArray⟩
theorem bP_list (t : List UInt8) : (bP t).data.toList = t := by simp
theorem bP_size (t : List UInt8) : (bP t).size = t.length := by simp [ByteArray.size]
/-- What a list of parts lays out in block g. -/
def PartsAtP (g : Nat) (w : World) (P : List (List UInt8)) : Prop := ∀ W, Since w W → ∀ k (hk : k < P.length), W.cell? ⟨g, k, none⟩ = some (.string (bP P[k]))
def PartsOutP (w : World) (P : List (List UInt8)) (e : Ending) (w' : World) : Prop := ∃ g c, e = .returned (.slice (some ⟨g, 0, none⟩) P.length c) ∧ P.length ≤ c ∧ Since w w' ∧ Hid (PartsAtP g w' P)
theorem cut_partsP (s : ByteArray) (w : World) (hs : s.size ≤ 1048576) :
    Calls Tryd.prog 21 #[.string s, .int .u8 32] w (PartsOutP w (cutL s.data.toList)) := by
  refine (l2Cut_any s w hs).mono ?_
  rintro e w' ⟨v, rfl, ho, hs1⟩
  have hl : (cutB s).length = (cutL s.data.toList).length := cutB_length s
  have hp := cutL_pos s.data.toList
  have ho2 := ho
  rcases ho.2 with ⟨_, h0⟩ | ⟨g, cap, cur, rfl, hb, hg, hnc, _⟩
  · omega
  · refine ⟨g, cap, by rw [hl], by omega, hs1, fun W hW k hk => ?_⟩
    have hc := ho2.cellAt k (by omega)
    rw [Below.cell hW (p := ⟨g, k, none⟩) (heap_lt hg), hc, List.getElem?_map]
    unfold cutB
    rw [List.getElem?_map, List.getElem?_eq_getElem hk]
    rfl
theorem len_splitP (N : Nat) (hN : 2 ≤ N) (s : ByteArray) : ((cutL s.data.toList).length ≤ N - 1 → Lib.splitB sp 0 (min N (s.size + 1) - 1) s = cutB s) ∧ (N - 1 < (cutL s.data.toList).length → N - 1 < (Lib.splitB sp 0 (min N (s.size + 1) - 1) s).length) := by
  obtain ⟨k, hk⟩ : ∃ k, k = min N (s.size + 1) - 1 := ⟨_, rfl⟩
  rw [← hk]
  have hd := Lib.splitB_data sp 0 k s
  have hz : s.size = s.data.toList.length := rfl
  obtain ⟨a, b⟩ := splitK_cut k s.data.toList
  have hle := cutL_length_le s.data.toList
  have hlen : (Lib.splitB sp 0 k s).length = (Lib.splitK [32] 0 k s.data.toList).length := by
    have := congrArg List.length hd; rw [List.length_map] at this; exact this
  refine ⟨fun h => ?_, fun h => ?_⟩
  · have a := a (by omega)
    rw [show sp.data.toList = [32] from rfl, a] at hd
    rw [← map_back (Lib.splitB sp 0 k s), hd]; rfl
  · rw [hlen]
    by_cases h9 : (cutL s.data.toList).length ≤ k + 1
    · rw [a h9]; omega
    · rw [b (by omega)]; omega
theorem split_partP (k : Nat) : ∀ s : ByteArray, (∀ q ∈ Lib.splitB sp 0 k s, q.size ≤ s.size) ∧ 1 ≤ (Lib.splitB sp 0 k s).length := by
  induction k with
  | zero => intro s; rw [Lib.splitB_zero]; simp
  | succ k ih =>
    intro s
    by_cases hi : Lib.indexB s sp = -1
    · rw [Lib.splitB_miss _ _ _ _ hi]; simp
    · obtain ⟨i, hh⟩ : ∃ i : Nat, Lib.indexB s sp = (i : Int) := ⟨(Lib.indexB s sp).toNat, by have := Lib.index_ge s.data.toList sp.data.toList; unfold Lib.indexB at *; omega⟩
      rw [Lib.splitB_hit _ _ _ _ _ hh]
      refine ⟨fun q hq => ?_, by simp⟩
      rcases List.mem_cons.1 hq with rfl | hq
      · rw [ByteArray.size_extract]; omega
      · have := (ih _).1 q hq
        rw [ByteArray.size_extract] at this; omega
def joinQ (r : List (List UInt8)) : List UInt8 := r.flatMap (fun t => 32 :: t)
theorem cutL_joinQ (l : List UInt8) : ∀ p r, cutL l = p :: r → l = p ++ joinQ r := by
  induction l with
  | nil => intro p r h; simp [cutL] at h; obtain ⟨rfl, rfl⟩ := h; simp [joinQ]
  | cons c l ih =>
    intro p r h
    rw [cutL] at h
    by_cases hc : c = 32
    · rw [if_pos hc] at h
      obtain ⟨rfl, rfl⟩ := List.cons.inj h
      cases h2 : cutL l with
      | nil => exact absurd h2 (cutL_ne l)
      | cons p2 r2 =>
        have := ih p2 r2 h2
        simp only [joinQ, List.flatMap_cons, List.nil_append, List.cons_append]
        rw [hc]
        congr 1
    · rw [if_neg hc] at h
      cases h2 : cutL l with
      | nil => exact absurd h2 (cutL_ne l)
      | cons p2 r2 =>
        rw [h2] at h
        obtain ⟨rfl, rfl⟩ := List.cons.inj h
        rw [ih p2 r2 h2, List.cons_append]
theorem pOut_inB (l : List UInt8) : InI (pOut l).1 := by
  by_cases h : Acc l
  · rw [pOut_in h]; have := sval_bounds l h.2.1; unfold InI; simp only; omega
  · rw [pOut_out h]; unfold InI; simp
theorem gb_inB (m : ByteArray) (i : Nat) : 0 ≤ gb m i ∧ gb m i < 256 := by
  unfold gb; split
  · rename_i h; have := byte_lt m i h; omega
  · omega
theorem peO_inB (s : ByteArray) : (peO s).1.In := by
  unfold peO
  split
  · split
    · rename_i a m _ _
      refine ⟨pOut_inB _, ?_, ?_, ?_⟩
      · have := gb_inB m 0; unfold InI eOf; simp only; omega
      · have := gb_inB m 2; unfold InI eOf; simp only; omega
      · have := plN_half (m.extract 1 2); unfold InI eOf; simp only; omega
    · exact zeroE_in
  · exact zeroE_in
/-- The parts that the program reads. -/
def parts7 (s : ByteArray) : List (List UInt8) := (Lib.splitB sp 0 (min 7 (s.size + 1) - 1) s).map (·.data.toList)
theorem parts7_back (s : ByteArray) : (parts7 s).map bP = Lib.splitB sp 0 (min 7 (s.size + 1) - 1) s := map_back _
theorem parts7_le (s : ByteArray) : ∀ t ∈ parts7 s, t.length ≤ s.size := by
  intro t ht
  obtain ⟨q, hq, rfl⟩ := List.mem_map.1 ht
  have := (split_partP _ s).1 q hq
  have e : q.data.toList.length = q.size := by rw [Array.length_toList]; rfl
  omega
theorem parts7_same (s : ByteArray) : ((cutL s.data.toList).length ≤ 6 → parts7 s = cutL s.data.toList) ∧ (6 < (cutL s.data.toList).length → 6 < (parts7 s).length) := by
  obtain ⟨a, b⟩ := len_splitP 7 (by omega) s
  refine ⟨fun hl => ?_, fun hl => ?_⟩
  · have e := a (by omega)
    unfold parts7; rw [e]; unfold cutB; rw [List.map_map]
    conv => rhs; rw [← List.map_id (cutL s.data.toList)]
    exact List.map_congr_left fun q _ => by simp
  · have := b (by omega)
    unfold parts7
    rw [List.length_map]
    omega
theorem splitN7_parts (s : ByteArray) (w : World) (hs : s.size ≤ 1048576) (hm : MaxL w) :
    Calls Tryd.prog 23 #[.string s, .string ⟨#[32]⟩, .int .i64 7] w (PartsOutP w (parts7 s)) := by
  obtain ⟨_, m, hm⟩ := hm
  refine (Tryd.strings_SplitN s sp 7 m w (by omega) hm (by decide) (by omega) (by omega)).mono ?_
  rintro e w' ⟨rfl, hw⟩
  have hl := Lib.splitB_length_le sp 0 (min 7 (s.size + 1) - 1) s
  have hpl : (parts7 s).length = (Lib.splitB sp 0 (min 7 (s.size + 1) - 1) s).length := by unfold parts7; rw [List.length_map]
  refine ⟨_, _, by rw [hpl], by omega, by rw [hw]; exact (Since.refl w).alloc _, fun W hW k hk => ?_⟩
  rw [Below.cell hW (p := ⟨w.heap.size, k, none⟩) (by rw [hw]; simp), hw, World.cell?_alloc_at _ _ _ _ rfl]
  unfold Lib.cellsOf
  rw [← parts7_back, List.getElem?_toArray, List.getElem?_append_left (by simpa using hk), List.getElem?_map, List.getElem?_map, List.getElem?_eq_getElem hk]; rfl
/-- A change read from a part. -/
def hdP (t : List UInt8) : UInt8 := t.headD 0
def cgO (t : List UInt8) : Chg := ⟨hdP t == 43, (peO (bP t.tail)).1⟩
def okC (t : List UInt8) : Bool := decide (2 ≤ t.length) && (peO (bP t.tail)).2
def sgO (t : List UInt8) : Bool := hdP t == 43 || hdP t == 45
theorem pe_some {s : ByteArray} (h : (peO s).2 = true) : fmtE (peO s).1 = s := by
  unfold peO at h ⊢
  split
  · rename_i a m he
    rw [he] at h
    dsimp only at h
    by_cases hc : m.size = 3 ∧ fmtE (eOf a m) = s
    · rw [if_pos hc]; exact hc.2
    · rw [if_neg hc] at h; cases h
  · rename_i hne
    split at h
    · rename_i a m he; exact absurd he (hne a m)
    · cases h
theorem pe_ok {t : List UInt8} (h : okC t = true) : edB 5 (cgO t).ed = true ∧ t = hdP t :: (fmtE (cgO t).ed).data.toList := by
  unfold okC at h
  rw [Bool.and_eq_true, decide_eq_true_eq] at h
  obtain ⟨h1, h2⟩ := h
  have e := pe_some h2
  cases t with
  | nil => simp at h1
  | cons x u =>
    simp only [List.tail_cons] at e h2
    have hu : (cgO (x :: u)).ed = (peO (bP u)).1 := rfl
    rw [hu, e]
    refine ⟨?_, by simp [hdP]⟩
    rcases Bool.eq_false_or_eq_true (edB 5 (peO (bP u)).1) with hb | hb
    · exact hb
    · rw [fmtE_out hb] at e
      have := congrArg ByteArray.size e
      rw [bP_size u] at this
      have e0 : (⟨#[]⟩ : ByteArray).size = 0 := rfl
      simp at h1
      omega
theorem fmt_part {t : List UInt8} (h : okC t = true) : (fmtC (cgO t)).data.toList = sgnC (cgO t) :: (fmtE (cgO t).ed).data.toList := by
  unfold fmtC; simp
theorem fmt_part_len {t : List UInt8} (h : okC t = true) : (fmtC (cgO t)).data.toList.length = t.length := by
  rw [fmt_part h]
  conv => rhs; rw [(pe_ok h).2]
  simp
theorem fmt_part_eq {t : List UInt8} (h : okC t = true) (hs : sgO t = true) : (fmtC (cgO t)).data.toList = t := by
  rw [fmt_part h]
  conv => rhs; rw [(pe_ok h).2]
  congr 1
  unfold sgO at hs
  unfold sgnC cgO
  dsimp only
  by_cases h1 : hdP t = 43
  · simp [h1]
  · have h2 : hdP t = 45 := by simpa [h1] using hs
    simp [h2]
theorem part_sgn {t : List UInt8} (h : okC t = true) (he : (fmtC (cgO t)).data.toList = t) : sgO t = true := by
  rw [fmt_part h] at he
  have h1 : hdP t = sgnC (cgO t) := (congrArg hdP he).symm
  unfold sgO
  rw [h1]
  unfold sgnC
  split <;> rfl
theorem join_Q (p : List UInt8) (r : List (List UInt8)) : Lib.join (p :: r) [32] = p ++ joinQ r := by
  rw [Lib.join_cons]
  unfold Lib.joinTail joinQ
  rw [List.flatMap_def]
  rfl
theorem joinQ_inj : ∀ (r r' : List (List UInt8)), r.map List.length = r'.map List.length → joinQ r = joinQ r' → r = r' := by
  intro r
  induction r with
  | nil => intro r' h _; cases r' with
    | nil => rfl
    | cons => simp at h
  | cons t r ih =>
    intro r' h e
    cases r' with
    | nil => simp at h
    | cons t' r' =>
      simp only [List.map_cons, List.cons.injEq] at h
      have e2 : t ++ joinQ r = t' ++ joinQ r' := by
        have : (32 :: t) ++ joinQ r = (32 :: t') ++ joinQ r' := e
        simpa using this
      obtain ⟨a, b⟩ := List.append_inj e2 h.1
      rw [a, ih r' h.2 b]
theorem parts_inj {L L' : List (List UInt8)} (h0 : L ≠ []) (h : L.map List.length = L'.map List.length) (e : Lib.join L [32] = Lib.join L' [32]) : L = L' := by
  cases L with
  | nil => exact absurd rfl h0
  | cons p r =>
    cases L' with
    | nil => simp at h
    | cons p' r' =>
      rw [join_Q, join_Q] at e
      simp only [List.map_cons, List.cons.injEq] at h
      obtain ⟨a, b⟩ := List.append_inj e h.1
      rw [a, joinQ_inj r r' h.2 b]
theorem cut_join (l : List UInt8) : Lib.join (cutL l) [32] = l := by
  cases h : cutL l with
  | nil => exact absurd h (cutL_ne l)
  | cons p r => rw [join_Q]; exact (cutL_joinQ l p r h).symm
/-- What ParseBatch answers, by all parts. -/
def pbC (L : List (List UInt8)) : Bool := decide (L.length ≤ 6) && L.all fun t => okC t && sgO t
def pbL (L : List (List UInt8)) : List Chg := if pbC L = true then L.map cgO else []
theorem fmtCL_parts (L : List (List UInt8)) : fmtCL (L.map cgO) = Lib.join (L.map fun t => (fmtC (cgO t)).data.toList) [32] := by
  unfold fmtCL; rw [List.map_map]; rfl
theorem pb_fmt {s : ByteArray} {L : List (List UInt8)} (hL : L = cutL s.data.toList) (h7 : (L.take 7).all okC = true) (hs : s ≠ ⟨#[]⟩) : decide (fmtBat ((L.take 7).map cgO) = s) = pbC L := by
  have hne : L ≠ [] := by rw [hL]; exact cutL_ne _
  have hsz : s = ⟨s.data.toList.toArray⟩ := by obtain ⟨⟨l⟩⟩ := s; rfl
  rw [Bool.eq_iff_iff, decide_eq_true_eq]
  constructor
  · intro h
    have hok : okFB ((L.take 7).map cgO) = true := by
      cases hc : okFB ((L.take 7).map cgO) with
      | true => rfl
      | false => unfold fmtBat at h; rw [hc] at h; exact absurd h.symm hs
    have hlen : L.length ≤ 6 := by
      unfold okFB at hok
      rw [Bool.and_eq_true, decide_eq_true_eq, List.length_map, List.length_take] at hok
      omega
    rw [List.take_of_length_le (by omega)] at h h7 hok
    unfold fmtBat at h
    rw [if_pos hok] at h
    have h2 : fmtCL (L.map cgO) = s.data.toList := by
      unfold fmtCB at h
      have := congrArg (fun b : ByteArray => b.data.toList) h
      simpa using this
    rw [fmtCL_parts] at h2
    have h3 : Lib.join L [32] = s.data.toList := by rw [hL]; exact cut_join _
    have h4 : L.map (fun t => (fmtC (cgO t)).data.toList) = L := by
      refine parts_inj (by simpa using hne) ?_ (h2.trans h3.symm)
      rw [List.map_map]
      refine List.map_congr_left fun t ht => ?_
      exact fmt_part_len (List.all_eq_true.1 h7 t ht)
    unfold pbC
    rw [decide_eq_true hlen, Bool.true_and, List.all_eq_true]
    intro t ht
    have h5 := List.all_eq_true.1 h7 t ht
    rw [h5, Bool.true_and]
    obtain ⟨i, hi, rfl⟩ := List.getElem_of_mem ht
    refine part_sgn h5 ?_
    have := congrArg (fun l => l[i]?) h4
    simpa [hi] using this
  · intro h
    unfold pbC at h
    rw [Bool.and_eq_true, decide_eq_true_eq, List.all_eq_true] at h
    obtain ⟨hlen, hall⟩ := h
    rw [List.take_of_length_le (by omega)]
    have h4 : L.map (fun t => (fmtC (cgO t)).data.toList) = L := by
      conv => rhs; rw [← List.map_id L]
      refine List.map_congr_left fun t ht => ?_
      have := hall t ht
      rw [Bool.and_eq_true] at this
      exact fmt_part_eq this.1 this.2
    have hok : (L.map cgO).all (fun c => edB 5 c.ed) = true := by
      rw [List.all_map, List.all_eq_true]
      intro t ht
      have := hall t ht
      rw [Bool.and_eq_true] at this
      exact (pe_ok this.1).1
    rw [fmtBat_in (by rw [List.length_map]; exact hlen) hok]
    unfold fmtCB
    rw [fmtCL_parts, h4, hL, cut_join]
    try exact hsz.symm
theorem pb_bad {s : ByteArray} {L : List (List UInt8)} (k : Nat) (hk : k < L.length) (h : (okC L[k] && sgO L[k]) = false) : pbC L = false := by
  unfold pbC
  have : L.all (fun t => okC t && sgO t) = false := by
    cases ha : L.all (fun t => okC t && sgO t) with
    | false => rfl
    | true =>
      rw [List.all_eq_true] at ha
      have := ha L[k] (List.getElem_mem hk)
      rw [h] at this; cases this
  rw [this, Bool.and_false]
theorem pbL_in (L : List (List UInt8)) : ∀ c ∈ pbL L, c.ed.In := by
  intro c hc
  unfold pbL at hc
  split at hc
  · obtain ⟨t, ht, rfl⟩ := List.mem_map.1 hc
    exact peO_inB _
  · simp at hc
/-- What ParseBatch answers. -/
def pBat (s : ByteArray) : List Chg := if s = ⟨#[]⟩ then [] else pbL (cutL s.data.toList)
def pOk (s : ByteArray) : Bool := if s = ⟨#[]⟩ then true else pbC (cutL s.data.toList)
end Go.Proofs.YtdbedoediicmhaaDoor
