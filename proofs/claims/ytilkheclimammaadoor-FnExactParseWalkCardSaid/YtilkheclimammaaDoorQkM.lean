/- ParseWalk: what it answers, told in the model's way and in the program's. -/
import Derived.Test.YtilkheclimammaaDoorFkM
import Derived.Test.YtilkheclimammaaDoorParsePlain
import Derived.Test.YtilkheclimammaaDoorCut
namespace Go.Proofs.YtilkheclimammaaDoor
set_option maxRecDepth 100000
open Go.ChangeShapes Go.WideShapes Go.ChangeAt Go.RowKit
set_option linter.unusedVariables false
set_option linter.unusedSimpArgs false

/-- A part without its last sign, and whether it has one. -/
def hasM (t : List UInt8) : Bool := t.getLast? == some 45
def cutM (t : List UInt8) : List UInt8 := if hasM t = true then t.dropLast else t
def sOf (t : List UInt8) : Stp := ⟨(pOut (cutM t)).1, hasM t⟩
def okP (t : List UInt8) : Bool := (pOut (cutM t)).2 && inB (sOf t).id 1 99
def partK (s : Stp) : List UInt8 := Lib.itoa s.id ++ (if s.inv = true then [45] else [])
theorem sepK_part (s : Stp) : sepK s = 32 :: partK s := by unfold sepK numK partK; rfl
theorem dd2 {u : Nat} (h : u ≤ 99) : ∀ b ∈ Lib.itoa (u : Int), isd b = true := by
  rw [Lib.itoa, if_neg (by omega)]; exact dd_all _
theorem itoa_no {u : Int} (h0 : 0 ≤ u) {c : UInt8} (hc : isd c = false) : c ∉ Lib.itoa u := by
  rw [Lib.itoa, if_neg (by omega)]
  intro hm
  have := dd_all _ c hm
  rw [this] at hc; cases hc
theorem itoa_ne (u : Int) : Lib.itoa u ≠ [] := by
  rw [Lib.itoa]; split
  · simp
  · exact dd_ne _
theorem itoa_body {u : Int} (h0 : 0 ≤ u) : isMinus (Lib.itoa u) = false := by
  unfold isMinus
  rw [Lib.itoa, if_neg (by omega)]
  cases h : Lib.decDigits u.toNat with
  | nil => exact absurd h (dd_ne _)
  | cons b l =>
    have := dd_all u.toNat b (by rw [h]; exact List.mem_cons_self ..)
    have hb := not_minus this
    simpa using hb
theorem dval_itoa (u : Nat) : dval (Lib.decDigits u) = u := by
  induction u using Nat.strongRecOn with
  | _ u ih =>
    by_cases h : u < 10
    · rw [dd_small h]
      have h1 := dval_snoc [] (UInt8.ofNat (48 + u))
      rw [List.nil_append, if_pos (isd_ofNat u h)] at h1
      rw [h1]
      have : (UInt8.ofNat (48 + u)).toNat = 48 + u := by rw [UInt8.toNat_ofNat']; omega
      rw [this]; simp [dval]
    · rw [dd_big h, dval_snoc, if_pos (isd_ofNat _ (by omega)), ih (u / 10) (by omega)]
      have : (UInt8.ofNat (48 + u % 10)).toNat = 48 + u % 10 := by rw [UInt8.toNat_ofNat']; omega
      rw [this]; omega
theorem len_itoa {u : Nat} (h : u ≤ 99) : (Lib.decDigits u).length ≤ 2 := by
  by_cases h1 : u < 10
  · rw [dd_small h1]; simp
  · rw [dd_big h1, dd_small (by omega)]; simp
theorem pOut_itoa {u : Int} (h0 : 0 ≤ u) (h1 : u ≤ 99) : pOut (Lib.itoa u) = (u, true) := by
  obtain ⟨n, rfl⟩ := Int.eq_ofNat_of_zero_le h0
  have hm := itoa_body h0
  have e : Lib.itoa (n : Int) = Lib.decDigits n := by rw [Lib.itoa, if_neg (by omega)]; rfl
  have hs : sval (Lib.itoa (n : Int)) = n := by unfold sval; rw [hm, e, dval_itoa]; rfl
  have hl := len_itoa (u := n) (by omega)
  have ha : Acc (Lib.itoa (n : Int)) := acc_of (by rw [body_plain hm, e]; omega) (by rw [body_plain hm]; exact dd2 (by omega)) (by rw [hs])
  rw [pOut_in ha, hs]
theorem pOut_yes {l : List UInt8} (h : (pOut l).2 = true) : Lib.itoa (pOut l).1 = l := by
  unfold pOut at h ⊢
  split at h
  · rename_i hc
    rw [if_pos hc]; exact hc.2.2
  · cases h
theorem hasM_part {s : Stp} (h0 : 0 ≤ s.id) : hasM (partK s) = s.inv := by
  unfold hasM partK
  cases hs : s.inv with
  | true => simp
  | false =>
    simp only [Bool.false_eq_true, if_false, List.append_nil]
    cases hl : (Lib.itoa s.id).getLast? with
    | none => rfl
    | some c =>
      have hm : c ∈ Lib.itoa s.id := List.mem_of_getLast? hl
      have hne : c ≠ 45 := fun e => by subst e; exact itoa_no h0 (by decide) hm
      simpa using hne
theorem cutM_part {s : Stp} (h0 : 0 ≤ s.id) : cutM (partK s) = Lib.itoa s.id := by
  unfold cutM
  rw [hasM_part h0]
  unfold partK
  cases hs : s.inv with
  | true => simp
  | false => simp
theorem part_sOf {s : Stp} (h0 : 1 ≤ s.id) (h1 : s.id ≤ 99) : sOf (partK s) = s ∧ okP (partK s) = true := by
  have hp := pOut_itoa (u := s.id) (by omega) h1
  have e : sOf (partK s) = s := by
    unfold sOf; rw [hasM_part (by omega), cutM_part (by omega), hp]
  refine ⟨e, ?_⟩
  unfold okP
  rw [cutM_part (by omega), hp, e, inB_true h0 h1]; rfl
theorem okP_part {t : List UInt8} (h : okP t = true) : partK (sOf t) = t ∧ okS (sOf t) = true := by
  unfold okP at h
  simp only [Bool.and_eq_true] at h
  have hp := pOut_yes h.1
  refine ⟨?_, h.2⟩
  unfold partK sOf
  dsimp only
  rw [hp]
  unfold cutM
  cases hm : hasM t with
  | false => simp
  | true =>
    simp only [if_true]
    unfold hasM at hm
    have hl : t.getLast? = some 45 := by simpa using hm
    have hne : t ≠ [] := by intro e; subst e; simp at hl
    have h45 : t.getLast hne = 45 := by
      have := List.getLast?_eq_some_getLast hne
      rw [hl] at this
      exact (Option.some.inj this).symm
    have := List.dropLast_concat_getLast hne
    rw [h45] at this
    exact this
def joinP (r : List (List UInt8)) : List UInt8 := r.flatMap (fun t => 32 :: t)
theorem cutL_join (l : List UInt8) : ∀ p r, cutL l = p :: r → l = p ++ joinP r := by
  induction l with
  | nil => intro p r h; simp [cutL] at h; obtain ⟨rfl, rfl⟩ := h; simp [joinP]
  | cons c l ih =>
    intro p r h
    rw [cutL] at h
    by_cases hc : c = 32
    · rw [if_pos hc] at h
      obtain ⟨rfl, rfl⟩ := List.cons.inj h
      cases h2 : cutL l with
      | nil => exact absurd h2 (cutL_ne l)
      | cons p2 r2 =>
        have := ih p2 r2 h2
        simp only [joinP, List.flatMap_cons, List.nil_append, List.cons_append]
        rw [hc]
        congr 1
    · rw [if_neg hc] at h
      cases h2 : cutL l with
      | nil => exact absurd h2 (cutL_ne l)
      | cons p2 r2 =>
        rw [h2] at h
        obtain ⟨rfl, rfl⟩ := List.cons.inj h
        rw [ih p2 r2 h2, List.cons_append]
theorem cutL_mk {p : List UInt8} (hp : (32 : UInt8) ∉ p) : ∀ r : List (List UInt8), (∀ t ∈ r, (32 : UInt8) ∉ t) → cutL (p ++ joinP r) = p :: r := by
  intro r
  induction r generalizing p with
  | nil => intro _; simp [joinP]; exact cutL_none hp
  | cons t r ih =>
    intro h
    have e : p ++ joinP (t :: r) = p ++ 32 :: (t ++ joinP r) := rfl
    rw [e, cutL_app _ hp, ih (h t (List.mem_cons_self ..)) (fun u hu => h u (List.mem_cons_of_mem _ hu))]
theorem preK_join (ss : List Stp) : preK ss = joinP (ss.map partK) := by
  unfold preK joinP
  rw [List.flatMap_map]
  congr 1
theorem part_no32 {s : Stp} (h0 : 0 ≤ s.id) : (32 : UInt8) ∉ partK s := by
  unfold partK
  intro h
  rcases List.mem_append.1 h with h | h
  · exact itoa_no h0 (by decide) h
  · split at h <;> simp at h
/-- The walk that the parts name, as the model reads them. -/
def wOf (p : List UInt8) (r : List (List UInt8)) : Wlk := ⟨(pOut p).1, (r.take 61).map sOf⟩
def pkB (s : ByteArray) (p : List UInt8) (r : List (List UInt8)) : Bool := decide (s ≠ ⟨#[]⟩) && decide (fmtK (wOf p r) = s)
/-- .. as the program does. -/
def piB (p : List UInt8) (r : List (List UInt8)) : Bool := (pOut p).2 && inB (pOut p).1 0 4 && decide (r.length ≤ 60) && r.all okP
theorem pk_same {s : ByteArray} {p : List UInt8} {r : List (List UInt8)} (h : cutL s.data.toList = p :: r) : pkB s p r = piB p r := by
  rw [Bool.eq_iff_iff]
  unfold pkB piB
  simp only [Bool.and_eq_true, decide_eq_true_eq, List.all_eq_true]
  constructor
  · rintro ⟨h1, h2⟩
    have hok : okK (wOf p r) = true := by
      cases hk : okK (wOf p r) with
      | true => rfl
      | false => unfold fmtK at h2; rw [hk] at h2; exact absurd h2.symm h1
    have h3 := hok
    unfold okK at h3
    simp only [Bool.and_eq_true, decide_eq_true_eq, List.all_eq_true] at h3
    obtain ⟨⟨a, b⟩, c⟩ := h3
    have hr : r.length ≤ 60 := by
      unfold wOf at b
      simp only [List.length_map, List.length_take] at b
      omega
    have hw : (wOf p r).ss = r.map sOf := by unfold wOf; rw [List.take_of_length_le (by omega)]
    have hst : 0 ≤ (wOf p r).st ∧ (wOf p r).st ≤ 4 := by unfold inB at a; simpa using a
    unfold fmtK at h2
    rw [if_pos hok] at h2
    have h4 : s.data.toList = Lib.itoa (wOf p r).st ++ joinP ((wOf p r).ss.map partK) := by rw [← preK_join, ← h2]
    have h5 := cutL_mk (p := Lib.itoa (wOf p r).st) (itoa_no hst.1 (by decide)) ((wOf p r).ss.map partK) (by
      intro t ht
      obtain ⟨u, hu, rfl⟩ := List.mem_map.1 ht
      exact part_no32 (by have := okS_b (c u hu); omega))
    rw [← h4, h] at h5
    obtain ⟨hp, hr2⟩ := List.cons.inj h5
    have hpo := pOut_itoa (u := (wOf p r).st) hst.1 (by omega)
    rw [← hp] at hpo
    refine ⟨⟨⟨by rw [hpo], by rw [hpo]; exact a⟩, hr⟩, ?_⟩
    intro t ht
    rw [hr2] at ht
    obtain ⟨u, hu, rfl⟩ := List.mem_map.1 ht
    have hb := okS_b (c u hu)
    exact (part_sOf hb.1 hb.2).2
  · rintro ⟨⟨⟨h1, h2⟩, h3⟩, h4⟩
    have hp := pOut_yes h1
    have hw : (wOf p r).ss = r.map sOf := by unfold wOf; rw [List.take_of_length_le (by omega)]
    have hall : ∀ u ∈ (wOf p r).ss, okS u = true := by
      intro u hu
      rw [hw] at hu
      obtain ⟨t, ht, rfl⟩ := List.mem_map.1 hu
      exact (okP_part (h4 t ht)).2
    have hf : fmtK (wOf p r) = ⟨(Lib.itoa (wOf p r).st ++ preK (wOf p r).ss).toArray⟩ := fmtK_in h2 (by rw [hw, List.length_map]; exact h3) hall
    have hj : s.data.toList = p ++ joinP r := cutL_join _ _ _ h
    have he : Lib.itoa (wOf p r).st ++ preK (wOf p r).ss = s.data.toList := by
      rw [hj, preK_join, hw, List.map_map]
      have e1 : Lib.itoa (wOf p r).st = p := hp
      have e2 : r.map (partK ∘ sOf) = r := by
        conv => rhs; rw [← List.map_id r]
        exact List.map_congr_left fun t ht => (okP_part (h4 t ht)).1
      rw [e1, e2]
    have hs : fmtK (wOf p r) = s := by rw [hf, he]
    refine ⟨fun e => ?_, hs⟩
    rw [← hs, hf] at e
    have e2 := congrArg (fun b : ByteArray => b.data.toList) e
    simp at e2
    exact itoa_ne _ e2.1
/-- What ParseWalk answers. -/
def pkW (p : List UInt8) (r : List (List UInt8)) : Wlk := if piB p r = true then ⟨(pOut p).1, r.map sOf⟩ else ⟨0, []⟩
theorem pkW_yes {p : List UInt8} {r : List (List UInt8)} (h : piB p r = true) : pkW p r = ⟨(pOut p).1, r.map sOf⟩ ∧ wOf p r = pkW p r ∧ r.length ≤ 60 := by
  have e : pkW p r = ⟨(pOut p).1, r.map sOf⟩ := by unfold pkW; rw [if_pos h]
  have h3 : r.length ≤ 60 := by unfold piB at h; simp only [Bool.and_eq_true, decide_eq_true_eq] at h; exact h.1.2
  refine ⟨e, ?_, h3⟩
  rw [e]; unfold wOf; rw [List.take_of_length_le (by omega)]
theorem pkW_no {p : List UInt8} {r : List (List UInt8)} (h : piB p r = false) : pkW p r = ⟨0, []⟩ := by unfold pkW; rw [if_neg (by rw [h]; decide)]
theorem pkW_len (p : List UInt8) (r : List (List UInt8)) : (pkW p r).ss.length ≤ 60 := by
  cases h : piB p r with
  | true => obtain ⟨a, _, b⟩ := pkW_yes h; rw [a]; simpa using b
  | false => rw [pkW_no h]; simp
end Go.Proofs.YtilkheclimammaaDoor
