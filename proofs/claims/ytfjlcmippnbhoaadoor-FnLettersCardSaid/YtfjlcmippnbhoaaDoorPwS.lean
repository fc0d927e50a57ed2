/- ParseWord: what it answers; the model's. -/
import Derived.Test.YtfjlcmippnbhoaaDoorPw
import Derived.Test.YtfjlcmippnbhoaaDoorPl
namespace Go.Proofs.YtfjlcmippnbhoaaDoor
set_option linter.unusedVariables false
open Go.ChangeShapes Go.WideShapes Go.ChangeAt Go.RowKit

def nilS : ByteArray := ⟨#[40, 41]⟩
theorem nilS_list : nilS.toList = [40, 41] := by rw [ByteArray.toList_eq]; rfl
def pwOk (s : ByteArray) : Bool := decide ((cutB s).length ≤ 8) && (cutB s).all plB
def pwB (s : ByteArray) : Bool := decide (s = nilS) || pwOk s
def pwL (s : ByteArray) : List Int := if s = nilS then [] else if pwOk s = true then (cutB s).map plN else []
theorem pw_nil {s : ByteArray} (h : s = nilS) : pwB s = true ∧ pwL s = [] := by unfold pwB pwL; rw [if_pos h]; simp [h]
theorem pw_bad {s : ByteArray} (h : s ≠ nilS) (h2 : pwOk s = false) : pwB s = false ∧ pwL s = [] := by unfold pwB pwL; rw [if_neg h, h2]; simp [h]
theorem pw_good {s : ByteArray} (h : s ≠ nilS) (h2 : pwOk s = true) : pwB s = true ∧ pwL s = (cutB s).map plN := by unfold pwB pwL; rw [if_neg h, h2]; simp
theorem pwOk_bad {s : ByteArray} (k : Nat) (h : k < (cutB s).length) (h2 : plB (cutB s)[k] = false) : pwOk s = false := by
  unfold pwOk
  rw [Bool.and_eq_false_iff]; right
  rw [List.all_eq_false]
  exact ⟨_, List.getElem_mem h, by simp [h2]⟩
theorem pwOk_long {s : ByteArray} (h : 8 < (cutB s).length) : pwOk s = false := by
  unfold pwOk
  rw [Bool.and_eq_false_iff]; left
  simp; omega
theorem pwOk_good {s : ByteArray} (h : (cutB s).length ≤ 8) (h2 : (cutB s).all plB = true) : pwOk s = true := by
  unfold pwOk; rw [h2]; simp [h]
theorem pl_le {s : ByteArray} {k : Nat} (h : pl s = some k) : k ≤ 8 := by
  unfold pl at h
  have := List.mem_of_find?_eq_some h
  simp at this; omega
theorem plN_in (s : ByteArray) : inB (plN s) 0 8 = true ∧ InI (plN s) := by
  have : 0 ≤ plN s ∧ plN s ≤ 8 := by
    unfold plN
    cases h : pl s with
    | none => exact ⟨by decide, by decide⟩
    | some k => have := pl_le h; simp; omega
  exact ⟨inB_true this.1 this.2, by unfold InI; omega⟩
theorem word_of (ss : List ByteArray) : isWordB (ss.map plN) = decide (ss.length ≤ 8) := by
  rw [all_good]
  · rw [List.length_map]
  · rw [List.all_eq_true]
    intro x hx
    obtain ⟨y, _, rfl⟩ := List.mem_map.1 hx
    exact (plN_in y).1
theorem all_snoc {ss : List ByteArray} (k : Nat) (h : k < ss.length) (h1 : (ss.take k).all plB = true) (h2 : plB ss[k] = true) : (ss.take (k + 1)).all plB = true := by
  rw [List.take_succ_eq_append_getElem h, List.all_append, h1]; simp [h2]
theorem map_snoc {ss : List ByteArray} (k : Nat) (h : k < ss.length) : ((ss.take (k + 1)).map plN).map icell = ((ss.take k).map plN).map icell ++ [.int .i64 (plN ss[k])] := by
  rw [List.take_succ_eq_append_getElem h, List.map_append, List.map_append]; rfl
theorem ins_of (ss : List ByteArray) : ∀ x ∈ ss.map plN, InI x := by
  intro x hx
  obtain ⟨y, _, rfl⟩ := List.mem_map.1 hx
  exact (plN_in y).2

theorem strs_cells {base : Nat} {w : World} {v : Value} {ss : List ByteArray} (h : OwnS base w v ss) (hp : 0 < ss.length) :
    ∃ g cap, v = .slice (some ⟨g, 0, none⟩) ss.length cap ∧ base ≤ g ∧ g < w.heap.size ∧ (∃ cur, w.heap[g]? = some (.cells cur 9 (0, 0))) ∧ ∀ (j : Nat) (hj : j < ss.length), w.cell? ⟨g, 0 + j, none⟩ = some (.string ss[j]) := by
  have h' := h
  rcases h.2 with ⟨hv, hn⟩ | ⟨g, cap, cur, hv, hb, hg, _⟩
  · omega
  · subst hv
    refine ⟨g, cap, rfl, hb, heap_lt hg, ⟨cur, hg⟩, fun j hj => ?_⟩
    unfold OwnS at h'
    obtain ⟨_, _, hc⟩ := own_cells h'
    exact hc j _ (List.getElem?_eq_getElem hj)
theorem cutB_pos (s : ByteArray) : 0 < (cutB s).length := by rw [cutB_length]; have := cutL_pos s.data.toList; omega

def PwOut (w : World) (s : ByteArray) (e : Ending) (w' : World) : Prop := ∃ v, e = .returned (.tuple #[v, .bool (pwB s)]) ∧ Own w.heap.size w' v (pwL s) ∧ Since w w'
theorem pwOut_none {w w' : World} {s : ByteArray} {v : Value} (h : pwB s = false ∧ pwL s = []) (ho : Own w.heap.size w' v []) (hs : Since w w') : PwOut w s (.returned (.tuple #[v, .bool false])) w' :=
  ⟨v, by rw [h.1], by rw [h.2]; exact ho, hs⟩
theorem pwOut_some {w w' : World} {s : ByteArray} {v : Value} {xs : List Int} (h : pwB s = true ∧ pwL s = xs) (ho : Own w.heap.size w' v xs) (hs : Since w w') : PwOut w s (.returned (.tuple #[v, .bool true])) w' :=
  ⟨v, by rw [h.1], by rw [h.2]; exact ho, hs⟩
theorem own_lit (w w1 : World) (h : Since w w1) : Own w.heap.size (w1.alloc (.cells #[] 3)) (.slice (some ⟨w1.heap.size, 0, none⟩) 0 0) [] :=
  ⟨fun x hx => by simp at hx, World.ownsRow_lit w1 _ 0 h.lt (by decide) (by simp)⟩
theorem own_nil (w w1 : World) : Own w.heap.size w1 (.slice none 0 0) [] :=
  ⟨fun x hx => by simp at hx, World.ownsRow_nil _ _ _ _⟩

set_option maxHeartbeats 4000000 in
set_option maxRecDepth 100000 in
theorem specPW_any (s : ByteArray) (w : World) (hs : s.size ≤ 1048576) :
    Calls Tryd.prog 30 #[.string s] w (PwOut w s) := by
  by_cases hnil : s = nilS
  · have HR := Lib.hid (pw_nil hnil)
    subst hnil
    have he : (nilS.toList == [40, 41]) = true := by rw [nilS_list]; decide
    go_enter Tryd.func30, Tryd.ntmps30
    go_wp2
    go_ret2
    exact pwOut_some HR.out (own_lit w w (Since.refl w)) ((Since.refl w).alloc _)
  · have he : (s.toList == [40, 41]) = false := by have := str_ne hnil; rwa [nilS_list] at this
    have HN := Lib.hid hnil
    clear hnil
    go_enter Tryd.func30, Tryd.ntmps30
    go_wp2_with fail
    refine (l2Cut_any s _ hs).mono ?_
    rintro e w1 ⟨vs, rfl, hso, hs1⟩
    obtain ⟨g, cap, rfl, hg0, hg1, ⟨cur, hcur⟩, hcl⟩ := strs_cells hso (cutB_pos s)
    have HCUR := Lib.hid hcur
    clear hcur
    have HCL := Lib.hid hcl
    clear he hcl hso
    obtain ⟨ss, hss⟩ : ∃ ss, ss = cutB s := ⟨_, rfl⟩
    have HSS := Lib.hid hss
    rw [← hss] at HCL ⊢
    clear hss
    obtain ⟨n, hn⟩ : ∃ n, n = ss.length := ⟨_, rfl⟩
    rw [← hn]
    have HNN := Lib.hid hn
    clear hn
    have hs0 : Since w w1 := ((Since.refl w).alloc _).trans hs1
    have hrow0 : w1.ownsRow w.heap.size 3 1 (.slice (some ⟨w.heap.size, 0, none⟩) 0 0) 0 (((ss.take 0).map plN).map icell) :=
      ((own_lit w w (Since.refl w)).since hs1).2
    have HR0 := Lib.hid hrow0
    have HS0 := Lib.hid hs0
    clear hrow0 hs0 hs1
    go_wp2_with fail
    go_loopw [4, 6] (fun out i wr => ∃ k : Nat, k ≤ n ∧ k ≤ 9 ∧ i = .int .i64 k ∧ Hid ((ss.take k).all plB = true) ∧ wr.ownsRow w.heap.size 3 1 out k (((ss.take k).map plN).map icell) ∧ Since w wr ∧ Hid (wr.heap[g]? = w1.heap[g]?)) (fun _ i _ => 9 - (intOf i).toNat)
    case atStart => exact ⟨0, Nat.zero_le _, by omega, rfl, rfl, HR0.out, HS0.out, rfl⟩
    case round =>
      obtain ⟨k, hk, hk9, rfl, HA, hown, hsin, HG⟩ := hrel
      by_cases hlt : k < n
      · have hki : (k : Int) < (n : Int) := by omega
        by_cases h8 : k ≤ 8
        · have h8i : (k : Int) ≤ 8 := by omega
          have hx : k < ss.length := by have := HNN.out; omega
          have hcell : wr.cell? ⟨g, k, none⟩ = some (.string ss[k]) := by
            have := HCL.out k hx
            rw [Nat.zero_add] at this
            rw [World.cell?_of_block (w := w1) (w' := wr) (a := ⟨g, k, none⟩) HG.out]; exact this
          cases hp : plB ss[k] with
          | false =>
            have HBAD : Hid (pwOk s = false) := pwOk_bad k (by rw [← HSS.out]; exact hx) (by have := HSS.out; subst this; exact hp)
            have HS := Lib.hid hsin
            clear hown hsin
            go_wp2_with fail
            refine (specPL_any ss[k] _).mono ?_
            rintro e w2 ⟨rfl, hs2⟩
            have hs3 := HS.out.trans hs2
            go_wp2_with fail
            go_ret2
            exact pwOut_none (pw_bad HN.out HBAD.out) (own_lit w w2 hs3) (hs3.alloc _)
          | true =>
            have HA2 := Lib.hid (all_snoc k hx HA.out hp)
            have HS := Lib.hid hsin
            have HO := Lib.hid hown
            clear hown hsin
            go_wp2_with fail
            refine (specPL_any ss[k] _).mono ?_
            rintro e w2 ⟨rfl, hs2⟩
            have hs3 := HS.out.trans hs2
            have hown3 : w2.ownsRow w.heap.size 3 1 u4 k (((ss.take k).map plN).map icell) :=
              (Own.since ⟨ins_of _, by rw [List.length_map, List.length_take, Nat.min_eq_left (Nat.le_of_lt hx)]; exact HO.out⟩ hs2 : Own w.heap.size w2 u4 ((ss.take k).map plN)).2 |> fun h => by rwa [List.length_map, List.length_take, Nat.min_eq_left (Nat.le_of_lt hx)] at h
            have HG2 : Hid (w2.heap[g]? = w1.heap[g]?) := (hs2.block g (by have h1 := HG.out; have h2 := HCUR.out; rw [h2] at h1; exact heap_lt h1)).trans HG.out
            have HNE : Hid (u4.ownBlock ≠ some g) := other_type hown3 (HG2.out.trans HCUR.out) (by decide)
            have HLT : Hid (g < w2.heap.size) := heap_lt (HG2.out.trans HCUR.out)
            have HB1 : Hid ((k + 1) * 8 ≤ 140737488355328) := by unfold Hid; omega
            have HB2 : Hid (k + 1 ≤ maxLen) := by unfold Hid maxLen; omega
            clear hs2
            go_wp2_with (at_builtin; go_must (refine append_cell_k rfl _ _ 30 rfl 3 (.int .i64 0) 8 Tryd.underlying30 info_int rfl _ k _ rfl hown3 hs3 _ rfl rfl HB1.out HB2.out ?_); intro v' w3 hown4 hsin4 hkept)
            have hown5 : w3.ownsRow w.heap.size 3 1 v' (k + 1) (((ss.take (k + 1)).map plN).map icell) := by
              rw [map_snoc k hx]; exact hown4
            have HG3 : Hid (w3.heap[g]? = w1.heap[g]?) := (hkept g HLT.out HNE.out).trans HG2.out
            clear hkept hown4
            go_roundw
            case rel => exact ⟨k + 1, by omega, by omega, by go_num, HA2, hown5, hsin4, HG3⟩
            case measure => simp [intOf]; omega
        · have h8i : ¬ (k : Int) ≤ 8 := by omega
          have HB : Hid (pwOk s = false) := pwOk_long (by rw [← HSS.out, ← HNN.out]; omega)
          have HWO : Hid (Own w.heap.size wr u4 ((ss.take k).map plN)) := ⟨ins_of _, by rw [List.length_map, List.length_take, Nat.min_eq_left (by have := HNN.out; omega)]; exact hown⟩
          have hiw : isWordB ((ss.take k).map plN) = false := by
            rw [word_of, List.length_take, Nat.min_eq_left (by have := HNN.out; omega)]; simp; omega
          have hlx : ((ss.take k).map plN).length ≤ 1048577 := by
            rw [List.length_map, List.length_take, Nat.min_eq_left (by have := HNN.out; omega)]; omega
          have HIW := Lib.hid (specIW_any u4 _ wr HWO.out.at hlx)
          rw [hiw] at HIW
          have HS := Lib.hid hsin
          clear hown hsin hiw hlx
          go_wp2_with fail
          with_reducible refine (HIW.out).mono ?_
          rintro e w' ⟨rfl, rfl⟩
          go_wp2_with fail
          go_ret2
          exact pwOut_none (pw_bad HN.out HB.out) (own_lit w wr HS.out) (HS.out.alloc _)
      · obtain rfl : k = n := by omega
        have hki : ¬ (k : Int) < (k : Int) := by omega
        by_cases h8 : k ≤ 8
        · have HGD : Hid (pwOk s = true) := pwOk_good (by rw [← HSS.out, ← HNN.out]; omega) (by have h := HA.out; rw [List.take_of_length_le (by have := HNN.out; omega), HSS.out] at h; exact h)
          have htk : (ss.take k).map plN = (cutB s).map plN := by rw [List.take_of_length_le (by have := HNN.out; omega), HSS.out]
          have HTK := Lib.hid htk
          clear htk
          have HWO : Hid (Own w.heap.size wr u4 ((ss.take k).map plN)) := ⟨ins_of _, by rw [List.length_map, List.length_take, Nat.min_eq_left (by have := HNN.out; omega)]; exact hown⟩
          have hiw : isWordB ((ss.take k).map plN) = true := by
            rw [word_of, List.length_take, Nat.min_eq_left (by have := HNN.out; omega)]; simp; omega
          have hlx : ((ss.take k).map plN).length ≤ 1048577 := by
            rw [List.length_map, List.length_take, Nat.min_eq_left (by have := HNN.out; omega)]; omega
          have HIW := Lib.hid (specIW_any u4 _ wr HWO.out.at hlx)
          rw [hiw] at HIW
          have HS := Lib.hid hsin
          clear hown hsin hiw hlx
          go_wp2_with fail
          with_reducible refine (HIW.out).mono ?_
          rintro e w' ⟨rfl, rfl⟩
          go_wp2_with fail
          go_ret2
          exact pwOut_some (pw_good HN.out HGD.out) (by have := HWO.out; rwa [HTK.out] at this) HS.out
        · have HB : Hid (pwOk s = false) := pwOk_long (by rw [← HSS.out, ← HNN.out]; omega)
          have HWO : Hid (Own w.heap.size wr u4 ((ss.take k).map plN)) := ⟨ins_of _, by rw [List.length_map, List.length_take, Nat.min_eq_left (by have := HNN.out; omega)]; exact hown⟩
          have hiw : isWordB ((ss.take k).map plN) = false := by
            rw [word_of, List.length_take, Nat.min_eq_left (by have := HNN.out; omega)]; simp; omega
          have hlx : ((ss.take k).map plN).length ≤ 1048577 := by
            rw [List.length_map, List.length_take, Nat.min_eq_left (by have := HNN.out; omega)]; omega
          have HIW := Lib.hid (specIW_any u4 _ wr HWO.out.at hlx)
          rw [hiw] at HIW
          have HS := Lib.hid hsin
          clear hown hsin hiw hlx
          go_wp2_with fail
          with_reducible refine (HIW.out).mono ?_
          rintro e w' ⟨rfl, rfl⟩
          go_wp2_with fail
          go_ret2
          exact pwOut_none (pw_bad HN.out HB.out) (own_lit w wr HS.out) (HS.out.alloc _)
end Go.Proofs.YtfjlcmippnbhoaaDoor
