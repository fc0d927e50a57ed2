/- The format of a graph; the model's FormatGraph. -/
import Derived.Test.YtpmkpeclfhmhlaaDoorFeD
import Derived.Test.YtpmkpeclfhmhlaaDoorK2
namespace Go.Proofs.YtpmkpeclfhmhlaaDoor
set_option maxRecDepth 100000
open Go.ChangeShapes Go.WideShapes Go.ChangeAt Go.RowKit
set_option linter.unusedVariables false
set_option linter.unusedSimpArgs false

def sepE (e : Edg) : List UInt8 := 32 :: (fmtE e).data.toList
def preV (vs : List Int) : List UInt8 := vs.flatMap Lib.itoa
def preE (es : List Edg) : List UInt8 := es.flatMap sepE
/-- The format of a graph. -/
def fmtG (g : Grf) : ByteArray := if validB g = true then ⟨(preV g.vs ++ preE g.es).toArray⟩ else ⟨#[]⟩
theorem fmtG_in {g : Grf} (h : validB g = true) : fmtG g = ⟨(preV g.vs ++ preE g.es).toArray⟩ := by unfold fmtG; rw [if_pos h]
theorem fmtG_out {g : Grf} (h : validB g = false) : fmtG g = ⟨#[]⟩ := by unfold fmtG; rw [if_neg (by rw [h]; decide)]
theorem preV_take (vs : List Int) (k : Nat) (hk : k < vs.length) : preV (vs.take (k + 1)) = preV (vs.take k) ++ Lib.itoa vs[k] := by
  unfold preV; rw [List.take_succ_eq_append_getElem hk, List.flatMap_append, List.flatMap_cons, List.flatMap_nil, List.append_nil]
theorem preE_take (es : List Edg) (k : Nat) (hk : k < es.length) : preE (es.take (k + 1)) = preE (es.take k) ++ sepE es[k] := by
  unfold preE; rw [List.take_succ_eq_append_getElem hk, List.flatMap_append, List.flatMap_cons, List.flatMap_nil, List.append_nil]
theorem fmtE_size (e : Edg) : (fmtE e).size ≤ 66 := by
  rcases Bool.eq_false_or_eq_true (edB 5 e) with hb | hb
  · obtain ⟨c0, c1, c2, c3⟩ := (edB_iff 5 e).1 hb
    have sA := itoaS_size e.id (by omega) (by omega)
    have sB := itoaS_size e.fr (by omega) (by omega)
    have sC := fmtL_size2 (2 * e.lb)
    have sD := itoaS_size e.to (by omega) (by omega)
    rw [fmtE_in hb]
    simp only [ByteArray.size_append]
    have : (⟨#[58]⟩ : ByteArray).size = 1 := rfl
    omega
  · rw [fmtE_out hb]; decide
theorem preV_len (vs : List Int) (h : ∀ x ∈ vs, 0 ≤ x ∧ x ≤ 2) : (preV vs).length ≤ 21 * vs.length := by
  induction vs with
  | nil => simp [preV]
  | cons x vs ih =>
    have h1 : preV (x :: vs) = Lib.itoa x ++ preV vs := rfl
    have h2 := Lib.itoa_length_le x (by have := h x (List.mem_cons_self ..); omega) (by have := h x (List.mem_cons_self ..); omega)
    have h3 := ih (fun y hy => h y (List.mem_cons_of_mem _ hy))
    rw [h1, List.length_append, List.length_cons]; omega
theorem sepE_len (e : Edg) : (sepE e).length ≤ 67 := by
  have := fmtE_size e
  unfold sepE
  rw [List.length_cons]
  have e1 : (fmtE e).data.toList.length = (fmtE e).size := by rw [Array.length_toList]; rfl
  omega
theorem preE_len (es : List Edg) : (preE es).length ≤ 67 * es.length := by
  induction es with
  | nil => simp [preE]
  | cons e es ih =>
    have h1 : preE (e :: es) = sepE e ++ preE es := rfl
    have h2 := sepE_len e
    rw [h1, List.length_append, List.length_cons]; omega
theorem str_snoc (l m : List UInt8) (S : ByteArray) (h : S = ⟨m.toArray⟩) : (⟨l.toArray⟩ : ByteArray) ++ S = ⟨(l ++ m).toArray⟩ := by subst h; rw [ByteArray.mk_append_mk]
theorem str_list (S : ByteArray) : S = ⟨S.data.toList.toArray⟩ := by simp
theorem sep_snoc (l : List UInt8) (e : Edg) : ((⟨l.toArray⟩ : ByteArray) ++ ⟨#[32]⟩) ++ fmtE e = ⟨(l ++ sepE e).toArray⟩ := by
  rw [str_snoc l [32] ⟨#[32]⟩ rfl, str_snoc _ (fmtE e).data.toList _ (str_list _), List.append_assoc]; rfl
set_option maxHeartbeats 2000000 in
set_option maxRecDepth 100000 in
theorem specFG_any (v : Value) (g : Grf) (w : World) (h : GrfAt w v g) (h1 : g.vs.length ≤ 1048577) (h2 : g.es.length ≤ 1048577) :
    Calls Tryd.prog 14 #[v] w fun en w' => en = .returned (.string (fmtG g)) ∧ Since w w' := by
  have HG := Lib.hid h
  obtain ⟨a, b, rfl, ha, hb⟩ := h
  obtain ⟨ao, ac, rfl, HVS⟩ := ha.row
  obtain ⟨bo, bc, rfl, HE⟩ := hb.row
  clear ha hb
  obtain ⟨n, hn⟩ : ∃ n, n = g.vs.length := ⟨_, rfl⟩
  obtain ⟨m, hm⟩ : ∃ m, m = g.es.length := ⟨_, rfl⟩
  rw [← hn, ← hm] at HG ⊢
  have HN := Lib.hid hn
  have HM := Lib.hid hm
  have hs0 : Since w (w.alloc (.cells #[.slice ao n ac, .slice bo m bc] 40)) := (Since.refl w).alloc _
  have B0 : Hid (Blk (w.alloc (.cells #[.slice ao n ac, .slice bo m bc] 40)) w.heap.size 40 #[.slice ao n ac, .slice bo m bc]) := Blk.new rfl _ _
  rcases Bool.eq_false_or_eq_true (validB g) with hv | hv
  · have HV := Lib.hid hv
    have HO := Lib.hid (fmtG_in hv)
    obtain ⟨⟨v1, v5, e12⟩, hvb, _, _⟩ := (validB_iff g).1 hv
    have hn5 : n ≤ 5 := by omega
    have hm12 : m ≤ 12 := by omega
    have HVB : Hid (∀ x ∈ g.vs, 0 ≤ x ∧ x ≤ 2) := hvb
    clear hv hn hm hvb v1 v5 e12
    go_enter Tryd.func14, Tryd.ntmps14
    go_wp2_with fail
    refine (specVG_any _ g _ (HG.out.since hs0) h1 h2).mono ?_
    rintro en w1 ⟨rfl, hs1⟩
    rw [HV.out]
    have hs01 := hs0.trans hs1
    have B1 := Lib.hid (B0.out.since hs1)
    clear hs0 hs1 B0
    go_wp2_with fail
    go_loopw [3, 4] (fun c i wr => ∃ (k : Nat) (l : List UInt8), k ≤ n ∧ i = .int .i64 k ∧ c = .string ⟨l.toArray⟩ ∧ Hid (l = preV (g.vs.take k)) ∧ Since w1 wr) (fun _ i _ => n - (intOf i).toNat)
    case atStart => exact ⟨0, [], Nat.zero_le _, rfl, rfl, rfl, Since.refl _⟩
    case round =>
      obtain ⟨k, l, hk, rfl, rfl, HLL, hsw⟩ := hrel
      obtain ⟨p0, p1, _, _⟩ := (B1.out.since hsw).two
      have hll : l.length ≤ 105 := by
        have := preV_len (g.vs.take k) (fun x hx => HVB.out x (List.mem_of_mem_take hx))
        rw [HLL.out]
        rw [List.length_take] at this
        omega
      by_cases hlt : k < n
      · have hx : k < g.vs.length := by have := HN.out; omega
        obtain ⟨be, oe, rfl, hbe, d0⟩ := HVS.out k hx
        have s1 := since_cells (hs01.trans hsw) hbe
        rw [← s1] at d0
        clear s1
        have hxb := HVB.out g.vs[k] (List.getElem_mem hx)
        obtain ⟨z, hz⟩ : ∃ z, z = g.vs[k] := ⟨_, rfl⟩
        have HT : Hid (preV (g.vs.take (k + 1)) = l ++ Lib.itoa z) := by rw [hz, HLL.out]; exact preV_take g.vs k hx
        rw [← hz] at d0 hxb
        have hsz := itoaS_size z (by omega) (by omega)
        have HF : Hid (∀ W, Calls Tryd.prog 23 #[.int .i64 z] W fun en w' => en = .returned (.string (itoaS z)) ∧ Since W w') := fun W => specFI_any z W (by omega) (by omega)
        have HCC : Hid ((⟨l.toArray⟩ : ByteArray) ++ itoaS z = ⟨(l ++ Lib.itoa z).toArray⟩) := str_snoc _ _ _ rfl
        generalize itoaS z = S at HF hsz HCC
        clear hz
        have hki : (k : Int) < (n : Int) := by omega
        have hk0 : (0 : Int) ≤ (k : Int) := by omega
        have n1 : ¬ 9223372036854775807 < l.length + S.size := by omega
        go_wp2_with fail
        refine (HF.out _).mono ?_
        rintro en w2 ⟨rfl, hs2⟩
        have hs3 := hsw.trans hs2
        go_wp2
        go_roundw
        case rel => exact ⟨k + 1, l ++ Lib.itoa z, by omega, by go_num, by rw [HCC.out], HT.out.symm, hs3⟩
        case measure => simp [intOf]; omega
      · obtain rfl : k = n := by omega
        have HL2 : Hid (l = preV g.vs) := by
          have := HLL.out
          rw [List.take_of_length_le (by have := HN.out; omega)] at this
          exact this
        clear HLL
        go_wp2_with fail
        go_loopw [3, 5] (fun c i wr2 => ∃ (j : Nat) (l2 : List UInt8), j ≤ m ∧ i = .int .i64 j ∧ c = .string ⟨l2.toArray⟩ ∧ Hid (l2 = preV g.vs ++ preE (g.es.take j)) ∧ Since w1 wr2) (fun _ i _ => m - (intOf i).toNat)
        case atStart => exact ⟨0, l, Nat.zero_le _, rfl, rfl, by rw [HL2.out]; unfold Hid preE; simp, hsw⟩
        case round =>
          obtain ⟨j, l2, hj, rfl, rfl, HL3, hsw2⟩ := hrel
          obtain ⟨r0, r1, _, _⟩ := (B1.out.since hsw2).two
          have hl2 : l2.length ≤ 909 := by
            have h5 := preV_len g.vs HVB.out
            have h6 := preE_len (g.es.take j)
            rw [HL3.out, List.length_append]
            rw [List.length_take] at h6
            have := HN.out
            omega
          by_cases hlt2 : j < m
          · have hx : j < g.es.length := by have := HM.out; omega
            obtain ⟨be, oe, rfl, hbe, d0, d1, d2, d3⟩ := HE.out j hx
            have s1 := since_cells (hs01.trans hsw2) hbe
            rw [← s1] at d0 d1 d2 d3
            clear s1
            have HT : Hid (preV g.vs ++ preE (g.es.take (j + 1)) = l2 ++ sepE g.es[j]) := by unfold Hid; rw [HL3.out, preE_take g.es j hx, List.append_assoc]
            have hsz := fmtE_size g.es[j]
            have HF : Hid (∀ W, Calls Tryd.prog 7 #[.agg #[.int .i64 g.es[j].id, .int .i64 g.es[j].fr, .int .i64 g.es[j].to, .int .i64 g.es[j].lb]] W fun en w' => en = .returned (.string (fmtE g.es[j])) ∧ Since W w') := fun W => specFE_any g.es[j] W
            have HCC := Lib.hid (sep_snoc l2 g.es[j])
            generalize fmtE g.es[j] = S at HF hsz HCC
            have n0 : ¬ 9223372036854775807 < l2.length + 1 := by omega
            have n1 : ¬ 9223372036854775807 < l2.length + 1 + S.size := by omega
            go_wp2_with fail
            refine (HF.out _).mono ?_
            rintro en w2 ⟨rfl, hs2⟩
            have hs3 := hsw2.trans hs2
            go_wp2
            go_roundw
            case rel => exact ⟨j + 1, l2 ++ sepE g.es[j], by omega, by go_num, by rw [HCC.out], HT.out.symm, hs3⟩
            case measure => simp [intOf]; omega
          · obtain rfl : j = m := by omega
            have HR : Hid ((⟨l2.toArray⟩ : ByteArray) = fmtG g) := by
              have := HL3.out
              rw [List.take_of_length_le (by have := HM.out; omega)] at this
              unfold Hid; rw [HO.out, this]
            go_wp2
            go_ret
            exact ⟨ret_str HR.out, hs01.trans hsw2⟩
  · have HV := Lib.hid hv
    have HO := Lib.hid (fmtG_out hv)
    clear hv hn hm
    go_enter Tryd.func14, Tryd.ntmps14
    go_wp2_with fail
    refine (specVG_any _ g _ (HG.out.since hs0) h1 h2).mono ?_
    rintro en w1 ⟨rfl, hs1⟩
    rw [HV.out]
    have hs01 := hs0.trans hs1
    go_wp2
    go_ret
    exact ⟨ret_str HO.out.symm, hs01⟩
end Go.Proofs.YtpmkpeclfhmhlaaDoor
