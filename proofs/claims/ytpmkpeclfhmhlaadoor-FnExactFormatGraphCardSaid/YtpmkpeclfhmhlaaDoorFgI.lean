/- FormatGraph, the program's. -/
import Derived.Test.YtpmkpeclfhmhlaaDoorFgM
import Derived.Test.YtpmkpeclfhmhlaaDoorBld
namespace Go.Proofs.YtpmkpeclfhmhlaaDoor
set_option maxRecDepth 100000
open Go.ChangeShapes Go.WideShapes Go.ChangeAt Go.RowKit
set_option linter.unusedVariables false
set_option linter.unusedSimpArgs false

theorem usedB_since {B b : Nat} {p : Value} {bs : List Value} {w w' : World} (h : Lib.BuilderAt 64 5 B b p bs w) (k : Since w w') : Lib.BuilderAt 64 5 B b p bs w' := by
  obtain ⟨hB, v, hb, hown, hne⟩ := h
  refine ⟨hB, v, (k.block b (heap_lt hb)).trans hb, ?_, hne⟩
  obtain ⟨h2, h3⟩ := hown
  refine ⟨h2, ?_⟩
  rcases h3 with h3 | ⟨g, cap, cur, a, b', c, d⟩
  · exact .inl h3
  · exact .inr ⟨g, cap, cur, a, b', (k.block g (heap_lt c)).trans c, d⟩
theorem isB_since {B b : Nat} {bs : List Value} {w w' : World} (h : IsB B b bs w) (k : Since w w') : IsB B b bs w' :=
  h.elim (fun x => .inl (usedB_since x k)) (fun x => .inr (usedB_since x k))
theorem since_below {y w w' : World} (h : Since y w) (k : Below y.heap.size w w') : Since y w' :=
  ⟨k.os.trans h.os, k.tape.trans h.tape, k.output.trans h.output, Nat.le_trans h.size k.size, fun i hi => (k.block i hi).trans (h.block i hi)⟩
set_option maxHeartbeats 2000000 in
set_option maxRecDepth 100000 in
theorem implFG_any (v : Value) (g : Grf) (w : World) (h : GrfAt w v g) (h1 : g.vs.length ≤ 1048577) (h2 : g.es.length ≤ 1048577) (htab : Tab w) (hfm : Fmts w) :
    Calls Tryd.prog 16 #[v] w fun en w' => en = .returned (.string (fmtG g)) ∧ Since w w' := by
  have HTB := Lib.hid htab
  have HFM := Lib.hid hfm
  clear htab hfm
  have HG := Lib.hid h
  obtain ⟨a, b, rfl, ha, hb⟩ := h
  obtain ⟨ao, ac, rfl, HVS⟩ := ha.row
  obtain ⟨bo, bc, rfl, HE⟩ := hb.row
  clear ha hb
  obtain ⟨n, hn⟩ : ∃ n, n = g.vs.length := ⟨_, rfl⟩
  obtain ⟨m, hm⟩ : ∃ m, m = g.es.length := ⟨_, rfl⟩
  rw [← hn, ← hm] at HG ⊢
  have HN := Lib.hid hn
  have HM := Lib.hid hm
  have hs0 : Since w (w.alloc (.cells #[.slice ao n ac, .slice bo m bc] 40)) := (Since.refl w).alloc _
  have B0 : Hid (Blk (w.alloc (.cells #[.slice ao n ac, .slice bo m bc] 40)) w.heap.size 40 #[.slice ao n ac, .slice bo m bc]) := Blk.new rfl _ _
  rcases Bool.eq_false_or_eq_true (validB g) with hv | hv
  · have HV := Lib.hid hv
    have HO := Lib.hid (fmtG_in hv)
    obtain ⟨⟨v1, v5, e12⟩, hvb, _, _⟩ := (validB_iff g).1 hv
    have hn5 : n ≤ 5 := by omega
    have hm12 : m ≤ 12 := by omega
    have HVB : Hid (∀ x ∈ g.vs, 0 ≤ x ∧ x ≤ 2) := hvb
    clear hv hn hm hvb v1 v5 e12
    go_enter Tryd.func16, Tryd.ntmps16
    go_wp2_with fail
    refine (implVG_any _ g _ (HG.out.since hs0) h1 h2).mono ?_
    rintro en w1 ⟨rfl, hs1⟩
    rw [HV.out]
    have hs01 := hs0.trans hs1
    have BW := Lib.hid (B0.out.since hs1)
    have B1 := Lib.hid ((B0.out.since hs1).alloc (.cells #[.pointer none, .slice none 0 0] 64))
    have hfb : IsB w1.heap.size w1.heap.size (Lib.byteCells []) (w1.alloc (.cells #[.pointer none, .slice none 0 0] 64)) := Lib.fresh_isBuilder 64 5 w1
    have hsb : Since w1 (w1.alloc (.cells #[.pointer none, .slice none 0 0] 64)) := (Since.refl w1).alloc _
    obtain ⟨p0, p1, _, _⟩ := B1.out.two
    clear hs0 hs1 B0
    go_wp2_with fail
    clear p0 p1
    go_loopw [14] (fun i wr => ∃ (k : Nat) (l : List UInt8), k ≤ n ∧ i = .int .i64 k ∧ Hid (l = preV (g.vs.take k)) ∧ Hid (IsB w1.heap.size w1.heap.size (Lib.byteCells l) wr) ∧ Since w1 wr ∧ Hid (Blk wr w.heap.size 40 #[.slice ao n ac, .slice bo m bc])) (fun i _ => n - (intOf i).toNat)
    case atStart => exact ⟨0, [], Nat.zero_le _, rfl, rfl, hfb, hsb, B1⟩
    case round =>
      obtain ⟨k, l, hk, rfl, HLL, HBD, hsw, BK⟩ := hrel
      have hll : l.length ≤ 105 := by
        have := preV_len (g.vs.take k) (fun x hx => HVB.out x (List.mem_of_mem_take hx))
        rw [HLL.out]
        rw [List.length_take] at this
        omega
      by_cases hlt : k < n
      · have hx : k < g.vs.length := by have := HN.out; omega
        obtain ⟨be, oe, rfl, hbe, d0⟩ := HVS.out k hx
        have s1 := since_cells (hs01.trans hsw) hbe
        rw [← s1] at d0
        clear s1
        have hxb := HVB.out g.vs[k] (List.getElem_mem hx)
        obtain ⟨z, hz⟩ : ∃ z, z = g.vs[k] := ⟨_, rfl⟩
        have HT : Hid (preV (g.vs.take (k + 1)) = l ++ Lib.itoa z) := by rw [hz, HLL.out]; exact preV_take g.vs k hx
        rw [← hz] at d0 hxb
        have hsz := itoaS_size z (by omega) (by omega)
        have HF : Hid (∀ W, Since w W → Calls Tryd.prog 26 #[.int .i64 z] W fun en w' => en = .returned (.string (itoaS z)) ∧ Since W w') := fun W hW => implFI_any z W (by omega) (by omega) (HTB.out.since hW)
        have HCC : Hid (Lib.byteCells l ++ Lib.strCells (itoaS z) = Lib.byteCells (l ++ Lib.itoa z)) := by unfold Hid; rw [Lib.strCells_eq, ← Lib.byteCells_append]; rfl
        generalize itoaS z = S at HF hsz HCC
        clear hz
        have hki : (k : Int) < (n : Int) := by omega
        have hk0 : (0 : Int) ≤ (k : Int) := by omega
        go_wp2_with fail
        refine (HF.out _ (hs01.trans hsw)).mono ?_
        rintro en w2 ⟨rfl, hs2⟩
        have hs3 := hsw.trans hs2
        go_wp2_with fail
        refine (write_any w1.heap.size w1.heap.size (Lib.byteCells l) S _ (isB_since HBD.out hs2) (by rw [Lib.byteCells_length]; omega) hs3.size).mono ?_
        rintro en w3 ⟨rfl, hub, hbl⟩
        rw [HCC.out] at hub
        have HB3 : Hid (IsB w1.heap.size w1.heap.size (Lib.byteCells (l ++ Lib.itoa z)) w3) := .inr hub
        have hs4 := since_below hs3 hbl
        have BK3 := Lib.hid (BW.out.since hs4)
        clear hub hbl d0
        go_wp2
        go_roundw
        case rel => exact ⟨k + 1, l ++ Lib.itoa z, by omega, by go_num, HT.out.symm, HB3, hs4, BK3⟩
        case measure => simp [intOf]; omega
      · obtain rfl : k = n := by omega
        have HL2 : Hid (l = preV g.vs) := by
          have := HLL.out
          rw [List.take_of_length_le (by have := HN.out; omega)] at this
          exact this
        clear HLL
        obtain ⟨p0, p1, _, _⟩ := BK.out.two
        have hst : Hid (l = preV g.vs ++ preE (g.es.take 0)) := by rw [HL2.out]; unfold Hid preE; simp
        go_wp2_with fail
        clear p0 p1
        go_loopw [25] (fun i wr2 => ∃ (j : Nat) (l2 : List UInt8), j ≤ m ∧ i = .int .i64 j ∧ Hid (l2 = preV g.vs ++ preE (g.es.take j)) ∧ Hid (IsB w1.heap.size w1.heap.size (Lib.byteCells l2) wr2) ∧ Since w1 wr2) (fun i _ => m - (intOf i).toNat)
        case atStart => exact ⟨0, l, Nat.zero_le _, rfl, hst, HBD, hsw⟩
        case round =>
          obtain ⟨j, l2, hj, rfl, HL3, HB4, hsw2⟩ := hrel
          have hl2 : l2.length ≤ 909 := by
            have h5 := preV_len g.vs HVB.out
            have h6 := preE_len (g.es.take j)
            rw [HL3.out, List.length_append]
            rw [List.length_take] at h6
            have := HN.out
            omega
          by_cases hlt2 : j < m
          · have hx : j < g.es.length := by have := HM.out; omega
            obtain ⟨be, oe, rfl, hbe, d0, d1, d2, d3⟩ := HE.out j hx
            have s1 := since_cells (hs01.trans hsw2) hbe
            rw [← s1] at d0 d1 d2 d3
            clear s1
            have HT : Hid (preV g.vs ++ preE (g.es.take (j + 1)) = l2 ++ sepE g.es[j]) := by unfold Hid; rw [HL3.out, preE_take g.es j hx, List.append_assoc]
            have hsz := fmtE_size g.es[j]
            have HF : Hid (∀ W, Since w W → Calls Tryd.prog 9 #[.agg #[.int .i64 g.es[j].id, .int .i64 g.es[j].fr, .int .i64 g.es[j].to, .int .i64 g.es[j].lb]] W fun en w' => en = .returned (.string (fmtE g.es[j])) ∧ Since W w') := fun W hW => implFE_any g.es[j] W (HTB.out.since hW) (HFM.out.since hW)
            have HCC : Hid (Lib.byteCells l2 ++ Lib.strCells ((⟨#[32]⟩ : ByteArray) ++ fmtE g.es[j]) = Lib.byteCells (l2 ++ sepE g.es[j])) := by
              unfold Hid sepE
              rw [Lib.strCells_eq, ← Lib.byteCells_append]
              congr 2
            have hcz : ((⟨#[32]⟩ : ByteArray) ++ fmtE g.es[j]).size ≤ 67 := by
              rw [ByteArray.size_append]
              have : (⟨#[32]⟩ : ByteArray).size = 1 := rfl
              omega
            generalize fmtE g.es[j] = S at HF hsz HCC hcz
            have n0 : ¬ 9223372036854775807 < 1 + S.size := by omega
            have HCZ := Lib.hid hcz
            clear hcz
            have hs5 := hsw2.alloc (.cells #[.int .i64 g.es[j].id, .int .i64 g.es[j].fr, .int .i64 g.es[j].to, .int .i64 g.es[j].lb] 25)
            have HB5 : Hid (IsB w1.heap.size w1.heap.size (Lib.byteCells l2) _) := isB_since HB4.out ((Since.refl _).alloc (.cells #[.int .i64 g.es[j].id, .int .i64 g.es[j].fr, .int .i64 g.es[j].to, .int .i64 g.es[j].lb] 25))
            go_wp2_with fail
            refine (HF.out _ (hs01.trans hs5)).mono ?_
            rintro en w2 ⟨rfl, hs2⟩
            have hs3 := hs5.trans hs2
            go_wp2_with fail
            refine (write_any w1.heap.size w1.heap.size (Lib.byteCells l2) ((⟨#[32]⟩ : ByteArray) ++ S) _ (isB_since HB5.out hs2) (by rw [Lib.byteCells_length]; have := HCZ.out; omega) hs3.size).mono ?_
            rintro en w3 ⟨rfl, hub, hbl⟩
            rw [HCC.out] at hub
            have HB6 : Hid (IsB w1.heap.size w1.heap.size (Lib.byteCells (l2 ++ sepE g.es[j])) w3) := .inr hub
            have hs4 := since_below hs3 hbl
            clear hub hbl
            go_wp2
            go_roundw
            case rel => exact ⟨j + 1, l2 ++ sepE g.es[j], by omega, by go_num, HT.out.symm, HB6, hs4⟩
            case measure => simp [intOf]; omega
          · obtain rfl : j = m := by omega
            have HR : Hid ((⟨l2.toArray⟩ : ByteArray) = fmtG g) := by
              have := HL3.out
              rw [List.take_of_length_le (by have := HM.out; omega)] at this
              unfold Hid; rw [HO.out, this]
            go_wp2_with fail
            refine (Tryd.Builder_String_any w1.heap.size w1.heap.size l2 _ HB4.out hsw2.size).mono ?_
            rintro en w3 ⟨rfl, hbl⟩
            have hs4 := since_below hsw2 hbl
            go_wp2
            go_ret
            exact ⟨ret_str HR.out, hs01.trans hs4⟩
  · have HV := Lib.hid hv
    have HO := Lib.hid (fmtG_out hv)
    clear hv hn hm
    go_enter Tryd.func16, Tryd.ntmps16
    go_wp2_with fail
    refine (implVG_any _ g _ (HG.out.since hs0) h1 h2).mono ?_
    rintro en w1 ⟨rfl, hs1⟩
    rw [HV.out]
    have hs01 := hs0.trans hs1
    go_wp2
    go_ret
    exact ⟨ret_str HO.out.symm, hs01⟩
end Go.Proofs.YtpmkpeclfhmhlaaDoor
