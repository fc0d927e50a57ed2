/- The program's ParseExpr. -/
import Derived.Test.YthnppgcmmabolaaGreatDoorPxR
import Derived.Test.YthnppgcmmabolaaGreatDoorIx
import Derived.Test.YthnppgcmmabolaaGreatDoorXf
namespace Go.Proofs.YthnppgcmmabolaaGreatDoor
set_option maxRecDepth 100000
open Go.ChangeShapes Go.WideShapes Go.ChangeAt Go.RowKit
set_option linter.unusedVariables false
set_option linter.unusedSimpArgs false

theorem px_noI {w w1 : World} {B : Nat} (hB : w.heap.size ≤ B) (hs : Since w w1) (u : Value) :
    XBOut w [] false (.returned (.tuple #[.agg #[.slice none 0 0], .bool false])) (w1.setCell ⟨B, 0, none⟩ u) :=
  ⟨_, rfl, OwnX.mk ⟨fun x hx => by simp at hx, World.ownsRow_nil _ _ _ _⟩, hs.setCell hB u⟩
theorem px_yesI {w w1 : World} {xs : List Tok} {B : Nat} {v : Value} {lo : Nat} (ho : OwnK lo w1 v xs) (hlo : w.heap.size ≤ lo) (hB2 : B < lo) (hB : w.heap.size ≤ B) (hs : Since w w1) (u : Value) :
    XBOut w xs true (.returned (.tuple #[.agg #[v], .bool true])) (w1.setCell ⟨B, 0, none⟩ u) :=
  ⟨_, rfl, OwnX.mk ((ho.far (p := ⟨B, 0, none⟩) hB2 u).mono hlo), hs.setCell hB u⟩
theorem all_takeX {P : List (List UInt8)} {j : Nat} (hj : j < P.length) (h : ∀ t ∈ P.take j, ptB t = true) (h2 : ptB P[j] = true) : ∀ t ∈ P.take (j + 1), ptB t = true := by
  intro t ht
  rw [List.take_succ_eq_append_getElem hj, List.mem_append, List.mem_singleton] at ht
  rcases ht with ht | rfl
  · exact h t ht
  · exact h2
theorem tok_litX (w1 : World) (t : Tok) (ht : t.In) : ToksAt (w1.alloc (.cells #[.int .i64 t.kd, .int .i64 t.lr, .int .i64 t.lo, .int .i64 t.hi] 42)) (.slice (some ⟨w1.heap.size, 0, none⟩) 1 1) [t] := (ownK_one w1 w1 (Since.refl w1) t ht _ rfl).at
set_option maxHeartbeats 16000000 in
set_option maxRecDepth 100000 in
theorem implPX_any (s : ByteArray) (w : World) (hs : s.size ≤ 1048576) (htab : Tab w) (hml : MaxX w) (hfm : Fmts w) (hfr : Forms w) :
    Calls Tryz.prog 15 #[.string s] w (XBOut w (pxA s) (pxB s)) := by
  obtain ⟨y, hy⟩ : ∃ y, y = w.alloc (.cells #[.slice none 0 0] 26) := ⟨_, rfl⟩
  have hs0 : Since w y := by rw [hy]; exact (Since.refl w).alloc _
  have hz0 : w.heap.size + 1 = y.heap.size := by rw [hy]; simp
  have BR : Hid (Blk y w.heap.size 26 #[.slice none 0 0]) := by rw [hy]; exact Blk.new rfl _ _
  have HPC : Hid (∀ k (hk : k < (partsX25 s).length) W, Since w W → Calls Tryz.prog 28 #[.string (bX (partsX25 s)[k])] W fun e w' => e = .returned (.tuple #[kv (ptT (partsX25 s)[k]), .bool (ptB (partsX25 s)[k])]) ∧ Since W w') := fun k hk W hW => parseToken_any _ W (by have := partsX25_le s _ (List.getElem_mem hk); omega) (htab.since hW) (hml.since hW) (hfm.since hW) (hfr.since hW)
  have HSP := Lib.hid (fun W (hW : Since w W) => splitN25_parts s W hs (hml.since hW))
  have HFR := Lib.hid (fun W (hW : Since w W) => hfr.since hW)
  have HNO : Hid (∀ k (hk : k < (partsX25 s).length), ptB (partsX25 s)[k] = false → pxB s = false ∧ pxA s = []) := fun k hk h => by
    have e := px_fail hk h
    exact ⟨e, by unfold pxA; rw [e]; rfl⟩
  have HYES : Hid ((∀ t ∈ partsX25 s, ptB t = true) → validXB ((partsX25 s).map ptT) = pxB s ∧ (pxB s = true → (partsX25 s).map ptT = pxA s)) := fun h => px_all h
  have HAF : Hid (pxB s = false → pxA s = []) := fun h => by unfold pxA; rw [h]; rfl
  have hlen := partsX25_len s
  clear htab hfm hml hfr
  generalize partsX25 s = P at hlen HPC HSP HNO HYES
  generalize pxA s = A at HNO HYES HAF ⊢
  generalize pxB s = B at HNO HYES HAF ⊢
  obtain ⟨n, hn0⟩ : ∃ n, n = P.length := ⟨_, rfl⟩
  have HN := Lib.hid hn0
  rw [← hn0] at hlen
  unfold PartsOutX at HSP
  rw [← hn0] at HSP
  clear hn0
  go_enter Tryz.func15, Tryz.ntmps15
  go_wp2_with fail
  rw [← hy]
  clear hy
  refine (HSP.out _ hs0).mono ?_
  rintro en w1 ⟨g, cap, rfl, hcap, hs1, HG⟩
  have hs01 := hs0.trans hs1
  have hz1 := hs1.size
  obtain ⟨yb, hyb⟩ : ∃ yb, yb = w1.alloc (.cells #[.slice none 0 0] 26) := ⟨_, rfl⟩
  have hsb : Since w1 yb := by rw [hyb]; exact (Since.refl w1).alloc _
  have BX : Hid (Blk yb w1.heap.size 26 #[.slice none 0 0]) := by rw [hyb]; exact Blk.new rfl _ _
  have hyz : w1.heap.size + 1 = yb.heap.size := by rw [hyb]; simp
  have HYZ : Hid (w1.heap.size + 1 = yb.heap.size ∧ w.heap.size < w1.heap.size) := ⟨hyz, by omega⟩
  have BR1 := Lib.hid (BR.out.since hs1)
  go_wp2_with fail
  rw [← hyb]
  clear hyb BR
  go_loopw [15] (fun i wr => ∃ (j : Nat) (v : Value), j ≤ n ∧ i = .int .i64 j ∧ Hid (OwnK (w1.heap.size + 1) wr v ((P.take j).map ptT)) ∧ Hid (Blk wr w1.heap.size 26 #[v]) ∧ Hid (∀ t ∈ P.take j, ptB t = true) ∧ Hid (w1.heap.size + 1 ≤ wr.heap.size) ∧ Since w1 wr) (fun i _ => n - (intOf i).toNat)
  case atStart => exact ⟨0, .slice none 0 0, Nat.zero_le _, rfl, ⟨fun x hx => by simp at hx, World.ownsRow_nil _ _ _ _⟩, BX.out, fun t ht => by simp at ht, by unfold Hid; omega, hsb⟩
  case round =>
    obtain ⟨j, v, hj, rfl, HO, HB, HAL, HZW, hsw⟩ := hrel
    have hs0w := hs01.trans hsw
    by_cases hlt : j < n
    · have hjr : j < P.length := by have := HN.out; omega
      have hcell : wr.cell? ⟨g, j, none⟩ = some (.string (bX P[j])) := HG.out wr hsw j hjr
      have jj0 : (0 : Int) ≤ (j : Int) := by omega
      have jj1 : (j : Int) < (n : Int) := by omega
      have jc : (j : Int) < (cap : Int) := by omega
      have HP1 := Lib.hid (HPC.out j hjr)
      have HBJ := Lib.hid (HNO.out j hjr)
      have HAN := Lib.hid (all_takeX hjr HAL.out)
      have HIN := Lib.hid (ptT_in P[j])
      have HTK : Hid ((P.take (j + 1)).map ptT = (P.take j).map ptT ++ [ptT P[j]]) := by
        unfold Hid; rw [List.take_succ_eq_append_getElem hjr, List.map_append]; rfl
      generalize P[j] = t at hcell HP1 HBJ HAN HTK HIN
      generalize ptT t = c at HP1 HTK HIN
      generalize ptB t = b at HP1 HBJ HAN
      generalize bX t = tb at hcell HP1
      unfold kv at HP1
      go_wp2_with fail
      refine (HP1.out _ hs0w).mono ?_
      rintro en w3 ⟨rfl, hs3⟩
      obtain ⟨y3, hy3⟩ : ∃ y3, y3 = w3.alloc (.cells #[.int .i64 c.kd, .int .i64 c.lr, .int .i64 c.lo, .int .i64 c.hi] 42) := ⟨_, rfl⟩
      have hal : Since w3 y3 := by rw [hy3]; exact (Since.refl w3).alloc _
      have HC3 : Hid (Blk y3 w3.heap.size 42 #[.int .i64 c.kd, .int .i64 c.lr, .int .i64 c.lo, .int .i64 c.hi]) := by rw [hy3]; exact Blk.new rfl _ _
      have hs33 := hs3.trans hal
      have hs03 := hs0w.trans hs33
      have hsw3 := hsw.trans hs33
      cases b with
      | false =>
        have HZ := Lib.hid (HBJ.out rfl)
        clear HBJ HAN
        obtain ⟨r0, r1⟩ := (BR1.out.since hsw3).one
        rw [hy3] at r0 r1 hs03
        clear hy3
        go_wp2_with fail
        refine bodyPost_ret (v := .tuple #[.agg #[.slice none 0 0], .bool false]) (by simp [results, Tryz.results15, go_sem, *]) rfl ?_
        rw [HZ.out.1, HZ.out.2]
        exact px_noI (Nat.le_refl _) hs03 _
      | true =>
        have HAL2 := Lib.hid (HAN.out rfl)
        clear HBJ HAN hcell
        have HB3 := Lib.hid (HB.out.since hs33)
        have HO3 := Lib.hid (HO.out.since hs33)
        have HL3 := Lib.hid (tok_litX y3 c HIN.out)
        obtain ⟨⟨d0, d1, d2, d3, _⟩, ⟨q0, q1⟩⟩ := And.intro HC3.out.four HB3.out.one
        have hal2 : Since y3 (y3.alloc (.cells #[.int .i64 c.kd, .int .i64 c.lr, .int .i64 c.lo, .int .i64 c.hi] 42)) := (Since.refl y3).alloc _
        have HB4 := Lib.hid (HB3.out.since hal2)
        have HO4 := Lib.hid (HO3.out.since hal2)
        have hsw4 := hsw3.trans hal2
        have hml : ((P.take j).map ptT).length ≤ 25 := by rw [List.length_map, List.length_take]; omega
        have HML := Lib.hid hml
        have HBS : Hid (w1.heap.size + 1 ≤ (y3.alloc (.cells #[.int .i64 c.kd, .int .i64 c.lr, .int .i64 c.lo, .int .i64 c.hi] 42)).heap.size) := by have := hs33.size; have := hal2.size; have := HZW.out; unfold Hid; omega
        clear HB HO HB3 HO3 hs3 hal hs33 hml hal2
        rw [hy3] at d0 d1 d2 d3 q0 q1
        go_upto_region 9 with fail
        rw [← hy3] at d0 d1 d2 d3 q0 q1 ⊢
        clear hy3
        go_upto_region 10 with (at_builtin; go_must (refine wpList_append_toks rfl (.tmp 28) (.tmp 30) rfl (w1.heap.size + 1) v ((P.take j).map ptT) rfl HO4.out _ _ _ rfl [c] HL3.out (by have := HML.out; simp only [List.length_cons, List.length_nil]; omega) HBS.out ?_); intro v3 w5 ho5 hg5 hb5; rw [← HTK.out] at ho5; obtain ⟨n5, hn5⟩ : ∃ n, ((P.take (j + 1)).map ptT).length = n := ⟨_, rfl⟩; obtain ⟨o5, c5, hv5⟩ := ho5.len; rw [hn5] at hv5; subst hv5; clear hn5; have hB5 := Lib.hid (HB4.out.grwK hg5 (fun e => by have := HO4.out.2.lt _ e.symm; omega)); obtain ⟨z0, z1⟩ := hB5.out.one)
        have hs5 := hsw4.grown hg5 (fun q hq => by have := HO4.out.2.lt q hq; omega)
        have HB6 : Hid (Blk (w5.setCell ⟨w1.heap.size, 0, none⟩ (.slice o5 n5 c5)) w1.heap.size 26 #[.slice o5 n5 c5]) := hB5.out.set 0 (.slice o5 n5 c5)
        have HO6 := Lib.hid (ho5.far (p := ⟨w1.heap.size, 0, none⟩) (by simp) (.slice o5 n5 c5))
        have hs6 := hs5.setCell (a := ⟨w1.heap.size, 0, none⟩) (Nat.le_refl _) (.slice o5 n5 c5)
        have HZ6 : Hid (w1.heap.size + 1 ≤ (w5.setCell ⟨w1.heap.size, 0, none⟩ (.slice o5 n5 c5)).heap.size) := by have := HB6.out.lt; unfold Hid; omega
        clear ho5 hg5 hb5 z0 z1 hs5
        go_wp2
        go_roundw
        case rel => exact ⟨j + 1, .slice o5 n5 c5, by omega, by go_num, HO6.out, HB6.out, HAL2.out, HZ6.out, hs6⟩
        case measure => simp [intOf]; omega
    · obtain rfl : j = n := by omega
      have ht : P.take j = P := List.take_of_length_le (by have := HN.out; omega)
      rw [ht] at HO HAL
      obtain ⟨hv1, hv2⟩ := HYES.out HAL.out
      have HVX := Lib.hid (fun V W (hW : Since w W) (hV : ExAt W V (P.map ptT)) => implVX_any V (P.map ptT) W (HFR.out W hW) hV (by rw [List.length_map]; have := HN.out; omega))
      rw [hv1] at HVX
      have HY2 := Lib.hid hv2
      clear hv1 hv2 HYES ht HPC HSP HNO HAL
      generalize P.map ptT = R at HO HVX HY2
      obtain ⟨vo, vc, hv⟩ := HO.out.len
      obtain ⟨q, hq⟩ : ∃ q, R.length = q := ⟨_, rfl⟩
      rw [hq] at hv
      subst hv
      obtain ⟨q0, q1⟩ := HB.out.one
      clear hq
      go_wp2_with fail
      refine (HVX.out _ _ hs0w ⟨_, rfl, HO.out.at⟩).mono ?_
      rintro en w9 ⟨rfl, hs9⟩
      have hsw9 := hsw.trans hs9
      obtain ⟨c0, c1⟩ := (HB.out.since hs9).one
      obtain ⟨r0, r1⟩ := (BR1.out.since hsw9).one
      have hs09 := hs0w.trans hs9
      have HO9 := Lib.hid (HO.out.since hs9)
      cases B with
      | true =>
        have HA := Lib.hid (HY2.out rfl)
        clear HY2 HAF
        go_wp2_with fail
        refine bodyPost_ret (v := .tuple #[.agg #[.slice vo q vc], .bool true]) (by simp [results, Tryz.results15, go_sem, *]) rfl ?_
        rw [← HA.out]
        exact px_yesI HO9.out (by have := HYZ.out; omega) (by have := HYZ.out; omega) (Nat.le_refl _) hs09 _
      | false =>
        have HA := Lib.hid (HAF.out rfl)
        clear HY2 HAF
        go_wp2_with fail
        refine bodyPost_ret (v := .tuple #[.agg #[.slice none 0 0], .bool false]) (by simp [results, Tryz.results15, go_sem, *]) rfl ?_
        rw [HA.out]
        exact px_noI (Nat.le_refl _) hs09 _
end Go.Proofs.YthnppgcmmabolaaGreatDoor
