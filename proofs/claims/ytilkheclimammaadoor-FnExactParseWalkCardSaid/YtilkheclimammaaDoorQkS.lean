/- ParseWalk, the model's. -/
import Derived.Test.YtilkheclimammaaDoorQkA
namespace Go.Proofs.YtilkheclimammaaDoor
set_option maxRecDepth 100000
open Go.ChangeShapes Go.WideShapes Go.ChangeAt Go.RowKit
set_option linter.unusedVariables false
set_option linter.unusedSimpArgs false

theorem strQ_ext {a b : ByteArray} (h : a.data.toList = b.data.toList) : a = b := ByteArray.ext (Array.toList_inj.1 h)
theorem strQ_ne {a b : ByteArray} (h : a ≠ b) : (a.toList == b.toList) = false := by
  rw [beq_eq_false_iff_ne]
  intro e
  rw [ByteArray.toList_eq, ByteArray.toList_eq] at e
  exact h (strQ_ext e)
/-- The three forms of a part: none, with a last sign, without. -/
theorem part_cases (t : List UInt8) : ((bS t).size = 0 ∧ cutM t = t ∧ hasM t = false) ∨ ∃ m, ∃ hm : m < (bS t).size, (bS t).size = m + 1 ∧
    (((bS t)[m].toNat = 45 ∧ hasM t = true ∧ (bS t).extract 0 m = bS (cutM t)) ∨ ((bS t)[m].toNat ≠ 45 ∧ hasM t = false ∧ cutM t = t)) := by
  by_cases h0 : t = []
  · subst h0; exact .inl ⟨rfl, rfl, rfl⟩
  · right
    have hl : 0 < t.length := List.length_pos_iff.2 h0
    refine ⟨t.length - 1, by rw [bS_size]; omega, by rw [bS_size]; omega, ?_⟩
    have hg : (bS t)[t.length - 1]'(by rw [bS_size]; omega) = t[t.length - 1] := rfl
    have hla : t.getLast? = some t[t.length - 1] := by rw [List.getLast?_eq_getElem?, List.getElem?_eq_getElem]
    rw [hg]
    by_cases h45 : t[t.length - 1] = 45
    · left
      have hm : hasM t = true := by unfold hasM; rw [hla, h45]; rfl
      refine ⟨by rw [h45]; rfl, hm, ?_⟩
      unfold cutM
      rw [if_pos hm, List.dropLast_eq_take]
      apply strQ_ext
      simp [ByteArray.data_extract, Array.toList_extract]
      exact List.dropLast_eq_take
    · right
      have hm : hasM t = false := by unfold hasM; rw [hla]; simpa using h45
      refine ⟨fun h => h45 (UInt8.toNat_inj.1 h), hm, ?_⟩
      unfold cutM; rw [if_neg (by rw [hm]; decide)]
theorem take61 {r : List (List UInt8)} {j : Nat} (hj : j ≤ r.length) (h9 : j ≤ 61) (h : ¬ (j < r.length ∧ j < 61)) : r.take 61 = r.take j := by
  by_cases h1 : j < 61
  · rw [List.take_of_length_le (by omega), List.take_of_length_le (by omega)]
  · have : j = 61 := by omega
    rw [this]
set_option maxHeartbeats 4000000 in
set_option maxRecDepth 100000 in
theorem specQK_any (s : ByteArray) (p : List UInt8) (r : List (List UInt8)) (hpt : cutL s.data.toList = p :: r) (w : World) (hs : s.size ≤ 1048576) :
    Calls Tryd.prog 10 #[.string s] w (WBOut w (pkW p r) (piB p r)) := by
  have hs0 : Since w (w.alloc (.cells #[.int .i64 0, .slice none 0 0] 29)) := (Since.refl w).alloc _
  have r0 : Hid (Blk (w.alloc (.cells #[.int .i64 0, .slice none 0 0] 29)) w.heap.size 29 #[.int .i64 0, .slice none 0 0]) := Blk.new rfl _ _
  have hz : s.size = s.data.toList.length := rfl
  have hle := cutL_part_le s.data.toList
  have hps : p.length ≤ 1048576 := by have := hle p (by rw [hpt]; exact List.mem_cons_self ..); omega
  have HTS : Hid (∀ k (hk : k < r.length), r[k].length ≤ 1048576) := fun k hk => by have := hle r[k] (by rw [hpt]; exact List.mem_cons_of_mem _ (List.getElem_mem hk)); omega
  have HPI0 : Hid (∀ W, Calls Tryd.prog 25 #[.string (bS p)] W fun e w' => e = .returned (.tuple #[.int .i64 (pOut p).1, .bool (pOut p).2]) ∧ Since W w') := fun W => by
    have h := specPI_any (bS p) W (by rw [bS_size]; exact hps)
    rw [bS_list] at h
    exact h
  have HSAME := Lib.hid (pk_same hpt)
  obtain ⟨T, hT⟩ : ∃ T, T = r.length := ⟨_, rfl⟩
  have htl : T ≤ 1048577 := by have := cutL_length_le s.data.toList; rw [hpt, List.length_cons] at this; omega
  have HC := Lib.hid (fun W => cutQ_at hpt T hT W hs)
  have HT := Lib.hid hT
  obtain ⟨n0, hn0⟩ : ∃ n, n = (pOut p).1 := ⟨_, rfl⟩
  have HN0 := Lib.hid hn0
  rw [← hn0] at HPI0
  generalize (pOut p).2 = b at HPI0
  have HW0 : Hid (wOf p r = ⟨n0, (r.take 61).map sOf⟩) := by unfold Hid wOf; rw [hn0]
  clear hT hpt hps hn0 hz hle
  go_enter Tryd.func10, Tryd.ntmps10
  go_wp2_with fail
  refine (HC.out _).mono ?_
  rintro en w1 ⟨g, cap, rfl, hcap, hs1, HG⟩
  have hs01 := hs0.trans hs1
  obtain ⟨g0, _⟩ := HG.out _ (Since.refl _)
  have h0 : (0 : Int) < (T : Int) + 1 := by omega
  go_wp2_with fail
  refine (HPI0.out _).mono ?_
  rintro en w2 ⟨rfl, hs2⟩
  have hs02 := hs01.trans hs2
  have R2 := Lib.hid (r0.out.since (hs1.trans hs2))
  have HG2 : Hid (∀ W, Since w2 W → ∀ k (hk : k < r.length), W.cell? ⟨g, k + 1, none⟩ = some (.string (bS r[k]))) := fun W hW => (HG.out W (hs2.trans hW)).2
  clear g0 HG hs01 hs0 hs1 hs2 r0
  obtain ⟨G, hG⟩ : ∃ G, G = w2.heap.size := ⟨_, rfl⟩
  have BG : Hid (Blk (w2.alloc (.cells #[.int .i64 n0, .slice none 0 0] 29)) G 29 #[.int .i64 n0, .slice none 0 0]) := Blk.new hG _ _
  have hwG : Hid (w.heap.size < G) := by unfold Hid; rw [hG]; exact R2.out.lt
  have HGW : Hid (w2.heap.size ≤ G) := by unfold Hid; omega
  have hsG : Since w2 (w2.alloc (.cells #[.int .i64 n0, .slice none 0 0] 29)) := (Since.refl w2).alloc _
  go_wp2_with fail
  rw [← hG]
  clear hG
  go_loopw [8] (fun i wr => ∃ (j : Nat) (v : Value), j ≤ T ∧ j ≤ 61 ∧ i = .int .i64 ((j + 1 : Nat) : Int) ∧ Hid (OwnSt (G + 1) wr v ((r.take j).map sOf)) ∧ Hid (Blk wr G 29 #[.int .i64 n0, v]) ∧ Since w2 wr) (fun i _ => 63 - (intOf i).toNat)
  case atStart => exact ⟨0, .slice none 0 0, Nat.zero_le _, by omega, rfl, World.ownsRow_nil _ _ _ _, BG.out, hsG⟩
  case round =>
    obtain ⟨j, v, hj, hj9, rfl, HO, HBG, hsw⟩ := hrel
    by_cases hlt : j < T ∧ j < 61
    · obtain ⟨hl1, hl2⟩ := hlt
      have hjr : j < r.length := by have := HT.out; omega
      have hcell1 : wr.cell? ⟨g, j + 1, none⟩ = some (.string (bS r[j])) := HG2.out wr hsw j hjr
      have HTK : Hid ((r.take (j + 1)).map sOf = (r.take j).map sOf ++ [sOf r[j]]) := map_takeQ r j hjr
      have HLN : Hid (((r.take j).map sOf).length ≤ 1048577) := by unfold Hid; rw [List.length_map, List.length_take]; omega
      have HPI : Hid (∀ W, Calls Tryd.prog 25 #[.string (bS (cutM r[j]))] W fun e w' => e = .returned (.tuple #[.int .i64 (sOf r[j]).id, .bool (pOut (cutM r[j])).2]) ∧ Since W w') := fun W => by
        have h := specPI_any (bS (cutM r[j])) W (by rw [bS_size]; have := HTS.out j hjr; unfold cutM; split; · rw [List.length_dropLast]; omega
                                                    · exact this)
        rw [bS_list] at h
        exact h
      have HINV : Hid ((sOf r[j]).inv = hasM r[j]) := rfl
      have hqz : (bS r[j]).size ≤ 1048576 := by rw [bS_size]; exact HTS.out j hjr
      generalize (pOut (cutM r[j])).2 = b2 at HPI
      rcases part_cases r[j] with ⟨h1, h2, h3⟩ | ⟨m, hm, hm1, ⟨h45, h2, h3⟩ | ⟨h45, h2, h3⟩⟩
      · rw [h2] at HPI
        rw [h3] at HINV
        have hq0 : ¬ (0 : Int) < ((bS r[j]).size : Int) := by omega
        have hq1 : (bS r[j]).size ≤ 0 := by omega
        clear h1 h2 h3
        generalize bS r[j] = qq at *
        obtain ⟨Z, hZ⟩ : ∃ Z, Z = sOf r[j] := ⟨_, rfl⟩
        rw [← hZ] at HPI HTK HINV
        clear hZ
        obtain ⟨zi, zb⟩ := Z
        obtain rfl : zb = false := HINV.out
        clear HINV
        have hX : Hid (Blk (wr.alloc (.cells #[.int .i64 0, .bool false] 41)) wr.heap.size 41 #[.int .i64 0, .bool false]) := Blk.new rfl _ _
        have hs3 : Since wr (wr.alloc (.cells #[.int .i64 0, .bool false] 41)) := (Since.refl wr).alloc _
        have HOX := Lib.hid (HO.out.since hs3)
        have HBX := Lib.hid (HBG.out.since hs3)
        have hswX := hsw.trans hs3
        obtain ⟨x0, x1, x2, x3⟩ := hX.out.two
        have hwz : G < wr.heap.size := HBG.out.lt
        go_wp2_with fail
        clear x0 x1 x2 x3 hcell1
        refine (HPI.out _).mono ?_
        rintro en w3 ⟨rfl, hs4⟩
        obtain ⟨x0, x1, x2, x3⟩ := (hX.out.since hs4).two
        have hX4 := Lib.hid ((hX.out.since hs4).set 0 (.int .i64 zi))
        have hsT := hs3.trans hs4
        have hwz3 : wr.heap.size < w3.heap.size := by have := (hX.out.since hs4).lt; exact this
        have hc4 : Since wr (w3.setCell ⟨wr.heap.size, 0, none⟩ (.int .i64 zi)) := hsT.setCell (Nat.le_refl _) _
        have hsw4 := hsw.trans hc4
        have HO4 := Lib.hid (HO.out.since hc4)
        have HB4 := Lib.hid (HBG.out.since hc4)
        obtain ⟨y0, y1, y2, y3⟩ := hX4.out.two
        obtain ⟨q0, q1, q2, q3⟩ := HB4.out.two
        have hGz : G < (w3.setCell ⟨wr.heap.size, 0, none⟩ (.int .i64 zi)).heap.size := HB4.out.lt
        clear HO HBG HOX HBX hX hc4 hsT hs3 hs4
        go_wp2_with (at_builtin; go_must (refine wpList_append_stB rfl (.tmp 61) (.tmp 63) rfl v ((r.take j).map sOf) (by first | rfl | simp [Act.eval]) HO4.out ⟨zi, false⟩ (by first | rfl | simp [Act.eval]) HLN.out (by omega) ?_); intro v3 w5 ho5 hg5; rw [← HTK.out] at ho5; obtain ⟨n5, hn5⟩ : ∃ n, ((r.take (j + 1)).map sOf).length = n := ⟨_, rfl⟩; obtain ⟨o5, c5, hv5⟩ := ho5.len; rw [hn5] at hv5; subst hv5; clear hn5; have HO5 := Lib.hid ho5; clear ho5; have hs5 := (hsw4.alloc (.cells #[.int .i64 zi, .bool false] 41)).grown hg5 (fun k hk => by have := (HO4.out.lt k hk).1; have := HGW.out; omega); have hB5 := Lib.hid ((HB4.out.alloc (.cells #[.int .i64 zi, .bool false] 41)).grwQ hg5 (fun e => by have := (HO4.out.lt G e.symm).1; omega)); obtain ⟨z0, z1, z2, z3⟩ := hB5.out.two)
        have HB6 : Hid (Blk (w5.setCell ⟨G, 1, none⟩ (.slice o5 n5 c5)) G 29 #[.int .i64 n0, .slice o5 n5 c5]) := hB5.out.set 1 (.slice o5 n5 c5)
        have HO6 := Lib.hid (HO5.out.far (p := ⟨G, 1, none⟩) (by simp) (.slice o5 n5 c5))
        have hs6 := hs5.setCell (a := ⟨G, 1, none⟩) HGW.out (.slice o5 n5 c5)
        go_roundw
        case rel => exact ⟨j + 1, .slice o5 n5 c5, by omega, by omega, by go_num, HO6.out, HB6.out, hs6⟩
        case measure => simp [intOf]; omega
      · rw [← h3] at HPI
        rw [h2] at HINV
        have hq0 : (0 : Int) < ((bS r[j]).size : Int) := by omega
        have hq1 : 0 < (bS r[j]).size := by omega
        have hwp : IntKind.i64.wrap (((bS r[j]).size : Int) - 1) = (m : Int) := by rw [IntKind.wrap_i64]; omega
        have hme : (((bS r[j])[m].toNat : Int) == 45) = true := by simp; omega
        clear h2 h3 h45 hm1
        generalize bS r[j] = qq at *
        obtain ⟨Z, hZ⟩ : ∃ Z, Z = sOf r[j] := ⟨_, rfl⟩
        rw [← hZ] at HPI HTK HINV
        clear hZ
        obtain ⟨zi, zb⟩ := Z
        obtain rfl : zb = true := HINV.out
        clear HINV
        have hX : Hid (Blk (wr.alloc (.cells #[.int .i64 0, .bool true] 41)) wr.heap.size 41 #[.int .i64 0, .bool true]) := Blk.new rfl _ _
        have hs3 : Since wr (wr.alloc (.cells #[.int .i64 0, .bool true] 41)) := (Since.refl wr).alloc _
        have HOX := Lib.hid (HO.out.since hs3)
        have HBX := Lib.hid (HBG.out.since hs3)
        have hswX := hsw.trans hs3
        obtain ⟨x0, x1, x2, x3⟩ := hX.out.two
        have hwz : G < wr.heap.size := HBG.out.lt
        go_wp2_with fail
        clear x0 x1 x2 x3 hcell1
        refine (HPI.out _).mono ?_
        rintro en w3 ⟨rfl, hs4⟩
        obtain ⟨x0, x1, x2, x3⟩ := (hX.out.since hs4).two
        have hX4 := Lib.hid ((hX.out.since hs4).set 0 (.int .i64 zi))
        have hsT := hs3.trans hs4
        have hwz3 : wr.heap.size < w3.heap.size := by have := (hX.out.since hs4).lt; exact this
        have hc4 : Since wr (w3.setCell ⟨wr.heap.size, 0, none⟩ (.int .i64 zi)) := hsT.setCell (Nat.le_refl _) _
        have hsw4 := hsw.trans hc4
        have HO4 := Lib.hid (HO.out.since hc4)
        have HB4 := Lib.hid (HBG.out.since hc4)
        obtain ⟨y0, y1, y2, y3⟩ := hX4.out.two
        obtain ⟨q0, q1, q2, q3⟩ := HB4.out.two
        have hGz : G < (w3.setCell ⟨wr.heap.size, 0, none⟩ (.int .i64 zi)).heap.size := HB4.out.lt
        clear HO HBG HOX HBX hX hc4 hsT hs3 hs4
        go_wp2_with (at_builtin; go_must (refine wpList_append_stB rfl (.tmp 61) (.tmp 63) rfl v ((r.take j).map sOf) (by first | rfl | simp [Act.eval]) HO4.out ⟨zi, true⟩ (by first | rfl | simp [Act.eval]) HLN.out (by omega) ?_); intro v3 w5 ho5 hg5; rw [← HTK.out] at ho5; obtain ⟨n5, hn5⟩ : ∃ n, ((r.take (j + 1)).map sOf).length = n := ⟨_, rfl⟩; obtain ⟨o5, c5, hv5⟩ := ho5.len; rw [hn5] at hv5; subst hv5; clear hn5; have HO5 := Lib.hid ho5; clear ho5; have hs5 := (hsw4.alloc (.cells #[.int .i64 zi, .bool true] 41)).grown hg5 (fun k hk => by have := (HO4.out.lt k hk).1; have := HGW.out; omega); have hB5 := Lib.hid ((HB4.out.alloc (.cells #[.int .i64 zi, .bool true] 41)).grwQ hg5 (fun e => by have := (HO4.out.lt G e.symm).1; omega)); obtain ⟨z0, z1, z2, z3⟩ := hB5.out.two)
        have HB6 : Hid (Blk (w5.setCell ⟨G, 1, none⟩ (.slice o5 n5 c5)) G 29 #[.int .i64 n0, .slice o5 n5 c5]) := hB5.out.set 1 (.slice o5 n5 c5)
        have HO6 := Lib.hid (HO5.out.far (p := ⟨G, 1, none⟩) (by simp) (.slice o5 n5 c5))
        have hs6 := hs5.setCell (a := ⟨G, 1, none⟩) HGW.out (.slice o5 n5 c5)
        go_roundw
        case rel => exact ⟨j + 1, .slice o5 n5 c5, by omega, by omega, by go_num, HO6.out, HB6.out, hs6⟩
        case measure => simp [intOf]; omega
      · rw [h3] at HPI
        rw [h2] at HINV
        have hq0 : (0 : Int) < ((bS r[j]).size : Int) := by omega
        have hq1 : 0 < (bS r[j]).size := by omega
        have hwp : IntKind.i64.wrap (((bS r[j]).size : Int) - 1) = (m : Int) := by rw [IntKind.wrap_i64]; omega
        have hme : (((bS r[j])[m].toNat : Int) == 45) = false := by simp; omega
        clear h2 h3 h45 hm1
        generalize bS r[j] = qq at *
        obtain ⟨Z, hZ⟩ : ∃ Z, Z = sOf r[j] := ⟨_, rfl⟩
        rw [← hZ] at HPI HTK HINV
        clear hZ
        obtain ⟨zi, zb⟩ := Z
        obtain rfl : zb = false := HINV.out
        clear HINV
        have hX : Hid (Blk (wr.alloc (.cells #[.int .i64 0, .bool false] 41)) wr.heap.size 41 #[.int .i64 0, .bool false]) := Blk.new rfl _ _
        have hs3 : Since wr (wr.alloc (.cells #[.int .i64 0, .bool false] 41)) := (Since.refl wr).alloc _
        have HOX := Lib.hid (HO.out.since hs3)
        have HBX := Lib.hid (HBG.out.since hs3)
        have hswX := hsw.trans hs3
        obtain ⟨x0, x1, x2, x3⟩ := hX.out.two
        have hwz : G < wr.heap.size := HBG.out.lt
        go_wp2_with fail
        clear x0 x1 x2 x3 hcell1
        refine (HPI.out _).mono ?_
        rintro en w3 ⟨rfl, hs4⟩
        obtain ⟨x0, x1, x2, x3⟩ := (hX.out.since hs4).two
        have hX4 := Lib.hid ((hX.out.since hs4).set 0 (.int .i64 zi))
        have hsT := hs3.trans hs4
        have hwz3 : wr.heap.size < w3.heap.size := by have := (hX.out.since hs4).lt; exact this
        have hc4 : Since wr (w3.setCell ⟨wr.heap.size, 0, none⟩ (.int .i64 zi)) := hsT.setCell (Nat.le_refl _) _
        have hsw4 := hsw.trans hc4
        have HO4 := Lib.hid (HO.out.since hc4)
        have HB4 := Lib.hid (HBG.out.since hc4)
        obtain ⟨y0, y1, y2, y3⟩ := hX4.out.two
        obtain ⟨q0, q1, q2, q3⟩ := HB4.out.two
        have hGz : G < (w3.setCell ⟨wr.heap.size, 0, none⟩ (.int .i64 zi)).heap.size := HB4.out.lt
        clear HO HBG HOX HBX hX hc4 hsT hs3 hs4
        go_wp2_with (at_builtin; go_must (refine wpList_append_stB rfl (.tmp 61) (.tmp 63) rfl v ((r.take j).map sOf) (by first | rfl | simp [Act.eval]) HO4.out ⟨zi, false⟩ (by first | rfl | simp [Act.eval]) HLN.out (by omega) ?_); intro v3 w5 ho5 hg5; rw [← HTK.out] at ho5; obtain ⟨n5, hn5⟩ : ∃ n, ((r.take (j + 1)).map sOf).length = n := ⟨_, rfl⟩; obtain ⟨o5, c5, hv5⟩ := ho5.len; rw [hn5] at hv5; subst hv5; clear hn5; have HO5 := Lib.hid ho5; clear ho5; have hs5 := (hsw4.alloc (.cells #[.int .i64 zi, .bool false] 41)).grown hg5 (fun k hk => by have := (HO4.out.lt k hk).1; have := HGW.out; omega); have hB5 := Lib.hid ((HB4.out.alloc (.cells #[.int .i64 zi, .bool false] 41)).grwQ hg5 (fun e => by have := (HO4.out.lt G e.symm).1; omega)); obtain ⟨z0, z1, z2, z3⟩ := hB5.out.two)
        have HB6 : Hid (Blk (w5.setCell ⟨G, 1, none⟩ (.slice o5 n5 c5)) G 29 #[.int .i64 n0, .slice o5 n5 c5]) := hB5.out.set 1 (.slice o5 n5 c5)
        have HO6 := Lib.hid (HO5.out.far (p := ⟨G, 1, none⟩) (by simp) (.slice o5 n5 c5))
        have hs6 := hs5.setCell (a := ⟨G, 1, none⟩) HGW.out (.slice o5 n5 c5)
        go_roundw
        case rel => exact ⟨j + 1, .slice o5 n5 c5, by omega, by omega, by go_num, HO6.out, HB6.out, hs6⟩
        case measure => simp [intOf]; omega
    · have HT61 := Lib.hid (congrArg (List.map sOf) (take61 (r := r) (j := j) (by have := HT.out; omega) hj9 (by have := HT.out; omega)))
      rw [← HT61.out] at HO
      clear HT61
      obtain ⟨so, sc, hv⟩ := HO.out.len
      have hl9 : ((r.take 61).map sOf).length ≤ 1048577 := by rw [List.length_map, List.length_take]; omega
      obtain ⟨m, hm⟩ : ∃ m, ((r.take 61).map sOf).length = m := ⟨_, rfl⟩
      rw [hm] at hv
      subst hv
      clear hm
      have HFK : Hid (∀ W, Since wr W → Calls Tryd.prog 6 #[.agg #[.int .i64 n0, .slice so m sc]] W fun en w' => en = .returned (.string (fmtK (wOf p r))) ∧ Since W w') := fun W hW => specFK_any _ (wOf p r) W (by rw [HW0.out]; exact ⟨_, rfl, HO.out.at.since hW⟩) (by rw [HW0.out]; exact hl9)
      obtain ⟨a0, a1, a2, a3⟩ := (R2.out.since hsw).two
      obtain ⟨q0, q1, q2, q3⟩ := HBG.out.two
      have hwg := hwG.out
      have HS := Lib.hid (hs02.trans hsw)
      by_cases hjT : j < T
      · have hj61 : ¬ ((j : Int) + 1 ≤ 61) := by omega
        by_cases hnil : s = ⟨#[]⟩
        · have HP : Hid (piB p r = false) := by unfold Hid; rw [← HSAME.out]; unfold pkB; rw [decide_eq_false (fun h => h hnil)]; rfl
          subst hnil
          go_wp2_with fail
          refine bodyPost_ret (v := .tuple #[.agg #[.int .i64 0, .slice none 0 0], .bool false]) (by simp [results, Tryd.results10, go_sem, *]) rfl ?_
          refine wbQ_no HP.out ?_
          exact (HS.out.setCell (by simp) _).setCell (by simp) _
        · have he1 : s.toList ≠ [] := fun e => hnil (by apply strQ_ext; rw [← ByteArray.toList_eq, e])
          have he2 : (s.toList == []) = false := by simpa using he1
          have HPK : Hid (piB p r = decide (fmtK (wOf p r) = s)) := by unfold Hid; rw [← HSAME.out]; unfold pkB; rw [decide_eq_true (show s ≠ ⟨#[]⟩ from hnil), Bool.true_and]
          clear hnil HSAME
          go_wp2_with fail
          refine (HFK.out _ (Since.refl _)).mono ?_
          rintro en w5 ⟨rfl, hs5⟩
          have HS5 := Lib.hid (HS.out.trans hs5)
          obtain ⟨a0, a1, a2, a3⟩ := (R2.out.since (hsw.trans hs5)).two
          obtain ⟨q0, q1, q2, q3⟩ := (HBG.out.since hs5).two
          have HR0 := Lib.hid (HO.out.since hs5)
          generalize fmtK (wOf p r) = F at HPK HFK
          by_cases hf : F = s
          · have HP : Hid (piB p r = true) := by unfold Hid; rw [HPK.out]; exact decide_eq_true hf
            have HR : Hid (OwnSt (G + 1) w5 (.slice so m sc) (r.map sOf)) := by have := HR0.out; rwa [List.take_of_length_le (by have := (pkW_yes HP.out).2.2; omega)] at this
            subst hf
            clear HPK HFK
            go_wp2_with fail
            refine bodyPost_ret (v := .tuple #[.agg #[.int .i64 n0, .slice so m sc], .bool true]) (by simp [results, Tryd.results10, go_sem, *]) rfl ?_
            refine wbQ_yes HP.out HN0.out (((HR.out.far (by simp; omega) _).far (by simp; omega) _).mono (by omega)) ?_
            exact (HS5.out.setCell (by simp) _).setCell (by simp) _
          · have hne : (F.toList == s.toList) = false := strQ_ne hf
            have HP : Hid (piB p r = false) := by unfold Hid; rw [HPK.out]; exact decide_eq_false hf
            clear HPK HFK hf
            go_wp2_with fail
            refine bodyPost_ret (v := .tuple #[.agg #[.int .i64 0, .slice none 0 0], .bool false]) (by simp [results, Tryd.results10, go_sem, *]) rfl ?_
            refine wbQ_no HP.out ?_
            exact (HS5.out.setCell (by simp) _).setCell (by simp) _
      · skip
        by_cases hnil : s = ⟨#[]⟩
        · have HP : Hid (piB p r = false) := by unfold Hid; rw [← HSAME.out]; unfold pkB; rw [decide_eq_false (fun h => h hnil)]; rfl
          subst hnil
          go_wp2_with fail
          refine bodyPost_ret (v := .tuple #[.agg #[.int .i64 0, .slice none 0 0], .bool false]) (by simp [results, Tryd.results10, go_sem, *]) rfl ?_
          refine wbQ_no HP.out ?_
          exact (HS.out.setCell (by simp) _).setCell (by simp) _
        · have he1 : s.toList ≠ [] := fun e => hnil (by apply strQ_ext; rw [← ByteArray.toList_eq, e])
          have he2 : (s.toList == []) = false := by simpa using he1
          have HPK : Hid (piB p r = decide (fmtK (wOf p r) = s)) := by unfold Hid; rw [← HSAME.out]; unfold pkB; rw [decide_eq_true (show s ≠ ⟨#[]⟩ from hnil), Bool.true_and]
          clear hnil HSAME
          go_wp2_with fail
          refine (HFK.out _ (Since.refl _)).mono ?_
          rintro en w5 ⟨rfl, hs5⟩
          have HS5 := Lib.hid (HS.out.trans hs5)
          obtain ⟨a0, a1, a2, a3⟩ := (R2.out.since (hsw.trans hs5)).two
          obtain ⟨q0, q1, q2, q3⟩ := (HBG.out.since hs5).two
          have HR0 := Lib.hid (HO.out.since hs5)
          generalize fmtK (wOf p r) = F at HPK HFK
          by_cases hf : F = s
          · have HP : Hid (piB p r = true) := by unfold Hid; rw [HPK.out]; exact decide_eq_true hf
            have HR : Hid (OwnSt (G + 1) w5 (.slice so m sc) (r.map sOf)) := by have := HR0.out; rwa [List.take_of_length_le (by have := (pkW_yes HP.out).2.2; omega)] at this
            subst hf
            clear HPK HFK
            go_wp2_with fail
            refine bodyPost_ret (v := .tuple #[.agg #[.int .i64 n0, .slice so m sc], .bool true]) (by simp [results, Tryd.results10, go_sem, *]) rfl ?_
            refine wbQ_yes HP.out HN0.out (((HR.out.far (by simp; omega) _).far (by simp; omega) _).mono (by omega)) ?_
            exact (HS5.out.setCell (by simp) _).setCell (by simp) _
          · have hne : (F.toList == s.toList) = false := strQ_ne hf
            have HP : Hid (piB p r = false) := by unfold Hid; rw [HPK.out]; exact decide_eq_false hf
            clear HPK HFK hf
            go_wp2_with fail
            refine bodyPost_ret (v := .tuple #[.agg #[.int .i64 0, .slice none 0 0], .bool false]) (by simp [results, Tryd.results10, go_sem, *]) rfl ?_
            refine wbQ_no HP.out ?_
            exact (HS5.out.setCell (by simp) _).setCell (by simp) _
end Go.Proofs.YtilkheclimammaaDoor
