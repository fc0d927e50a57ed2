/- ParseEdge, the program's. -/
import Derived.Test.YtpmkpeclfhmhlaaDoorPeS
namespace Go.Proofs.YtpmkpeclfhmhlaaDoor
set_option maxRecDepth 100000
open Go.ChangeShapes Go.WideShapes Go.ChangeAt Go.RowKit
set_option linter.unusedVariables false
set_option linter.unusedSimpArgs false

/-- The cell of internal/bytealg.MaxLen holds some number. -/
def MaxL (w : World) : Prop := 1 < w.heap.size ∧ ∃ m : Int, w.cell? ⟨1, 0, none⟩ = some (.int .i64 m)
theorem MaxL.since {w w' : World} (h : MaxL w) (k : Since w w') : MaxL w' := by
  obtain ⟨h1, m, h2⟩ := h
  exact ⟨Nat.lt_of_lt_of_le h1 k.size, m, (Below.cell k (p := ⟨1, 0, none⟩) h1).trans h2⟩
theorem Since.drewN' {w w' : World} (h : Since w w') (n : Nat) : Since w (w'.drewN n) := h.drewN n
def colS : ByteArray := ⟨#[58]⟩
theorem cut_any (s : ByteArray) (w : World) (hs : s.size ≤ 1048576) (hm : MaxL w) (a b : ByteArray) (c : Bool) (h : Lib.cut s.data.toList [58] = (a.data.toList, b.data.toList, c)) :
    Calls Tryd.prog 31 #[.string s, .string ⟨#[58]⟩] w fun e w' => e = .returned (.tuple #[.string a, .string b, .bool c]) ∧ Since w w' := by
  obtain ⟨_, m, hm⟩ := hm
  refine (Tryd.strings_Cut s ⟨#[58]⟩ m w (by omega) hm).mono ?_
  rintro e w' ⟨rfl, n, rfl⟩
  refine ⟨?_, Since.drewN' (Since.refl w) n⟩
  rw [show (⟨#[58]⟩ : ByteArray).data.toList = [58] from rfl, h]
theorem cut_miss {s : ByteArray} (h : Lib.index s.data.toList [58] = -1) : Lib.cut s.data.toList [58] = (s.data.toList, [], false) := by
  unfold Lib.cut; rw [if_neg (by omega)]
theorem cut_hit {l : List UInt8} {i : Nat} (h : Lib.index l [58] = (i : Int)) : Lib.cut l [58] = (l.take i, l.drop (i + 1), true) := by
  unfold Lib.cut; rw [if_pos (by omega), h]; rfl

set_option maxHeartbeats 4000000 in
set_option maxRecDepth 100000 in
theorem implPE_any (s : ByteArray) (w : World) (hs : s.size ≤ 1048576) (htab : Tab w) (hfm : Fmts w) (hml : MaxL w) :
    Calls Tryd.prog 11 #[.string s] w fun en w' => en = .returned (.tuple #[ev (peO s).1, .bool (peO s).2]) ∧ Since w w' := by
  unfold ev
  have hs0 : Since w (w.alloc (.cells #[.int .i64 0, .int .i64 0, .int .i64 0, .int .i64 0] 25)) := (Since.refl w).alloc _
  have r0 : Hid (Blk (w.alloc (.cells #[.int .i64 0, .int .i64 0, .int .i64 0, .int .i64 0] 25)) w.heap.size 25 #[.int .i64 0, .int .i64 0, .int .i64 0, .int .i64 0]) := Blk.new rfl _ _
  have HTB := Lib.hid htab
  have HFM := Lib.hid hfm
  have HML := Lib.hid hml
  clear htab hfm hml
  by_cases hi : Lib.index s.data.toList [58] = -1
  · have HO := Lib.hid (pe_miss hi)
    have HC : Hid (∀ W, Since w W → Calls Tryd.prog 31 #[.string s, .string ⟨#[58]⟩] W fun e w' => e = .returned (.tuple #[.string s, .string ByteArray.empty, .bool false]) ∧ Since W w') := fun W hW => cut_any s W hs (HML.out.since hW) s ByteArray.empty false (cut_miss hi)
    clear hi HML
    go_enter Tryd.func11, Tryd.ntmps11
    go_wp2_with fail
    refine (HC.out _ hs0).mono ?_
    rintro en w1 ⟨rfl, hs1⟩
    have hs01 := hs0.trans hs1
    obtain ⟨a0, a1, a2, a3, b0, b1, b2, b3⟩ := (r0.out.since (hs1)).four
    go_wp2_with fail
    refine bodyPost_ret (v := .tuple #[.agg #[.int .i64 0, .int .i64 0, .int .i64 0, .int .i64 0], .bool false]) (by simp [results, Tryd.results11, go_sem, *]) rfl ?_
    refine ⟨pe_ret HO.out rfl, ?_⟩
    iterate 4 (with_reducible refine Since.setCell ?_ (by simp) _)
    exact hs01
  · obtain ⟨i, hj⟩ : ∃ i : Nat, Lib.index s.data.toList [58] = (i : Int) := ⟨(Lib.index s.data.toList [58]).toNat, by have h1 := Lib.index_one s.data.toList 58; have := Lib.indexByte_ge s.data.toList 58; rw [h1] at hi ⊢; omega⟩
    obtain ⟨hsp, hna⟩ := index58_hit hj
    have hcut := cut_hit hj
    clear hi hj
    generalize s.data.toList.take i = al at hsp hna hcut
    generalize s.data.toList.drop (i + 1) = ml at hsp hcut
    have hsz := congrArg List.length hsp
    simp only [List.length_append, List.length_cons] at hsz
    have hsz0 : s.data.toList.length = s.size := Array.length_toList
    obtain ⟨a, ha⟩ : ∃ a : ByteArray, a = ⟨al.toArray⟩ := ⟨_, rfl⟩
    obtain ⟨m, hm⟩ : ∃ m : ByteArray, m = ⟨ml.toArray⟩ := ⟨_, rfl⟩
    have ha2 : a.data.toList = al := by rw [ha]
    have hm2 : m.data.toList = ml := by rw [hm]
    have ha1 : a.size ≤ 1048576 := by rw [ha]; show al.toArray.size ≤ 1048576; rw [List.size_toArray]; omega
    have hm1 : m.size = ml.length := by rw [hm]; exact List.size_toArray
    have hm4 : m.size ≤ 1048576 := by omega
    have HC : Hid (∀ W, Since w W → Calls Tryd.prog 31 #[.string s, .string ⟨#[58]⟩] W fun e w' => e = .returned (.tuple #[.string a, .string m, .bool true]) ∧ Since W w') := fun W hW => cut_any s W hs (HML.out.since hW) a m true (by rw [hcut, ha2, hm2])
    by_cases h3 : m.size = 3
    · skip
      have p0 : 0 < m.size := by omega
      have p2 : 2 < m.size := by omega
      obtain ⟨x, y, z, hxyz⟩ := list3 (m := ml) (by omega)
      have HP0 := pe_three (s := s) (a := al) (x := x) (y := y) (z := z) hna (by rw [hsp, hxyz])
      have hmx : m = ⟨#[x, y, z]⟩ := by rw [hm, hxyz]
      rw [← ha, ← hmx, ← ha2, show (⟨#[y]⟩ : ByteArray) = m.extract 1 2 from by rw [hmx]; exact (mid_eq x y z).symm] at HP0
      have HP := Lib.hid HP0
      have HE0 := Lib.hid (fun W => isEdge_is (eOf a m) 5 _ W rfl)
      clear HP0 hmx hxyz hm ha hsp hna hcut hsz hsz0 hm1 hm2
      unfold ev eOf at HE0
      unfold eOf at HP
      rw [gb_at 0 p0, gb_at 2 p2] at HP HE0
      have b0 := byte_lt m 0 p0
      have b2 := byte_lt m 2 p2
      have v0 : IntKind.i64.wrap (m[0].toNat : Int) = (m[0].toNat : Int) := by rw [IntKind.wrap_i64]; omega
      have v2 : IntKind.i64.wrap (m[2].toNat : Int) = (m[2].toNat : Int) := by rw [IntKind.wrap_i64]; omega
      have w0 : IntKind.i64.wrap ((m[0].toNat : Int) - 48) = (m[0].toNat : Int) - 48 := by rw [IntKind.wrap_i64]; omega
      have w2 : IntKind.i64.wrap ((m[2].toNat : Int) - 48) = (m[2].toNat : Int) - 48 := by rw [IntKind.wrap_i64]; omega
      obtain ⟨k1, k2, k3, k4⟩ := plN_half (m.extract 1 2)
      have wq : IntKind.i64.wrap ((plN (m.extract 1 2)).tdiv 2) = (plN (m.extract 1 2)).tdiv 2 := by rw [IntKind.wrap_i64]; omega
      have HPI : Hid (∀ W, Since w W → Calls Tryd.prog 32 #[.string a] W fun e w' => e = .returned (.tuple #[.int .i64 (pOut a.data.toList).1, .bool (pOut a.data.toList).2]) ∧ Since W w') := fun W hW => implPI_any a W ha1 (HTB.out.since hW)
      have hex : (m.extract 1 2).size ≤ 9223372036854775807 := by rw [ByteArray.size_extract]; omega
      have HPL : Hid (∀ W, Since w W → Calls Tryd.prog 33 #[.string (m.extract 1 2)] W fun e w' => e = .returned (.tuple #[.int .i64 (plN (m.extract 1 2)), .bool (plB (m.extract 1 2))]) ∧ Since W w') := fun W hW => implPL_any (m.extract 1 2) W (HFM.out.since hW) hex
      obtain ⟨q, hq⟩ : ∃ q, (plN (m.extract 1 2)).tdiv 2 = q := ⟨_, rfl⟩
      rw [hq] at wq HP HE0 k1 k2
      generalize plN (m.extract 1 2) = k at hq HPL k3 k4
      generalize plB (m.extract 1 2) = kb at HPL HP
      generalize (pOut a.data.toList).1 = n at HP HE0 HPI
      generalize (pOut a.data.toList).2 = nb at HPI HP
      obtain ⟨x0, hx0⟩ : ∃ x, (m[0].toNat : Int) - 48 = x := ⟨_, rfl⟩
      obtain ⟨x2, hx2⟩ : ∃ x, (m[2].toNat : Int) - 48 = x := ⟨_, rfl⟩
      rw [hx0] at w0 HP HE0
      rw [hx2] at w2 HP HE0
      obtain ⟨c, hcc⟩ : ∃ c, edB 5 ⟨n, x0, x2, q⟩ = c := ⟨_, rfl⟩
      rw [hcc] at HP HE0
      have HE : Hid (∀ W, Calls Tryd.prog 25 #[.agg #[.int .i64 n, .int .i64 x0, .int .i64 x2, .int .i64 q], .int .i64 5] W fun en w' => en = .returned (.bool c) ∧ Since W w') := HE0.out
      clear b0 b2 k1 k2 k3 k4 hcc HE0 HML HTB HFM hex ha2 y
      go_enter Tryd.func11, Tryd.ntmps11
      go_wp2_with fail
      refine (HC.out _ hs0).mono ?_
      rintro en w1 ⟨rfl, hs1⟩
      have hs01 := hs0.trans hs1
      go_wp2_with fail
      refine (HPI.out _ hs01).mono ?_
      rintro en w2 ⟨rfl, hs2⟩
      have hs02 := hs01.trans hs2
      go_wp2_with fail
      refine (HPL.out _ hs02).mono ?_
      rintro en y ⟨rfl, hs3⟩
      have hs13 := hs2.trans hs3
      have r1 := Lib.hid (r0.out.since (hs1.trans hs13))
      have hs03 := hs0.trans (hs1.trans hs13)
      clear r0 hs0 hs01 hs02
      have r0 := r1
      have hs0 := hs03
      clear r1 hs03
      go_wp2_with fail
      refine wp_region_held_drew (S := (fun w' => True)) (by kernel_rfl) trivial (fun hHeld => ?_)
      refine take_yes 0 (some 37) (v := ?_) rfl (by kernel_rfl) (by kernel_rfl) (by kernel_rfl) (by kernel_rfl) (fun _ _ _ h => h) (by rfl) (by assumption) ?_ ?_
      rotate_left
      · (intro w' hSw; (try dsimp only at hSw); go_simp; try with_reducible rfl)
      try simp only [Act.put, List.setIfInBounds_toArray, List.set_cons_zero, List.set_cons_succ]
      refine take_yes 1 (some 38) (v := ?_) rfl (by kernel_rfl) (by kernel_rfl) (by kernel_rfl) (by kernel_rfl) (fun _ _ _ h => h) (by rfl) (by assumption) ?_ ?_
      rotate_left
      · (intro w' hSw; (try dsimp only at hSw); go_simp; try with_reducible rfl)
      try simp only [Act.put, List.setIfInBounds_toArray, List.set_cons_zero, List.set_cons_succ]
      refine take_yes 2 (some 39) (v := ?_) rfl (by kernel_rfl) (by kernel_rfl) (by kernel_rfl) (by kernel_rfl) (fun _ _ _ h => h) (by rfl) (by assumption) ?_ ?_
      rotate_left
      · (intro w' hSw; (try dsimp only at hSw); go_simp; try with_reducible rfl)
      try simp only [Act.put, List.setIfInBounds_toArray, List.set_cons_zero, List.set_cons_succ]
      refine take_yes 3 (some 40) (v := ?_) rfl (by kernel_rfl) (by kernel_rfl) (by kernel_rfl) (by kernel_rfl) (fun _ _ _ h => h) (by rfl) (by assumption) ?_ ?_
      rotate_left
      · (intro w' hSw; (try dsimp only at hSw); go_simp; try with_reducible rfl)
      try simp only [Act.put, List.setIfInBounds_toArray, List.set_cons_zero, List.set_cons_succ]
      refine take_yes 4 (some 41) (v := ?_) rfl (by kernel_rfl) (by kernel_rfl) (by kernel_rfl) (by kernel_rfl) (fun _ _ _ h => h) (by rfl) (by assumption) ?_ ?_
      rotate_left
      · (intro w' hSw; (try dsimp only at hSw); go_simp; try with_reducible rfl)
      try simp only [Act.put, List.setIfInBounds_toArray, List.set_cons_zero, List.set_cons_succ]
      refine take_yes 5 (some 42) (v := ?_) rfl (by kernel_rfl) (by kernel_rfl) (by kernel_rfl) (by kernel_rfl) (fun _ _ _ h => h) (by rfl) (by assumption) ?_ ?_
      rotate_left
      · (intro w' hSw; (try dsimp only at hSw); go_simp; try with_reducible rfl)
      try simp only [Act.put, List.setIfInBounds_toArray, List.set_cons_zero, List.set_cons_succ]
      refine take_yes 6 (some 43) (v := ?_) rfl (by kernel_rfl) (by kernel_rfl) (by kernel_rfl) (by kernel_rfl) (fun _ _ _ h => h) (by rfl) (by assumption) ?_ ?_
      rotate_left
      · (intro w' hSw; (try dsimp only at hSw); go_simp; try with_reducible rfl)
      try simp only [Act.put, List.setIfInBounds_toArray, List.set_cons_zero, List.set_cons_succ]
      refine take_yes 7 (some 44) (v := ?_) rfl (by kernel_rfl) (by kernel_rfl) (by kernel_rfl) (by kernel_rfl) (fun _ _ _ h => h) (by rfl) (by assumption) ?_ ?_
      rotate_left
      · (intro w' hSw; (try dsimp only at hSw); go_simp; try with_reducible rfl)
      try simp only [Act.put, List.setIfInBounds_toArray, List.set_cons_zero, List.set_cons_succ]
      refine take_yes 8 (some 45) (v := ?_) rfl (by kernel_rfl) (by kernel_rfl) (by kernel_rfl) (by kernel_rfl) (fun _ _ _ h => h) (by rfl) (by assumption) ?_ ?_
      rotate_left
      · (intro w' hSw; (try dsimp only at hSw); go_simp; try with_reducible rfl)
      try simp only [Act.put, List.setIfInBounds_toArray, List.set_cons_zero, List.set_cons_succ]
      refine take_yes 9 (some 46) (v := ?_) rfl (by kernel_rfl) (by kernel_rfl) (by kernel_rfl) (by kernel_rfl) (fun _ _ _ h => h) (by rfl) (by assumption) ?_ ?_
      rotate_left
      · (intro w' hSw; (try dsimp only at hSw); go_simp; try with_reducible rfl)
      try simp only [Act.put, List.setIfInBounds_toArray, List.set_cons_zero, List.set_cons_succ]
      refine take_yes 10 (some 47) (v := ?_) rfl (by kernel_rfl) (by kernel_rfl) (by kernel_rfl) (by kernel_rfl) (fun _ _ _ h => h) (by rfl) (by assumption) ?_ ?_
      rotate_left
      · (intro w' hSw; (try dsimp only at hSw); go_simp; try with_reducible rfl)
      try simp only [Act.put, List.setIfInBounds_toArray, List.set_cons_zero, List.set_cons_succ]
      refine take_yes 11 (some 48) (v := ?_) rfl (by kernel_rfl) (by kernel_rfl) (by kernel_rfl) (by kernel_rfl) (fun _ _ _ h => h) (by rfl) (by assumption) ?_ ?_
      rotate_left
      · (intro w' hSw; (try dsimp only at hSw); go_simp; try with_reducible rfl)
      try simp only [Act.put, List.setIfInBounds_toArray, List.set_cons_zero, List.set_cons_succ]
      refine take_run 12 rfl (by kernel_rfl) (by rfl) (fun K hK => ?_)
      go_simp
      have hca := Since.alloc (Since.refl y).drew (.cells #[.int .i64 0, .int .i64 0, .int .i64 0, .int .i64 0] 25)
      have BA : Hid (Blk (y.drew.alloc (.cells #[.int .i64 0, .int .i64 0, .int .i64 0, .int .i64 0] 25)) y.heap.size 25 #[.int .i64 0, .int .i64 0, .int .i64 0, .int .i64 0]) := Blk.new rfl _ _
      refine hK.out _ _ trivial (fun hHelda => ?_)
      clear hK K hHeld
      try simp only [Act.put, List.setIfInBounds_toArray, List.set_cons_zero, List.set_cons_succ]
      refine take_run 13 rfl (by kernel_rfl) (by rfl) (fun K hK => ?_)
      obtain ⟨s0, s1, s2, s3, s4, s5, s6, s7⟩ := BA.out.four
      go_simp
      try simp only [v0, v2, hx0, hx2, w0, w2, hq, wq]
      clear s0 s1 s2 s3 s4 s5 s6 s7
      have hcf : Since y ((y.alloc (.cells #[.int .i64 n, .int .i64 x0, .int .i64 x2, .int .i64 q] 25)).drew) := ((Since.refl y).alloc _).drew
      refine hK.out _ _ trivial (fun hHeldz => ?_)
      clear hK K hHelda
      try simp only [Act.put, List.setIfInBounds_toArray, List.set_cons_zero, List.set_cons_succ]
      refine wpAnyH_done (by kernel_rfl) ?_ _
      clear hHeldz
      have BF : Blk ((y.alloc (.cells #[.int .i64 n, .int .i64 x0, .int .i64 x2, .int .i64 q] 25)).drew) y.heap.size 25 #[.int .i64 n, .int .i64 x0, .int .i64 x2, .int .i64 q] := (Blk.new rfl _ _).drew
      have HR := Lib.hid (r0.out.since hcf)
      have hsz : Since w _ := hs0.trans hcf
      have hzz : Hid (w.heap.size < y.heap.size) := r0.out.lt
      obtain ⟨u, hu⟩ : ∃ u, u = y.heap.size := ⟨_, rfl⟩
      rw [← hu] at BF hzz ⊢
      clear hu
      have HF := Lib.hid BF
      obtain ⟨d0, d1, d2, d3, e0, e1, e2, e3⟩ := BF.four
      generalize ((y.alloc (.cells #[.int .i64 n, .int .i64 x0, .int .i64 x2, .int .i64 q] 25)).drew) = yf at d0 d1 d2 d3 e0 e1 e2 e3 HF HR hsz hcf ⊢
      clear BF
      rcases Bool.eq_false_or_eq_true nb with rfl | rfl
      · rcases Bool.eq_false_or_eq_true kb with rfl | rfl
        · go_wp2_with fail
          refine (HE.out _).mono ?_
          rintro en w5 ⟨rfl, hs5⟩
          have hs05 := hsz.trans hs5
          clear d0 d1 d2 d3 e0 e1 e2 e3
          obtain ⟨d0, d1, d2, d3, e0, e1, e2, e3⟩ := (HF.out.since hs5).four
          rcases Bool.eq_false_or_eq_true c with rfl | rfl
          · have HO : Hid (peO s = (⟨n, x0, x2, q⟩, true)) := by have := HP.out; unfold Hid; simpa using this
            obtain ⟨a0, a1, a2, a3, b0, b1, b2, b3⟩ := (HR.out.since hs5).four
            go_wp2_with fail
            refine bodyPost_ret (v := .tuple #[.agg #[.int .i64 n, .int .i64 x0, .int .i64 x2, .int .i64 q], .bool true]) (by simp [results, Tryd.results11, go_sem, *]) rfl ?_
            refine ⟨pe_ret HO.out rfl, ?_⟩
            iterate 4 (with_reducible refine Since.setCell ?_ (by simp) _)
            exact hs05
          · have HO : Hid (peO s = (zeroE, false)) := by have := HP.out; unfold Hid; simpa using this
            obtain ⟨a0, a1, a2, a3, b0, b1, b2, b3⟩ := (HR.out.since hs5).four
            go_wp2_with fail
            refine bodyPost_ret (v := .tuple #[.agg #[.int .i64 0, .int .i64 0, .int .i64 0, .int .i64 0], .bool false]) (by simp [results, Tryd.results11, go_sem, *]) rfl ?_
            refine ⟨pe_ret HO.out rfl, ?_⟩
            iterate 4 (with_reducible refine Since.setCell ?_ (by simp) _)
            exact hs05
        · have HO : Hid (peO s = (zeroE, false)) := by have := HP.out; unfold Hid; simpa using this
          obtain ⟨a0, a1, a2, a3, b0, b1, b2, b3⟩ := HR.out.four
          go_wp2_with fail
          refine bodyPost_ret (v := .tuple #[.agg #[.int .i64 0, .int .i64 0, .int .i64 0, .int .i64 0], .bool false]) (by simp [results, Tryd.results11, go_sem, *]) rfl ?_
          refine ⟨pe_ret HO.out rfl, ?_⟩
          iterate 4 (with_reducible refine Since.setCell ?_ (by simp) _)
          exact hsz
      · have HO : Hid (peO s = (zeroE, false)) := by have := HP.out; unfold Hid; simpa using this
        obtain ⟨a0, a1, a2, a3, b0, b1, b2, b3⟩ := HR.out.four
        go_wp2_with fail
        refine bodyPost_ret (v := .tuple #[.agg #[.int .i64 0, .int .i64 0, .int .i64 0, .int .i64 0], .bool false]) (by simp [results, Tryd.results11, go_sem, *]) rfl ?_
        refine ⟨pe_ret HO.out rfl, ?_⟩
        iterate 4 (with_reducible refine Since.setCell ?_ (by simp) _)
        exact hsz

    · have HO := Lib.hid (pe_len (s := s) (a := al) (m := ml) hna hsp (by omega))
      have h3i : ((m.size : Int) == 3) = false := by rw [beq_eq_false_iff_ne]; omega
      clear HML hsp hna hcut hsz hsz0 ha hm ha2 hm2 hm1 ha1
      go_enter Tryd.func11, Tryd.ntmps11
      go_wp2_with fail
      refine (HC.out _ hs0).mono ?_
      rintro en w1 ⟨rfl, hs1⟩
      have hs01 := hs0.trans hs1
      obtain ⟨a0, a1, a2, a3, b0, b1, b2, b3⟩ := (r0.out.since (hs1)).four
      go_wp2_with fail
      refine bodyPost_ret (v := .tuple #[.agg #[.int .i64 0, .int .i64 0, .int .i64 0, .int .i64 0], .bool false]) (by simp [results, Tryd.results11, go_sem, *]) rfl ?_
      refine ⟨pe_ret HO.out rfl, ?_⟩
      iterate 4 (with_reducible refine Since.setCell ?_ (by simp) _)
      exact hs01
end Go.Proofs.YtpmkpeclfhmhlaaDoor
