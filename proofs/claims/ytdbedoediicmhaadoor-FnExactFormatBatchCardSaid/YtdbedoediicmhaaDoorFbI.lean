/- The program's FormatBatch. -/
import Derived.Test.YtdbedoediicmhaaDoorFbM
namespace Go.Proofs.YtdbedoediicmhaaDoor
set_option maxRecDepth 100000
set_option linter.unusedVariables false
set_option linter.unusedSimpArgs false
open Go.ChangeShapes Go.WideShapes Go.ChangeAt Go.RowKit

def bfill (cs : List Chg) (k : Nat) : List Value := filled ((cs.map fmtC).map scell) (.string ByteArray.empty) k
theorem row_sinceB {base size n : Nat} {e : TypeId} {w w' : World} {v : Value} {xs : List Value} (h : w.ownsRow base e size v n xs) (k : Since w w') : w'.ownsRow base e size v n xs := row_since h k
set_option maxRecDepth 100000 in
theorem signI_any (e : Edg) (w : World) : Calls Tryd.prog 105 #[ev e] w fun en w' => en = .returned (.string ⟨#[43]⟩) ∧ Since w w' := by
  unfold ev
  have hs0 : Since w (w.alloc (.cells #[.int .i64 e.id, .int .i64 e.fr, .int .i64 (Edg.to e), .int .i64 e.lb] 66)) := (Since.refl w).alloc _
  go_enter Tryd.func105, Tryd.ntmps105
  go_wp2
  go_ret
  first | exact ⟨rfl, hs0⟩ | exact ⟨rfl, Since.refl _⟩
set_option maxRecDepth 100000 in
theorem signD_any (e : Edg) (w : World) : Calls Tryd.prog 107 #[ev e] w fun en w' => en = .returned (.string ⟨#[45]⟩) ∧ Since w w' := by
  unfold ev
  have hs0 : Since w (w.alloc (.cells #[.int .i64 e.id, .int .i64 e.fr, .int .i64 (Edg.to e), .int .i64 e.lb] 67)) := (Since.refl w).alloc _
  go_enter Tryd.func107, Tryd.ntmps107
  go_wp2
  go_ret
  first | exact ⟨rfl, hs0⟩ | exact ⟨rfl, Since.refl _⟩
set_option maxRecDepth 100000 in
theorem effectF_any (c : Chg) (w : World) : Calls Tryd.prog 18 #[cv c] w fun en w' => en = .returned (.iface (if c.ins = true then 66 else 67) (ev c.ed)) ∧ Since w w' := by
  obtain ⟨ci, ⟨d0, d1, d2, d3⟩⟩ := c
  unfold cv ev
  dsimp only
  have hs0 : Since w (w.alloc (.cells #[.bool ci, .int .i64 d0, .int .i64 d1, .int .i64 d2, .int .i64 d3] 42)) := (Since.refl w).alloc _
  cases ci
  all_goals
    go_enter Tryd.func18, Tryd.ntmps18
    go_wp2
    go_ret
    exact ⟨rfl, hs0⟩
theorem fmtC_size (c : Chg) : (fmtC c).size ≤ 67 := by
  have := fmtE_sizeB c.ed
  have e2 : (⟨#[sgnC c]⟩ : ByteArray).size = 1 := rfl
  unfold fmtC
  simp only [ByteArray.size_append]
  omega
set_option maxHeartbeats 4000000 in
set_option maxRecDepth 100000 in
theorem implFB_any (v : Value) (cs : List Chg) (w : World) (htab : Tab w) (hfm : Fmts w) (h : BchAt w v cs) (h1 : cs.length ≤ 1048577) :
    Calls Tryd.prog 8 #[v] w fun e w' => e = .returned (.string (fmtBat cs)) ∧ Since w w' := by
  have HTB := Lib.hid htab
  have HFM := Lib.hid hfm
  clear htab hfm
  obtain ⟨b, rfl, hb⟩ := h
  obtain ⟨_, bo, bc, rfl, HC⟩ := hb
  obtain ⟨i0, hi, hz0, hz1, hz2⟩ := info_parts info_str
  have HZ2 := Lib.hid hz2
  clear hz2
  obtain ⟨n, hn⟩ : ∃ n, n = cs.length := ⟨_, rfl⟩
  have hn9 : n ≤ 1048577 := by omega
  have HN := Lib.hid hn
  rw [← hn]
  obtain ⟨y, hy⟩ : ∃ y, y = w.alloc (.cells #[.slice bo n bc] 29) := ⟨_, rfl⟩
  have hs0 : Since w y := by rw [hy]; exact (Since.refl w).alloc _
  have BB : Hid (Blk y w.heap.size 29 #[.slice bo n bc]) := by rw [hy]; exact Blk.new rfl _ _
  by_cases hlen : 6 < n
  · have HR := Lib.hid (fmtBat_long (cs := cs) (by omega))
    have hgt : (6 : Int) < (n : Int) := by omega
    clear hn
    go_enter Tryd.func8, Tryd.ntmps8
    go_wp2_with fail
    rw [← hy]
    go_ret
    exact ⟨ret_str HR.out.symm, hs0⟩
  have hgt : ¬ (6 : Int) < (n : Int) := by omega
  clear hn
  obtain ⟨p0, _⟩ := BB.out.one
  go_enter Tryd.func8, Tryd.ntmps8
  go_upto_region 3 with fail
  rw [← hy]
  clear hy
  go_wp2_with (at_make; go_must (refine wpList_make_full _ rfl _ _ 44 rfl y.heap.size 9 i0 (.string ByteArray.empty) 1 Tryd.underlying44 hi hz0 hz1 .i64 .i64 _ _ n rfl rfl rfl rfl (by rw [HZ2.out]; omega) (by unfold maxLen; omega) (Nat.le_refl _) ?_); intro w1 hown hgrow; obtain ⟨p1, _⟩ := (BB.out.since ((Since.refl y).grown hgrow (fun _ h => by simp at h))).one)
  clear p0 p1
  have hsin : Since y w1 := (Since.refl y).grown hgrow (fun _ h => by simp at h)
  have hrow : w1.ownsRow y.heap.size 9 1 (.slice (some ⟨y.heap.size, 0, none⟩) n n) n (bfill cs 0) := by
    rw [bfill, filled_zero, List.length_map, List.length_map, ← HN.out]
    rw [made_strs] at hown
    exact hown
  clear hown hgrow
  go_loopw [18] (fun i wr => ∃ k : Nat, k ≤ n ∧ i = .int .i64 k ∧ Hid (wr.ownsRow y.heap.size 9 1 (.slice (some ⟨y.heap.size, 0, none⟩) n n) n (bfill cs k)) ∧ Hid ((cs.take k).all (fun c => edB 5 c.ed) = true) ∧ Since y wr) (fun i _ => n - (intOf i).toNat)
  case atStart => exact ⟨0, Nat.zero_le _, rfl, hrow, rfl, hsin⟩
  case round =>
    obtain ⟨k, hk, rfl, HO, HAL, hsw⟩ := hrel
    have hs0w := hs0.trans hsw
    by_cases hlt : k < n
    · have hx : k < cs.length := by have := HN.out; omega
      obtain ⟨be, oe, rfl, hbe, d0, d1, d2, d3, d4⟩ := HC.out k hx
      have s1 := since_cells hs0w hbe
      rw [← s1] at d0 d1 d2 d3 d4
      clear s1
      have kk0 : (0 : Int) ≤ (k : Int) := by omega
      have kk1 : (k : Int) < (n : Int) := by omega
      have hcs := fmtC_size cs[k]
      have HFS : Hid ((bfill cs k).set k (scell (fmtC cs[k])) = bfill cs (k + 1)) := by
        have := filled_set ((cs.map fmtC).map scell) (.string ByteArray.empty) k (by simpa using hx)
        rw [List.getElem_map, List.getElem_map] at this
        exact this
      have HBAD := Lib.hid (fun h => fmtBat_bad hx h)
      have HGOOD := Lib.hid (fun h => all_takeC hx HAL.out h)
      have HDST : Hid ((bfill cs k)[k]? = some (.string ByteArray.empty)) := filled_at _ _ k (by simpa using hx)
      generalize cs[k] = c at d0 d1 d2 d3 d4 hcs HFS HBAD HGOOD
      obtain ⟨y5, hy5⟩ : ∃ y5, y5 = wr.alloc (.cells #[.bool c.ins, .int .i64 c.ed.id, .int .i64 c.ed.fr, .int .i64 (Edg.to c.ed), .int .i64 c.ed.lb] 42) := ⟨_, rfl⟩
      have hs5 : Since wr y5 := by rw [hy5]; exact (Since.refl wr).alloc _
      have BC : Hid (Blk y5 wr.heap.size 42 #[.bool c.ins, .int .i64 c.ed.id, .int .i64 c.ed.fr, .int .i64 (Edg.to c.ed), .int .i64 c.ed.lb]) := by rw [hy5]; exact Blk.new rfl _ _
      have hs05 := hs0w.trans hs5
      rcases Bool.eq_false_or_eq_true (edB 5 c.ed) with hb | hb
      rotate_left
      · have HR := Lib.hid (HBAD.out hb)
        have HF := Lib.hid (fun W a b => implFE_any c.ed W a b)
        rw [fmtE_out hb] at HF
        clear hb
        unfold ev at HF
        go_wp2_with fail
        rw [← hy5]
        clear hy5
        refine (HF.out _ (HTB.out.since hs05) (HFM.out.since hs05)).mono ?_
        rintro en w2 ⟨rfl, hs2⟩
        have hs02 := hs05.trans hs2
        go_wp2_with fail
        go_ret
        exact ⟨ret_str HR.out.symm, hs02⟩
      · have HAN := Lib.hid (HGOOD.out hb)
        have hfe := fmtE_sizeB c.ed
        have hne := fmtE_ne hb
        have HF := Lib.hid (fun W a b => implFE_any c.ed W a b)
        have HEF : Hid (∀ W, Calls Tryd.prog 18 #[cv c] W fun en w' => en = .returned (.iface (if c.ins = true then 66 else 67) (ev c.ed)) ∧ Since W w') := fun W => effectF_any c W
        have HSG : Hid (∀ W, Calls Tryd.prog (if c.ins = true then 105 else 107) #[ev c.ed] W fun en w' => en = .returned (.string ⟨#[sgnC c]⟩) ∧ Since W w') := by
          intro W
          unfold sgnC
          by_cases hi : c.ins = true
          · simp only [if_pos hi]; exact signI_any c.ed W
          · simp only [if_neg hi]; exact signD_any c.ed W
        have hm : ∀ (N : Nat) (e : Value) (W : World), (method (N + 1) (if c.ins = true then 66 else 67) e "loop.example/g01922/impl.sign").run Tryd.prog W = .ok (if c.ins = true then 105 else 107, e) W := by
          intro N e W
          by_cases hi : c.ins = true
          · simp only [if_pos hi]; kernel_rfl
          · simp only [if_neg hi]; kernel_rfl
        have hcf : ∀ (x0 : Value) (W : World), (callFunc (if c.ins = true then 105 else 107) #[x0]).run Tryd.prog W = .ok (.enter (if c.ins = true then 105 else 107) #[x0]) W := by
          intro x0 W
          by_cases hi : c.ins = true
          · simp only [if_pos hi]; kernel_rfl
          · simp only [if_neg hi]; kernel_rfl
        generalize (if c.ins = true then 66 else 67) = TI at HEF hm
        generalize (if c.ins = true then 105 else 107) = FI at HSG hm hcf
        have HCE : Hid (fmtC c = ⟨#[sgnC c]⟩ ++ fmtE c.ed) := rfl
        clear hb
        generalize fmtE c.ed = t at HF hfe hne HCE
        generalize sgnC c = sg at HSG HCE
        unfold ev at HF HSG
        unfold cv ev at HEF
        have n1 : ¬ 9223372036854775807 < 1 + t.size := by omega
        go_wp2_with fail
        rw [← hy5]
        clear hy5 d0 d1 d2 d3 d4
        refine (HF.out _ (HTB.out.since hs05) (HFM.out.since hs05)).mono ?_
        rintro en w2 ⟨rfl, hs2⟩
        have hs02 := hs05.trans hs2
        obtain ⟨⟨m0, m1, m2, m3, m4⟩, _⟩ := (BC.out.since hs2).fiveC
        go_wp2_with fail
        clear m0 m1 m2 m3 m4
        refine (HEF.out _).mono ?_
        rintro en w3 ⟨rfl, hs3⟩
        have hs03 := hs02.trans hs3
        go_wp2_with fail
        refine (HSG.out _).mono ?_
        rintro en w4 ⟨rfl, hs4⟩
        have hq : Since y w4 := (((hsw.trans hs5).trans hs2).trans hs3).trans hs4
        have hown2 := row_sinceB HO.out (((hs5.trans hs2).trans hs3).trans hs4)
        have hdst : (w4.cell? ⟨y.heap.size, k, none⟩) = some (.string ByteArray.empty) := (hown2.cellAt k (by omega)).trans HDST.out
        have hfz := hown2.frozenAt k
        have hst := (hown2.stored k (.string (fmtC c))).1
        have HST : Hid ((w4.setCell ⟨y.heap.size, k, none⟩ (.string (fmtC c))).ownsRow y.heap.size 9 1 (.slice (some ⟨y.heap.size, 0, none⟩) n n) n (bfill cs (k + 1))) := by
          unfold Hid; rw [← HFS.out]; exact hst
        rw [HCE.out] at HST
        clear hst hown2
        go_wp2
        go_roundw
        case rel => exact ⟨k + 1, by omega, by go_num, HST, HAN, hq.setCell (Nat.le_refl _) _⟩
        case measure => simp [intOf]; omega
    · obtain rfl : k = n := by omega
      have ht : cs.take k = cs := List.take_of_length_le (by have := HN.out; omega)
      have HR := Lib.hid (fmtBat_in (cs := cs) (by have := HN.out; omega) (by rw [← ht]; exact HAL.out))
      have hfin : bfill cs k = (cs.map fmtC).map scell := filled_all _ _ k (by rw [List.length_map, List.length_map, ← HN.out]; exact Nat.le_refl _)
      have hown := HO.out
      rw [hfin] at hown
      obtain ⟨hg, hcap, hcells⟩ := own_cells hown
      have hlen2 : (cs.map fmtC).length = k := by rw [List.length_map, ← HN.out]
      have hj : Lib.join ((cs.map fmtC).map (·.data.toList)) (⟨#[32]⟩ : ByteArray).data.toList = fmtCL cs := by
        unfold fmtCL; rw [List.map_map]; rfl
      have hbz : (fmtCL cs).length ≤ 68 * cs.length := fmtCB_size cs
      have HJ := Lib.hid (by
        have h := fun W a b => Tryd.strings_Join y.heap.size 0 k (cs.map fmtC) ⟨#[32]⟩ W a b (by rw [hlen2]; omega) (by rw [hlen2]; exact Nat.le_refl _) (by rw [hj]; have := HN.out; omega)
        rw [hlen2, hj] at h
        exact h)
      have HCE := Lib.hid hcells
      clear hfin hown hcells hlen2 hj ht HO HAL
      go_wp2_with fail
      refine (HJ.out _ HCE.out hg).mono ?_
      rintro e w2 ⟨rfl, hs2⟩
      have hs3 : Since w w2 := hs0w.trans hs2
      go_wp2_with fail
      go_ret
      exact ⟨ret_str HR.out.symm, hs3⟩
end Go.Proofs.YtdbedoediicmhaaDoor
