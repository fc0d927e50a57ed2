/- The model's ParseBatch. -/
import Derived.Test.YtdbedoediicmhaaDoorPbM
import Derived.Test.YtdbedoediicmhaaDoorPeS
import Derived.Test.YtdbedoediicmhaaDoorChA
namespace Go.Proofs.YtdbedoediicmhaaDoor
set_option maxRecDepth 100000
open Go.ChangeShapes Go.WideShapes Go.ChangeAt Go.RowKit
set_option linter.unusedVariables false
set_option linter.unusedSimpArgs false

theorem within_grownP {lo hi : Nat} {y a b : World} {row : Option Nat} (h : Within lo hi y a) (k : a.grownBy b row) (hr : ∀ j, row = some j → y.heap.size ≤ j) : Within lo hi y b :=
  ⟨k.os.trans h.os, k.tape.trans h.tape, k.output.trans h.output, Nat.le_trans h.size k.size, fun i hi hn => (k.block i (Nat.lt_of_lt_of_le hi h.size) (fun e => by have := hr i e.symm; omega)).trans (h.block i hi hn)⟩
theorem bbP_noS {w w1 : World} {xs : List Chg} {C D : Bool} {B : Nat} (hc : C = D) (hx : xs = []) (hB : w.heap.size ≤ B) (hs : Since w w1) (u : Value) :
    BBOut w xs C (.returned (.tuple #[.agg #[.slice none 0 0], .bool D])) (w1.setCell ⟨B, 0, none⟩ u) := by
  subst hc; subst hx
  exact ⟨_, rfl, OwnB.mk ⟨fun x hx => by simp at hx, World.ownsRow_nil _ _ _ _⟩, hs.setCell hB u⟩
theorem bbP_yesS {w w1 : World} {xs : List Chg} {C : Bool} {B : Nat} {v : Value} {lo : Nat} (hc : C = true) (ho : OwnC lo w1 v xs) (hlo : w.heap.size ≤ lo) (hB2 : B < lo) (hB : w.heap.size ≤ B) (hs : Since w w1) (u : Value) :
    BBOut w xs C (.returned (.tuple #[.agg #[v], .bool true])) (w1.setCell ⟨B, 0, none⟩ u) := by
  subst hc
  exact ⟨_, rfl, OwnB.mk ((ho.far (p := ⟨B, 0, none⟩) hB2 u).mono hlo), hs.setCell hB u⟩
theorem str_nilS : ((⟨#[]⟩ : ByteArray).toList == []) = true := by rw [ByteArray.toList_eq]; rfl
theorem str_nnilS {s : ByteArray} (h : s ≠ ⟨#[]⟩) : (s.toList == []) = false := by
  rw [ByteArray.toList_eq, beq_eq_false_iff_ne]
  intro e
  refine h ?_
  obtain ⟨⟨l⟩⟩ := s
  simp at e
  rw [e]
theorem pB_badS {s : ByteArray} {P : List (List UInt8)} (h : s ≠ ⟨#[]⟩) (hP : P = cutL s.data.toList) (h2 : pbC P = false) : pOk s = false ∧ pBat s = [] := by
  subst hP
  unfold pOk pBat pbL
  rw [if_neg h, if_neg h, h2]; exact ⟨rfl, rfl⟩
theorem pB_goodS {s : ByteArray} {P : List (List UInt8)} (h : s ≠ ⟨#[]⟩) (hP : P = cutL s.data.toList) (h2 : pbC P = true) : pOk s = true ∧ pBat s = P.map cgO := by
  subst hP
  unfold pOk pBat pbL
  rw [if_neg h, if_neg h, if_pos h2]; exact ⟨h2, rfl⟩
theorem all_takeS {P : List (List UInt8)} {j : Nat} (hj : j < P.length) (h : (P.take j).all okC = true) (h2 : okC P[j] = true) : (P.take (j + 1)).all okC = true := by
  rw [List.take_succ_eq_append_getElem hj, List.all_append, h, List.all_cons, h2]; rfl
theorem tail_str (t : List UInt8) : (bP t).extract 1 (bP t).size = bP t.tail := by
  refine str_ext ?_
  rw [ext_list]
  cases t with
  | nil => rfl
  | cons x u => simp [ByteArray.size]
theorem hd_str (t : List UInt8) (h : 0 < (bP t).size) : (bP t)[0] = hdP t := by
  cases t with
  | nil => exact absurd h (by decide)
  | cons x u => rfl
set_option maxHeartbeats 16000000 in
set_option maxRecDepth 100000 in
theorem specPB_any (s : ByteArray) (w : World) (hs : s.size ≤ 1048576) :
    Calls Tryd.prog 10 #[.string s] w (BBOut w (pBat s) (pOk s)) := by
  obtain ⟨y, hy⟩ : ∃ y, y = w.alloc (.cells #[.slice none 0 0] 29) := ⟨_, rfl⟩
  have hs0 : Since w y := by rw [hy]; exact (Since.refl w).alloc _
  have hz : w.heap.size + 1 = y.heap.size := by rw [hy]; simp
  have BR : Hid (Blk y w.heap.size 29 #[.slice none 0 0]) := by rw [hy]; exact Blk.new rfl _ _
  obtain ⟨yx, hyx⟩ : ∃ yx, yx = y.alloc (.cells #[.slice none 0 0] 29) := ⟨_, rfl⟩
  have hsx : Since y yx := by rw [hyx]; exact (Since.refl y).alloc _
  have BX : Hid (Blk yx y.heap.size 29 #[.slice none 0 0]) := by rw [hyx]; exact Blk.new rfl _ _
  by_cases he : s = ⟨#[]⟩
  · subst he
    have h1 : pBat ⟨#[]⟩ = [] := by unfold pBat; rw [if_pos rfl]
    have h2 : pOk ⟨#[]⟩ = true := by unfold pOk; rw [if_pos rfl]
    rw [h1, h2]
    have hn := str_nilS
    go_enter Tryd.func10, Tryd.ntmps10
    go_wp2_with fail
    rw [← hy]
    clear hy
    obtain ⟨q0, q1⟩ := BX.out.one
    obtain ⟨r0, r1⟩ := (BR.out.since hsx).one
    rw [hyx] at q0 q1 r0 r1
    have hs0x := hs0.trans hsx
    rw [hyx] at hs0x
    clear hyx
    go_wp2_with fail
    refine bodyPost_ret (v := .tuple #[.agg #[.slice none 0 0], .bool true]) (by simp [results, Tryd.results10, go_sem, *]) rfl ?_
    exact bbP_noS rfl rfl (Nat.le_refl _) hs0x _
  have hn := str_nnilS he
  have HE := Lib.hid he
  obtain ⟨P, hP⟩ : ∃ P, P = cutL s.data.toList := ⟨_, rfl⟩
  have HPL := Lib.hid hP
  have HCT := Lib.hid (fun W => cut_partsP s W hs)
  rw [← hP] at HCT
  have hP1 : 1 ≤ P.length := by rw [hP]; exact cutL_pos _
  have HPS : Hid (∀ k (hk : k < P.length), (bP P[k]).size ≤ 1048576) := fun k hk => by
    have h := cutL_part_le s.data.toList P[k] (by rw [← hP]; exact List.getElem_mem hk)
    have e : s.data.toList.length = s.size := by rw [Array.length_toList]; rfl
    rw [bP_size]; omega
  clear he hP
  unfold PartsOutP at HCT
  obtain ⟨n, hn0⟩ : ∃ n, n = P.length := ⟨_, rfl⟩
  have HN := Lib.hid hn0
  rw [← hn0] at HCT hP1
  have hn9 : n ≤ 4611686018427387904 := by
    have h := cutL_length_le s.data.toList
    rw [← HPL.out, ← hn0] at h
    have e : s.data.toList.length = s.size := by rw [Array.length_toList]; rfl
    omega
  clear hn0
  go_enter Tryd.func10, Tryd.ntmps10
  go_wp2_with fail
  rw [← hy]
  clear hy
  go_wp2_with fail
  rw [← hyx]
  clear hyx
  refine (HCT.out _).mono ?_
  rintro en w1 ⟨g, cap, rfl, hcap, hs1, HG⟩
  have BX1 := Lib.hid (BX.out.since hs1)
  have hxl := BX1.out.lt
  have hg0 := HG.out w1 (Since.refl _) 0 (by have := HN.out; omega)
  have hgl : g < w1.heap.size := by have := World.block_lt_of_cell? _ _ hg0; simpa using this
  have hgX : g ≠ y.heap.size := by
    intro e
    rw [e, BX1.out.one.1] at hg0
    injection hg0 with hg0
    cases hg0
  have hsy1 := hsx.trans hs1
  have HGW : Hid (∀ W, Within y.heap.size (y.heap.size + 1) w1 W → ∀ k (hk : k < P.length), W.cell? ⟨g, k, none⟩ = some (.string (bP P[k]))) := fun W hW k hk =>
    (World.cell?_of_block (w := w1) (w' := W) (a := ⟨g, k, none⟩) (hW.block g hgl (by omega))).trans (HG.out w1 (Since.refl _) k hk)
  clear HG hg0 BX hsx hs1
  go_wp2_with fail
  go_loopw [6] (fun i wr => ∃ (k : Nat) (v : Value), k ≤ n ∧ k ≤ 7 ∧ i = .int .i64 k ∧ Hid (Blk wr y.heap.size 29 #[v]) ∧ Hid (OwnC w1.heap.size wr v ((P.take k).map cgO)) ∧ Hid (Within y.heap.size (y.heap.size + 1) w1 wr) ∧ Hid ((P.take k).all okC = true) ∧ Since y wr) (fun i _ => n - (intOf i).toNat)
  case atStart => exact ⟨0, .slice none 0 0, Nat.zero_le _, by omega, rfl, BX1.out, ⟨fun x hx => by simp at hx, World.ownsRow_nil _ _ _ _⟩, Within.refl _ _ _, rfl, hsy1⟩
  case round =>
    obtain ⟨k, v, hk, hk7, rfl, HB, HO, HW, HAL, hsw⟩ := hrel
    by_cases hlt : k < n
    · by_cases hk6 : k ≤ 6
      · have hkr : k < P.length := by have := HN.out; omega
        have hcell := HGW.out wr HW.out k hkr
        have kk0 : (0 : Int) ≤ (k : Int) := by omega
        have kk1 : (k : Int) < (n : Int) := by omega
        have kk6 : (k : Int) ≤ 6 := by omega
        have HRW : Hid (∀ q, v.ownBlock = some q → w1.heap.size ≤ q ∧ q < wr.heap.size) := fun q hq => HO.out.2.lt q hq
        have HBAD : Hid (okC P[k] = false → pOk s = false ∧ pBat s = []) := fun h => pB_badS HE.out HPL.out (pb_bad (s := s) k hkr (by rw [h]; rfl))
        have HAN := Lib.hid (all_takeS hkr HAL.out)
        have HTK0 : Hid ((P.take (k + 1)).map cgO = (P.take k).map cgO ++ [cgO P[k]]) := by
          unfold Hid; rw [List.take_succ_eq_append_getElem hkr, List.map_append]; rfl
        have HSZ : Hid ((bP P[k]).size = P[k].length) := bP_size _
        have HTS := Lib.hid (tail_str P[k])
        have HHD : Hid (∀ h : 0 < (bP P[k]).size, (bP P[k])[0] = hdP P[k]) := hd_str P[k]
        have HPK := HPS.out k hkr
        have HTL : Hid ((bP P[k].tail).size ≤ 1048576) := by unfold Hid; rw [← HTS.out, ByteArray.size_extract]; omega
        generalize P[k] = t at hcell HBAD HAN HTK0 HSZ HTS HHD HPK HTL
        by_cases h2 : t.length < 2
        · have HZ := Lib.hid (HBAD.out (by unfold okC; rw [decide_eq_false (by omega), Bool.false_and]))
          have hl2 : ((bP t).size : Int) < 2 := by rw [HSZ.out]; omega
          clear HBAD HAN HTK0 HSZ HTS HHD HTL h2
          generalize bP t = tb at hcell hl2 HPK
          obtain ⟨r0, r1⟩ := (BR.out.since hsw).one
          have hs0q := hs0.trans hsw
          go_wp2_with fail
          refine bodyPost_ret (v := .tuple #[.agg #[.slice none 0 0], .bool false]) (by simp [results, Tryd.results10, go_sem, *]) rfl ?_
          exact bbP_noS HZ.out.1 HZ.out.2 (Nat.le_refl _) hs0q _
        · have hl2 : ¬ ((bP t).size : Int) < 2 := by rw [HSZ.out]; omega
          have hl1 : (1 : Int) ≤ ((bP t).size : Int) := by omega
          have p0 : 0 < (bP t).size := by omega
          have HPE := Lib.hid (fun W => specPE_any (bP t.tail) W HTL.out)
          have HOKT : Hid (okC t = (peO (bP t.tail)).2) := by unfold Hid okC; rw [decide_eq_true (by omega), Bool.true_and]
          have HIN : Hid ((peO (bP t.tail)).1.In) := peO_inB _
          have HCG : Hid (cgO t = ⟨hdP t == 43, (peO (bP t.tail)).1⟩) := rfl
          have h43 : ((((bP t)[0]'p0).toNat : Int) == 43) = (hdP t == 43) := by
            rw [HHD.out p0]
            rw [Bool.eq_iff_iff, beq_iff_eq, beq_iff_eq]
            constructor
            · intro h
              apply UInt8.toNat_inj.1
              have : (hdP t).toNat = 43 := by omega
              rw [this]; rfl
            · intro h; rw [h]; rfl
          rw [HOKT.out] at HBAD HAN
          rw [HCG.out] at HTK0
          generalize (peO (bP t.tail)).2 = c at HPE HBAD HAN HOKT
          generalize (peO (bP t.tail)).1 = e at HPE HIN HTK0 HCG
          generalize (hdP t == 43) = bb at h43 HTK0 HCG
          rw [← HTS.out] at HPE
          clear HTS HHD HTL HOKT HCG HSZ h2
          generalize bP t = tb at hcell hl2 hl1 p0 HPE h43 HPK
          have HTK := HTK0
          clear HTK0
          unfold ev at HPE
          go_wp2_with fail
          refine (HPE.out _).mono ?_
          rintro en w3 ⟨rfl, hs3⟩
          obtain ⟨w6, hw6⟩ : ∃ w6, w6 = w3.alloc (.cells #[.int .i64 e.id, .int .i64 e.fr, .int .i64 (Edg.to e), .int .i64 e.lb] 40) := ⟨_, rfl⟩
          have hal : Since w3 w6 := by rw [hw6]; exact (Since.refl w3).alloc _
          have hz6 : w3.heap.size + 1 = w6.heap.size := by rw [hw6]; simp
          have BE : Hid (Blk w6 w3.heap.size 40 #[.int .i64 e.id, .int .i64 e.fr, .int .i64 (Edg.to e), .int .i64 e.lb]) := by rw [hw6]; exact Blk.new rfl _ _
          have hs36 := hs3.trans hal
          have hsw6 := hsw.trans hs36
          have HB6 := Lib.hid (HB.out.since hs36)
          have HO6 := Lib.hid (HO.out.since hs36)
          have HW6 := Lib.hid (HW.out.trans (Within.of_since hs36))
          cases c with
          | false =>
            have HZ := Lib.hid (HBAD.out rfl)
            clear HBAD HAN
            obtain ⟨r0, r1⟩ := (BR.out.since hsw6).one
            have hs0q := hs0.trans hsw6
            rw [hw6] at r0 r1 hs0q
            clear hw6
            go_wp2_with fail
            refine bodyPost_ret (v := .tuple #[.agg #[.slice none 0 0], .bool false]) (by simp [results, Tryd.results10, go_sem, *]) rfl ?_
            exact bbP_noS HZ.out.1 HZ.out.2 (Nat.le_refl _) hs0q _
          | true =>
            have HAN2 := Lib.hid (HAN.out rfl)
            have hz3 := hs3.size
            have hzr := hsw.size
            have hzw := HW.out.size
            have HML : Hid (((P.take k).map cgO).length ≤ 6) := by unfold Hid; rw [List.length_map, List.length_take]; omega
            have HCL := Lib.hid hcell
            clear HBAD HAN HB HO hcell
            have HBL : Hid (∀ b, b = g ∨ b = w3.heap.size → b < w6.heap.size ∧ b ≠ y.heap.size ∧ (b < w1.heap.size ∨ wr.heap.size ≤ b)) := by
              intro b hb
              rcases hb with rfl | rfl
              · exact ⟨by omega, hgX, .inl hgl⟩
              · exact ⟨by omega, by omega, .inr (by omega)⟩
            have hcell6 : w6.cell? ⟨g, k, none⟩ = some (.string tb) := (since_cells hs36 (by omega) k).trans HCL.out
            have HKX : Hid (∀ w' : World, (∀ b : Nat, b = g ∨ b = w3.heap.size → w'.heap[b]? = w6.heap[b]?) → w'.cell? ⟨g, k, none⟩ = some (.string tb) ∧ (w'.cell? ⟨w3.heap.size, 0, none⟩ = some (.int .i64 e.id) ∧ w'.cell? ⟨w3.heap.size, 1, none⟩ = some (.int .i64 e.fr) ∧ w'.cell? ⟨w3.heap.size, 2, none⟩ = some (.int .i64 (Edg.to e)) ∧ w'.cell? ⟨w3.heap.size, 3, none⟩ = some (.int .i64 e.lb))) := by
              intro w' hb
              have c1 := World.cell?_of_block (w := w6) (w' := w') (a := ⟨g, k, none⟩) (hb g (.inl rfl))
              have c2 : ∀ o, w'.cell? ⟨w3.heap.size, o, none⟩ = w6.cell? ⟨w3.heap.size, o, none⟩ := fun o => World.cell?_of_block (w := w6) (w' := w') (a := ⟨w3.heap.size, o, none⟩) (hb _ (.inr rfl))
              obtain ⟨m0, m1, m2, m3, _⟩ := BE.out.four
              exact ⟨c1.trans hcell6, (c2 0).trans m0, (c2 1).trans m1, (c2 2).trans m2, (c2 3).trans m3⟩
            have HKD : Hid (∀ w', Since w6 w' → w'.cell? ⟨g, k, none⟩ = some (.string tb) ∧ (w'.cell? ⟨w3.heap.size, 0, none⟩ = some (.int .i64 e.id) ∧ w'.cell? ⟨w3.heap.size, 1, none⟩ = some (.int .i64 e.fr) ∧ w'.cell? ⟨w3.heap.size, 2, none⟩ = some (.int .i64 (Edg.to e)) ∧ w'.cell? ⟨w3.heap.size, 3, none⟩ = some (.int .i64 e.lb))) := fun w' hs => HKX.out w' (fun b hb => hs.block b (HBL.out b hb).1)
            clear hcell6
            go_wp2_with fail
            rw [← hw6]
            clear hw6
            refine wp_region_held_drew (S := (fun w' => w'.cell? ⟨g, k, none⟩ = some (.string tb) ∧ (w'.cell? ⟨w3.heap.size, 0, none⟩ = some (.int .i64 e.id) ∧ w'.cell? ⟨w3.heap.size, 1, none⟩ = some (.int .i64 e.fr) ∧ w'.cell? ⟨w3.heap.size, 2, none⟩ = some (.int .i64 (Edg.to e)) ∧ w'.cell? ⟨w3.heap.size, 3, none⟩ = some (.int .i64 e.lb)))) (by kernel_rfl) (HKD.out _ (Since.refl _).drew) (fun hHeld => ?_)
            refine take_yes 0 (some 44) (v := ?_) rfl (by kernel_rfl) (by kernel_rfl) (by kernel_rfl) (by kernel_rfl) (fun _ _ _ h => h) (by rfl) (by assumption) ?_ ?_
            rotate_left
            · (intro w' hSw; (try dsimp only at hSw); go_simp; try with_reducible rfl)
            try simp only [Act.put, List.setIfInBounds_toArray, List.set_cons_zero, List.set_cons_succ]
            refine take_yes 2 (some 46) (v := ?_) rfl (by kernel_rfl) (by kernel_rfl) (by kernel_rfl) (by kernel_rfl) (fun _ _ _ h => h) (by rfl) (by assumption) ?_ ?_
            rotate_left
            · (intro w' hSw; (try dsimp only at hSw); go_simp; try with_reducible rfl)
            try simp only [Act.put, List.setIfInBounds_toArray, List.set_cons_zero, List.set_cons_succ]
            refine take_yes 3 (some 47) (v := ?_) rfl (by kernel_rfl) (by kernel_rfl) (by kernel_rfl) (by kernel_rfl) (fun _ _ _ h => h) (by rfl) (by assumption) ?_ ?_
            rotate_left
            · (intro w' hSw; (try dsimp only at hSw); go_simp; try with_reducible rfl)
            try simp only [Act.put, List.setIfInBounds_toArray, List.set_cons_zero, List.set_cons_succ]
            refine take_yes 4 (some 48) (v := ?_) rfl (by kernel_rfl) (by kernel_rfl) (by kernel_rfl) (by kernel_rfl) (fun _ _ _ h => h) (by rfl) (by assumption) ?_ ?_
            rotate_left
            · (intro w' hSw; (try dsimp only at hSw); go_simp; try with_reducible rfl)
            try simp only [Act.put, List.setIfInBounds_toArray, List.set_cons_zero, List.set_cons_succ]
            refine take_yes 5 (some 49) (v := ?_) rfl (by kernel_rfl) (by kernel_rfl) (by kernel_rfl) (by kernel_rfl) (fun _ _ _ h => h) (by rfl) (by assumption) ?_ ?_
            rotate_left
            · (intro w' hSw; (try dsimp only at hSw); go_simp; try with_reducible rfl)
            try simp only [Act.put, List.setIfInBounds_toArray, List.set_cons_zero, List.set_cons_succ]
            refine take_yes 6 (some 50) (v := ?_) rfl (by kernel_rfl) (by kernel_rfl) (by kernel_rfl) (by kernel_rfl) (fun _ _ _ h => h) (by rfl) (by assumption) ?_ ?_
            rotate_left
            · (intro w' hSw; (try dsimp only at hSw); go_simp; try with_reducible rfl)
            try simp only [Act.put, List.setIfInBounds_toArray, List.set_cons_zero, List.set_cons_succ]
            refine take_yes 7 (some 51) (v := ?_) rfl (by kernel_rfl) (by kernel_rfl) (by kernel_rfl) (by kernel_rfl) (fun _ _ _ h => h) (by rfl) (by assumption) ?_ ?_
            rotate_left
            · (intro w' hSw; (try dsimp only at hSw); go_simp; try with_reducible rfl)
            try simp only [Act.put, List.setIfInBounds_toArray, List.set_cons_zero, List.set_cons_succ]
            refine take_yes 8 (some 52) (v := ?_) rfl (by kernel_rfl) (by kernel_rfl) (by kernel_rfl) (by kernel_rfl) (fun _ _ _ h => h) (by rfl) (by assumption) ?_ ?_
            rotate_left
            · (intro w' hSw; (try dsimp only at hSw); go_simp; try with_reducible rfl)
            try simp only [Act.put, List.setIfInBounds_toArray, List.set_cons_zero, List.set_cons_succ]
            refine take_yes 9 (some 53) (v := ?_) rfl (by kernel_rfl) (by kernel_rfl) (by kernel_rfl) (by kernel_rfl) (fun _ _ _ h => h) (by rfl) (by assumption) ?_ ?_
            rotate_left
            · (intro w' hSw; (try dsimp only at hSw); go_simp; try with_reducible rfl)
            try simp only [Act.put, List.setIfInBounds_toArray, List.set_cons_zero, List.set_cons_succ]
            refine take_two 1 10 rfl rfl (by kernel_rfl) (by rfl) (by rfl) (fun K hK => ?_) (fun K hK => ?_)
            · skip
              obtain ⟨q0, q1⟩ := (HB6.out.drew).one
              go_simp
              clear q0 q1
              refine hK.out _ _ (HKD.out _ ((Since.refl w6).drew)) (fun hHeld1 => ?_)
              clear hK K hHeld
              try simp only [Act.put, List.setIfInBounds_toArray, List.set_cons_zero, List.set_cons_succ]
              refine take_run 10 rfl (by kernel_rfl) (by rfl) (fun K hK => ?_)
              go_simp
              have hsb : Since w6 (w6.alloc (.cells #[.bool bb, .int .i64 e.id, .int .i64 e.fr, .int .i64 (Edg.to e), .int .i64 e.lb] 42)).drew := ((Since.refl w6).alloc (.cells #[.bool bb, .int .i64 e.id, .int .i64 e.fr, .int .i64 (Edg.to e), .int .i64 e.lb] 42)).drew
              refine hK.out _ _ (HKD.out _ (hsb)) (fun hHeld2 => ?_)
              clear hK K hHeld1
              try simp only [Act.put, List.setIfInBounds_toArray, List.set_cons_zero, List.set_cons_succ]
              refine take_run 11 rfl (by kernel_rfl) (by rfl) (fun K hK => ?_)
              refine wp_append_chgs (.tmp 45) (.tmp 54) rfl w1.heap.size _ ((P.take k).map cgO) rfl (HO6.out.since hsb) _ _ _ rfl [⟨bb, e⟩] ((chg_lit w6 ⟨bb, e⟩ HIN.out).since (Since.refl _).drew) (by have := HML.out; simp at this ⊢; omega) (by have := hsb.size; omega) ?_
              intro v4 w4 ho4 hg4 hb4
              rw [← HTK.out] at ho4
              have hc4 : Since y w4 := (hsw6.trans hsb).grown hg4 (fun q hq => by have := HRW.out q hq; omega)
              have HB4 : Hid (Blk w4 y.heap.size 29 #[v]) := (HB6.out.since hsb).grwC hg4 (fun e => by have := HRW.out _ e.symm; omega)
              have HWI4 : Hid (Within y.heap.size (y.heap.size + 1) w1 w4) := within_grownP (HW6.out.trans (Within.of_since hsb)) hg4 (fun q hq => by have := HRW.out q hq; omega)
              have k4 : ∀ b, b = g ∨ b = w3.heap.size → w4.heap[b]? = w6.heap[b]? := fun b hb => (hg4.block b (Nat.lt_of_lt_of_le (HBL.out b hb).1 hsb.size) (fun e => by have := HRW.out _ e.symm; have := HBL.out b hb; omega)).trans (hsb.block b (HBL.out b hb).1)
              obtain ⟨o4, c4, hv4⟩ := ho4.len
              obtain ⟨n4, hn4⟩ : ∃ n, ((P.take (k + 1)).map cgO).length = n := ⟨_, rfl⟩
              rw [hn4] at hv4
              subst hv4
              clear hn4
              have hS4 := HKX.out _ k4
              refine hK.out _ _ hS4 (fun hHeld3 => ?_)
              clear hK K hHeld2
              try simp only [Act.put, List.setIfInBounds_toArray, List.set_cons_zero, List.set_cons_succ]
              refine take_yes 12 (some 56) (v := ?_) rfl (by kernel_rfl) (by kernel_rfl) (by kernel_rfl) (by kernel_rfl) (fun _ _ _ h => h) (by rfl) (by assumption) ?_ ?_
              rotate_left
              · (intro w' hSw; (try dsimp only at hSw); go_simp; try with_reducible rfl)
              try simp only [Act.put, List.setIfInBounds_toArray, List.set_cons_zero, List.set_cons_succ]
              refine take_run 13 rfl (by kernel_rfl) (by rfl) (fun K hK => ?_)
              obtain ⟨q0, q1⟩ := HB4.out.one
              go_simp
              clear q0 q1
              have hcz : Since y (w4.setCell ⟨y.heap.size, 0, none⟩ (.slice o4 n4 c4)) := hc4.setCell (Nat.le_refl _) _
              have HWI5 : Hid (Within y.heap.size (y.heap.size + 1) w1 (w4.setCell ⟨y.heap.size, 0, none⟩ (.slice o4 n4 c4))) := HWI4.out.trans (Within.cell w4 ⟨y.heap.size, 0, none⟩ _)
              refine hK.out _ _ (HKX.out _ (fun b hb => (Below.heap_setCell w4 ⟨y.heap.size, 0, none⟩ _ b (by have := HBL.out b hb; simp; omega)).trans (k4 b hb))) (fun hHeld4 => ?_)
              clear hK K hHeld3 k4
              try simp only [Act.put, List.setIfInBounds_toArray, List.set_cons_zero, List.set_cons_succ]
              refine wpAnyH_done (by kernel_rfl) ?_ _
              clear hHeld4
              have HB5 : Hid (Blk (w4.setCell ⟨y.heap.size, 0, none⟩ (.slice o4 n4 c4)) y.heap.size 29 #[.slice o4 n4 c4]) := HB4.out.set 0 (.slice o4 n4 c4)
              have HO5 := Lib.hid (ho4.far (p := ⟨y.heap.size, 0, none⟩) (by simp; omega) (.slice o4 n4 c4))
              clear hc4 HB4 hsb hb4 hg4 HWI4
              go_wp2
              go_roundw
              case rel => exact ⟨k + 1, _, by omega, by omega, by go_num, HB5.out, HO5.out, HWI5.out, HAN2.out, hcz⟩
              case measure => simp [intOf]; omega
            · skip
              go_simp
              have hsb : Since w6 (w6.alloc (.cells #[.bool bb, .int .i64 e.id, .int .i64 e.fr, .int .i64 (Edg.to e), .int .i64 e.lb] 42)).drew := ((Since.refl w6).alloc (.cells #[.bool bb, .int .i64 e.id, .int .i64 e.fr, .int .i64 (Edg.to e), .int .i64 e.lb] 42)).drew
              refine hK.out _ _ (HKD.out _ (hsb)) (fun hHeld1 => ?_)
              clear hK K hHeld
              try simp only [Act.put, List.setIfInBounds_toArray, List.set_cons_zero, List.set_cons_succ]
              refine take_run 1 rfl (by kernel_rfl) (by rfl) (fun K hK => ?_)
              obtain ⟨q0, q1⟩ := (HB6.out.since hsb).one
              go_simp
              clear q0 q1
              refine hK.out _ _ (HKD.out _ (hsb)) (fun hHeld2 => ?_)
              clear hK K hHeld1
              try simp only [Act.put, List.setIfInBounds_toArray, List.set_cons_zero, List.set_cons_succ]
              refine take_run 11 rfl (by kernel_rfl) (by rfl) (fun K hK => ?_)
              refine wp_append_chgs (.tmp 45) (.tmp 54) rfl w1.heap.size _ ((P.take k).map cgO) rfl (HO6.out.since hsb) _ _ _ rfl [⟨bb, e⟩] ((chg_lit w6 ⟨bb, e⟩ HIN.out).since (Since.refl _).drew) (by have := HML.out; simp at this ⊢; omega) (by have := hsb.size; omega) ?_
              intro v4 w4 ho4 hg4 hb4
              rw [← HTK.out] at ho4
              have hc4 : Since y w4 := (hsw6.trans hsb).grown hg4 (fun q hq => by have := HRW.out q hq; omega)
              have HB4 : Hid (Blk w4 y.heap.size 29 #[v]) := (HB6.out.since hsb).grwC hg4 (fun e => by have := HRW.out _ e.symm; omega)
              have HWI4 : Hid (Within y.heap.size (y.heap.size + 1) w1 w4) := within_grownP (HW6.out.trans (Within.of_since hsb)) hg4 (fun q hq => by have := HRW.out q hq; omega)
              have k4 : ∀ b, b = g ∨ b = w3.heap.size → w4.heap[b]? = w6.heap[b]? := fun b hb => (hg4.block b (Nat.lt_of_lt_of_le (HBL.out b hb).1 hsb.size) (fun e => by have := HRW.out _ e.symm; have := HBL.out b hb; omega)).trans (hsb.block b (HBL.out b hb).1)
              obtain ⟨o4, c4, hv4⟩ := ho4.len
              obtain ⟨n4, hn4⟩ : ∃ n, ((P.take (k + 1)).map cgO).length = n := ⟨_, rfl⟩
              rw [hn4] at hv4
              subst hv4
              clear hn4
              have hS4 := HKX.out _ k4
              refine hK.out _ _ hS4 (fun hHeld3 => ?_)
              clear hK K hHeld2
              try simp only [Act.put, List.setIfInBounds_toArray, List.set_cons_zero, List.set_cons_succ]
              refine take_yes 12 (some 56) (v := ?_) rfl (by kernel_rfl) (by kernel_rfl) (by kernel_rfl) (by kernel_rfl) (fun _ _ _ h => h) (by rfl) (by assumption) ?_ ?_
              rotate_left
              · (intro w' hSw; (try dsimp only at hSw); go_simp; try with_reducible rfl)
              try simp only [Act.put, List.setIfInBounds_toArray, List.set_cons_zero, List.set_cons_succ]
              refine take_run 13 rfl (by kernel_rfl) (by rfl) (fun K hK => ?_)
              obtain ⟨q0, q1⟩ := HB4.out.one
              go_simp
              clear q0 q1
              have hcz : Since y (w4.setCell ⟨y.heap.size, 0, none⟩ (.slice o4 n4 c4)) := hc4.setCell (Nat.le_refl _) _
              have HWI5 : Hid (Within y.heap.size (y.heap.size + 1) w1 (w4.setCell ⟨y.heap.size, 0, none⟩ (.slice o4 n4 c4))) := HWI4.out.trans (Within.cell w4 ⟨y.heap.size, 0, none⟩ _)
              refine hK.out _ _ (HKX.out _ (fun b hb => (Below.heap_setCell w4 ⟨y.heap.size, 0, none⟩ _ b (by have := HBL.out b hb; simp; omega)).trans (k4 b hb))) (fun hHeld4 => ?_)
              clear hK K hHeld3 k4
              try simp only [Act.put, List.setIfInBounds_toArray, List.set_cons_zero, List.set_cons_succ]
              refine wpAnyH_done (by kernel_rfl) ?_ _
              clear hHeld4
              have HB5 : Hid (Blk (w4.setCell ⟨y.heap.size, 0, none⟩ (.slice o4 n4 c4)) y.heap.size 29 #[.slice o4 n4 c4]) := HB4.out.set 0 (.slice o4 n4 c4)
              have HO5 := Lib.hid (ho4.far (p := ⟨y.heap.size, 0, none⟩) (by simp; omega) (.slice o4 n4 c4))
              clear hc4 HB4 hsb hb4 hg4 HWI4
              go_wp2
              go_roundw
              case rel => exact ⟨k + 1, _, by omega, by omega, by go_num, HB5.out, HO5.out, HWI5.out, HAN2.out, hcz⟩
              case measure => simp [intOf]; omega
      · obtain rfl : k = 7 := by omega
        have kk1 : ((7 : Nat) : Int) < (n : Int) := by omega
        have HT7 : Hid (P.take 7 = P.take 7) := rfl
        obtain ⟨b0, b1⟩ := HB.out.one
        have HFB := Lib.hid (fun V W (hV : BchAt W V ((P.take 7).map cgO)) => specFB_any V ((P.take 7).map cgO) W hV (by rw [List.length_map, List.length_take]; omega))
        have HXX : Hid (OwnC w1.heap.size wr v ((P.take 7).map cgO)) := by unfold Hid; rw [← HT7.out]; exact HO.out
        have HPF : Hid (decide (fmtBat ((P.take 7).map cgO) = s) = pbC P) := pb_fmt HPL.out (by rw [← HT7.out]; exact HAL.out) HE.out
        have HPM : Hid ((P.take 7).length ≤ 1048577) := by unfold Hid; rw [List.length_take]; omega
        clear HO HAL HT7
        generalize fmtBat ((P.take 7).map cgO) = F at HFB HPF
        obtain ⟨vo, vc, hv⟩ := HXX.out.len
        obtain ⟨q, hq⟩ : ∃ q, ((P.take 7).map cgO).length = q := ⟨_, rfl⟩
        rw [hq] at hv
        subst hv
        clear hq
        go_wp2_with fail
        refine (HFB.out _ _ ⟨_, rfl, HXX.out.at⟩).mono ?_
        rintro en w9 ⟨rfl, hs9⟩
        have hsw9 := hsw.trans hs9
        obtain ⟨c0, c1⟩ := (HB.out.since hs9).one
        obtain ⟨r0, r1⟩ := (BR.out.since hsw9).one
        have hs09 := hs0.trans hsw9
        have HO9 := Lib.hid (HXX.out.since hs9)
        by_cases hF : F = s
        · have hpc : pbC P = true := by rw [← HPF.out]; exact decide_eq_true hF
          have HZ := Lib.hid (pB_goodS HE.out HPL.out hpc)
          have h7 : Hid ((P.take 7).map cgO = P.map cgO) := by
            unfold pbC at hpc
            rw [Bool.and_eq_true, decide_eq_true_eq] at hpc
            unfold Hid; rw [List.take_of_length_le (by omega)]
          have hne : (F.toList == s.toList) = true := by rw [hF]; exact beq_self_eq_true _
          clear hF hpc HPF
          go_wp2_with fail
          refine bodyPost_ret (v := .tuple #[.agg #[.slice vo q vc], .bool true]) (by simp [results, Tryd.results10, go_sem, *]) rfl ?_
          rw [HZ.out.2]
          rw [h7.out] at HO9
          exact bbP_yesS HZ.out.1 HO9.out (by omega) (by omega) (Nat.le_refl _) hs09 _
        · have hpc : pbC P = false := by rw [← HPF.out]; exact decide_eq_false hF
          have HZ := Lib.hid (pB_badS HE.out HPL.out hpc)
          have hne : (F.toList == s.toList) = false := str_ne hF
          clear hF hpc HPF
          go_wp2_with fail
          refine bodyPost_ret (v := .tuple #[.agg #[.slice none 0 0], .bool false]) (by simp [results, Tryd.results10, go_sem, *]) rfl ?_
          exact bbP_noS HZ.out.1 HZ.out.2 (Nat.le_refl _) hs09 _
    · obtain rfl : k = n := by omega
      have HT7 : Hid (P.take k = P.take 7) := by
        unfold Hid
        rw [List.take_of_length_le (by have := HN.out; omega), List.take_of_length_le (by have := HN.out; omega)]
      obtain ⟨b0, b1⟩ := HB.out.one
      have HFB := Lib.hid (fun V W (hV : BchAt W V ((P.take 7).map cgO)) => specFB_any V ((P.take 7).map cgO) W hV (by rw [List.length_map, List.length_take]; omega))
      have HXX : Hid (OwnC w1.heap.size wr v ((P.take 7).map cgO)) := by unfold Hid; rw [← HT7.out]; exact HO.out
      have HPF : Hid (decide (fmtBat ((P.take 7).map cgO) = s) = pbC P) := pb_fmt HPL.out (by rw [← HT7.out]; exact HAL.out) HE.out
      have HPM : Hid ((P.take 7).length ≤ 1048577) := by unfold Hid; rw [List.length_take]; omega
      clear HO HAL HT7
      generalize fmtBat ((P.take 7).map cgO) = F at HFB HPF
      obtain ⟨vo, vc, hv⟩ := HXX.out.len
      obtain ⟨q, hq⟩ : ∃ q, ((P.take 7).map cgO).length = q := ⟨_, rfl⟩
      rw [hq] at hv
      subst hv
      clear hq
      go_wp2_with fail
      refine (HFB.out _ _ ⟨_, rfl, HXX.out.at⟩).mono ?_
      rintro en w9 ⟨rfl, hs9⟩
      have hsw9 := hsw.trans hs9
      obtain ⟨c0, c1⟩ := (HB.out.since hs9).one
      obtain ⟨r0, r1⟩ := (BR.out.since hsw9).one
      have hs09 := hs0.trans hsw9
      have HO9 := Lib.hid (HXX.out.since hs9)
      by_cases hF : F = s
      · have hpc : pbC P = true := by rw [← HPF.out]; exact decide_eq_true hF
        have HZ := Lib.hid (pB_goodS HE.out HPL.out hpc)
        have h7 : Hid ((P.take 7).map cgO = P.map cgO) := by
          unfold pbC at hpc
          rw [Bool.and_eq_true, decide_eq_true_eq] at hpc
          unfold Hid; rw [List.take_of_length_le (by omega)]
        have hne : (F.toList == s.toList) = true := by rw [hF]; exact beq_self_eq_true _
        clear hF hpc HPF
        go_wp2_with fail
        refine bodyPost_ret (v := .tuple #[.agg #[.slice vo q vc], .bool true]) (by simp [results, Tryd.results10, go_sem, *]) rfl ?_
        rw [HZ.out.2]
        rw [h7.out] at HO9
        exact bbP_yesS HZ.out.1 HO9.out (by omega) (by omega) (Nat.le_refl _) hs09 _
      · have hpc : pbC P = false := by rw [← HPF.out]; exact decide_eq_false hF
        have HZ := Lib.hid (pB_badS HE.out HPL.out hpc)
        have hne : (F.toList == s.toList) = false := str_ne hF
        clear hF hpc HPF
        go_wp2_with fail
        refine bodyPost_ret (v := .tuple #[.agg #[.slice none 0 0], .bool false]) (by simp [results, Tryd.results10, go_sem, *]) rfl ?_
        exact bbP_noS HZ.out.1 HZ.out.2 (Nat.le_refl _) hs09 _
end Go.Proofs.YtdbedoediicmhaaDoor
