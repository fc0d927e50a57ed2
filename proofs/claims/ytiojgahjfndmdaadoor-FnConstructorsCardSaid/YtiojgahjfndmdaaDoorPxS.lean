/- The model's l8Read. -/
import Derived.Test.YtiojgahjfndmdaaDoorPxM
namespace Go.Proofs.YtiojgahjfndmdaaDoor
set_option maxRecDepth 100000
open Go.ChangeShapes Go.WideShapes Go.ChangeAt Go.RowKit
set_option linter.unusedVariables false
set_option linter.unusedSimpArgs false

theorem str_of {s : ByteArray} {l : List UInt8} (h : s.data.toList = l) : s = ⟨l.toArray⟩ := bytes_of_list h
theorem kind_none {s : ByteArray} (h : ∀ j, 1 ≤ j → j < 7 → j ≠ 3 → frB j ≠ s) : kindL s.data.toList = 0 := by
  rcases kindL_cases s.data.toList with h0 | ⟨e, _⟩ | ⟨e, _⟩ | ⟨e, _⟩ | ⟨e, _⟩ | ⟨e, _⟩
  · exact h0
  · exact absurd (str_of e).symm (h 1 (by decide) (by decide) (by decide))
  · exact absurd (str_of e).symm (h 2 (by decide) (by decide) (by decide))
  · exact absurd (str_of e).symm (h 4 (by decide) (by decide) (by decide))
  · exact absurd (str_of e).symm (h 5 (by decide) (by decide) (by decide))
  · exact absurd (str_of e).symm (h 6 (by decide) (by decide) (by decide))
theorem rd_kind {s : ByteArray} {k : Nat} (hk : k = 1 ∨ k = 2 ∨ k = 4 ∨ k = 5 ∨ k = 6) (h : frB k = s) : kindL s.data.toList = k ∧ rdL s.data.toList = leafK k := by
  subst h
  rcases hk with rfl | rfl | rfl | rfl | rfl <;> exact ⟨by decide, by decide +kernel⟩
theorem bX_back (s : ByteArray) : bX s.data.toList = s := by cases s; simp
theorem rd_letter {s : ByteArray} (h : kindL s.data.toList = 0) (hp : plB s = true) : rdL s.data.toList = ⟨3, plN s, 0, 0⟩ := by
  unfold rdL; rw [if_pos h, bX_back, if_pos hp]
theorem rd_rep {s : ByteArray} (h : kindL s.data.toList = 0) (hp : plB s = false) : rdL s.data.toList = repL s.data.toList := by
  unfold rdL; rw [if_pos h, bX_back, if_neg (by rw [hp]; decide)]
theorem rep_len {s : ByteArray} (h : s.size ≠ 5) : repL s.data.toList = leafK 0 := by
  unfold repL
  split
  · rename_i a b c d e he
    exact absurd (by have := congrArg List.length he; rw [Array.length_toList] at this; exact this) h
  · rfl
theorem rep_five {s : ByteArray} (h : s.size = 5) : repL s.data.toList = if s[0].toNat = 123 ∧ s[2].toNat = 44 ∧ s[4].toNat = 125 then ⟨7, 0, (s[1].toNat : Int) - 48, (s[3].toNat : Int) - 48⟩ else leafK 0 := by
  obtain ⟨⟨l⟩⟩ := s
  match l, h with
  | [a, b, c, d, e], _ =>
    have e1 : ∀ x : UInt8, ∀ n : Nat, n < 256 → ((x = UInt8.ofNat n) ↔ x.toNat = n) := fun x n hn => ⟨fun h => by rw [h, UInt8.toNat_ofNat']; omega, fun h => byte_of n h hn⟩
    show (if a = 123 ∧ c = 44 ∧ e = 125 then _ else _) = if a.toNat = 123 ∧ c.toNat = 44 ∧ e.toNat = 125 then _ else _
    have h1 := e1 a 123 (by decide)
    have h2 := e1 c 44 (by decide)
    have h3 := e1 e 125 (by decide)
    have h1 : (a = 123) ↔ a.toNat = 123 := h1
    have h2 : (c = 44) ↔ c.toNat = 44 := h2
    have h3 : (e = 125) ↔ e.toNat = 125 := h3
    simp only [h1, h2, h3]
    rfl
set_option maxHeartbeats 4000000 in
set_option maxRecDepth 100000 in
theorem l8Read_any (s : ByteArray) (w : World) (hs : s.size ≤ 1048576) : Calls Tryd.prog 126 #[.string s] w fun e w' => e = .returned (kv (rdL s.data.toList)) ∧ Since w w' := by
  obtain ⟨y, hy⟩ : ∃ y, y = w.alloc (.cells #[.int .i64 0, .int .i64 0, .int .i64 0, .int .i64 0] 65) := ⟨_, rfl⟩
  have hsy : Since w y := by rw [hy]; exact (Since.refl w).alloc _
  have BR : Hid (Blk y w.heap.size 65 #[.int .i64 0, .int .i64 0, .int .i64 0, .int .i64 0]) := by rw [hy]; exact Blk.new rfl _ _
  go_enter Tryd.func126, Tryd.ntmps126
  go_wp2_with fail
  rw [← hy]
  clear hy
  go_loopw [3] (fun i wr => ∃ k : Nat, 1 ≤ k ∧ k ≤ 7 ∧ i = .int .i64 k ∧ Hid (∀ j, 1 ≤ j → j < k → j ≠ 3 → frB j ≠ s) ∧ Hid (Since y wr)) (fun i _ => 7 - (intOf i).toNat)
  case atStart => exact ⟨1, by decide, by decide, rfl, fun j h1 h2 _ => by omega, Since.refl y⟩
  case round =>
    obtain ⟨k, hk1, hk7, rfl, HN, HS⟩ := hrel
    rcases (by omega : k = 1 ∨ k = 2 ∨ k = 3 ∨ k = 4 ∨ k = 5 ∨ k = 6 ∨ k = 7) with rfl | rfl | rfl | rfl | rfl | rfl | rfl
    · have HF : Hid (fmtT (leafK 1) = frB 1) := fmtT_flat (k := 1) rfl (by decide) (by decide)
      go_wp2_with fail
      refine (l8Token_any (leafK 1) _ (by decide)).mono ?_
      rintro e w1 ⟨rfl, hs1⟩
      rw [HF.out]
      have hyw := HS.out.trans hs1
      by_cases h : frB 1 = s
      · have HR := Lib.hid (rd_kind (k := 1) (by decide) h).2
        have hq : ((frB 1).toList == s.toList) = true := by rw [h]; exact beq_self_eq_true _
        clear h HF
        generalize frB 1 = F at hq ⊢
        obtain ⟨r0, r1, r2, r3, f0, f1, f2, f3⟩ := (BR.out.since hyw).four
        go_wp2_with fail
        refine bodyPost_ret (v := .agg #[.int .i64 1, .int .i64 0, .int .i64 0, .int .i64 0]) (by simp [results, Tryd.results126, go_sem, *]) rfl ⟨by first | (rw [HR.out]; done) | (rw [HR.out]; rfl), ?_⟩
        iterate 4 (with_reducible refine Since.setCell ?_ (by (first | omega | (simp; omega) | simp)) _)
        exact hsy.trans hyw
      · have HN2 : Hid (∀ j, 1 ≤ j → j < 2 → j ≠ 3 → frB j ≠ s) := fun j h1 h2 h3 => by
          rcases (by omega : j < 1 ∨ j = 1) with hj | rfl
          · exact HN.out j h1 hj h3
          · exact h
        have hq := str_ne h
        clear h HF
        generalize frB 1 = F at hq ⊢
        go_wp2
        go_roundw
        case rel => exact ⟨2, by decide, by decide, by go_num, HN2.out, hyw⟩
        case measure => simp [intOf]
    · have HF : Hid (fmtT (leafK 2) = frB 2) := fmtT_flat (k := 2) rfl (by decide) (by decide)
      go_wp2_with fail
      refine (l8Token_any (leafK 2) _ (by decide)).mono ?_
      rintro e w1 ⟨rfl, hs1⟩
      rw [HF.out]
      have hyw := HS.out.trans hs1
      by_cases h : frB 2 = s
      · have HR := Lib.hid (rd_kind (k := 2) (by decide) h).2
        have hq : ((frB 2).toList == s.toList) = true := by rw [h]; exact beq_self_eq_true _
        clear h HF
        generalize frB 2 = F at hq ⊢
        obtain ⟨r0, r1, r2, r3, f0, f1, f2, f3⟩ := (BR.out.since hyw).four
        go_wp2_with fail
        refine bodyPost_ret (v := .agg #[.int .i64 2, .int .i64 0, .int .i64 0, .int .i64 0]) (by simp [results, Tryd.results126, go_sem, *]) rfl ⟨by first | (rw [HR.out]; done) | (rw [HR.out]; rfl), ?_⟩
        iterate 4 (with_reducible refine Since.setCell ?_ (by (first | omega | (simp; omega) | simp)) _)
        exact hsy.trans hyw
      · have HN2 : Hid (∀ j, 1 ≤ j → j < 3 → j ≠ 3 → frB j ≠ s) := fun j h1 h2 h3 => by
          rcases (by omega : j < 2 ∨ j = 2) with hj | rfl
          · exact HN.out j h1 hj h3
          · exact h
        have hq := str_ne h
        clear h HF
        generalize frB 2 = F at hq ⊢
        go_wp2
        go_roundw
        case rel => exact ⟨3, by decide, by decide, by go_num, HN2.out, hyw⟩
        case measure => simp [intOf]
    · have HN2 : Hid (∀ j, 1 ≤ j → j < 4 → j ≠ 3 → frB j ≠ s) := fun j h1 h2 h3 => HN.out j h1 (by omega) h3
      go_wp2
      go_roundw
      case rel => exact ⟨4, by decide, by decide, by go_num, HN2.out, HS.out⟩
      case measure => simp [intOf]
    · have HF : Hid (fmtT (leafK 4) = frB 4) := fmtT_flat (k := 4) rfl (by decide) (by decide)
      go_wp2_with fail
      refine (l8Token_any (leafK 4) _ (by decide)).mono ?_
      rintro e w1 ⟨rfl, hs1⟩
      rw [HF.out]
      have hyw := HS.out.trans hs1
      by_cases h : frB 4 = s
      · have HR := Lib.hid (rd_kind (k := 4) (by decide) h).2
        have hq : ((frB 4).toList == s.toList) = true := by rw [h]; exact beq_self_eq_true _
        clear h HF
        generalize frB 4 = F at hq ⊢
        obtain ⟨r0, r1, r2, r3, f0, f1, f2, f3⟩ := (BR.out.since hyw).four
        go_wp2_with fail
        refine bodyPost_ret (v := .agg #[.int .i64 4, .int .i64 0, .int .i64 0, .int .i64 0]) (by simp [results, Tryd.results126, go_sem, *]) rfl ⟨by first | (rw [HR.out]; done) | (rw [HR.out]; rfl), ?_⟩
        iterate 4 (with_reducible refine Since.setCell ?_ (by (first | omega | (simp; omega) | simp)) _)
        exact hsy.trans hyw
      · have HN2 : Hid (∀ j, 1 ≤ j → j < 5 → j ≠ 3 → frB j ≠ s) := fun j h1 h2 h3 => by
          rcases (by omega : j < 4 ∨ j = 4) with hj | rfl
          · exact HN.out j h1 hj h3
          · exact h
        have hq := str_ne h
        clear h HF
        generalize frB 4 = F at hq ⊢
        go_wp2
        go_roundw
        case rel => exact ⟨5, by decide, by decide, by go_num, HN2.out, hyw⟩
        case measure => simp [intOf]
    · have HF : Hid (fmtT (leafK 5) = frB 5) := fmtT_flat (k := 5) rfl (by decide) (by decide)
      go_wp2_with fail
      refine (l8Token_any (leafK 5) _ (by decide)).mono ?_
      rintro e w1 ⟨rfl, hs1⟩
      rw [HF.out]
      have hyw := HS.out.trans hs1
      by_cases h : frB 5 = s
      · have HR := Lib.hid (rd_kind (k := 5) (by decide) h).2
        have hq : ((frB 5).toList == s.toList) = true := by rw [h]; exact beq_self_eq_true _
        clear h HF
        generalize frB 5 = F at hq ⊢
        obtain ⟨r0, r1, r2, r3, f0, f1, f2, f3⟩ := (BR.out.since hyw).four
        go_wp2_with fail
        refine bodyPost_ret (v := .agg #[.int .i64 5, .int .i64 0, .int .i64 0, .int .i64 0]) (by simp [results, Tryd.results126, go_sem, *]) rfl ⟨by first | (rw [HR.out]; done) | (rw [HR.out]; rfl), ?_⟩
        iterate 4 (with_reducible refine Since.setCell ?_ (by (first | omega | (simp; omega) | simp)) _)
        exact hsy.trans hyw
      · have HN2 : Hid (∀ j, 1 ≤ j → j < 6 → j ≠ 3 → frB j ≠ s) := fun j h1 h2 h3 => by
          rcases (by omega : j < 5 ∨ j = 5) with hj | rfl
          · exact HN.out j h1 hj h3
          · exact h
        have hq := str_ne h
        clear h HF
        generalize frB 5 = F at hq ⊢
        go_wp2
        go_roundw
        case rel => exact ⟨6, by decide, by decide, by go_num, HN2.out, hyw⟩
        case measure => simp [intOf]
    · have HF : Hid (fmtT (leafK 6) = frB 6) := fmtT_flat (k := 6) rfl (by decide) (by decide)
      go_wp2_with fail
      refine (l8Token_any (leafK 6) _ (by decide)).mono ?_
      rintro e w1 ⟨rfl, hs1⟩
      rw [HF.out]
      have hyw := HS.out.trans hs1
      by_cases h : frB 6 = s
      · have HR := Lib.hid (rd_kind (k := 6) (by decide) h).2
        have hq : ((frB 6).toList == s.toList) = true := by rw [h]; exact beq_self_eq_true _
        clear h HF
        generalize frB 6 = F at hq ⊢
        obtain ⟨r0, r1, r2, r3, f0, f1, f2, f3⟩ := (BR.out.since hyw).four
        go_wp2_with fail
        refine bodyPost_ret (v := .agg #[.int .i64 6, .int .i64 0, .int .i64 0, .int .i64 0]) (by simp [results, Tryd.results126, go_sem, *]) rfl ⟨by first | (rw [HR.out]; done) | (rw [HR.out]; rfl), ?_⟩
        iterate 4 (with_reducible refine Since.setCell ?_ (by (first | omega | (simp; omega) | simp)) _)
        exact hsy.trans hyw
      · have HN2 : Hid (∀ j, 1 ≤ j → j < 7 → j ≠ 3 → frB j ≠ s) := fun j h1 h2 h3 => by
          rcases (by omega : j < 6 ∨ j = 6) with hj | rfl
          · exact HN.out j h1 hj h3
          · exact h
        have hq := str_ne h
        clear h HF
        generalize frB 6 = F at hq ⊢
        go_wp2
        go_roundw
        case rel => exact ⟨7, by decide, by decide, by go_num, HN2.out, hyw⟩
        case measure => simp [intOf]
    · have HK := Lib.hid (kind_none HN.out)
      go_wp2_with fail
      refine (specPL_any s _).mono ?_
      rintro e w1 ⟨rfl, hs1⟩
      have hyw := HS.out.trans hs1
      cases hp : plB s with
      | true =>
        have HR := Lib.hid (rd_letter HK.out hp)
        clear hp
        generalize plN s = n at HR ⊢
        obtain ⟨r0, r1, r2, r3, f0, f1, f2, f3⟩ := (BR.out.since hyw).four
        go_wp2_with fail
        refine bodyPost_ret (v := .agg #[.int .i64 3, .int .i64 n, .int .i64 0, .int .i64 0]) (by simp [results, Tryd.results126, go_sem, *]) rfl ⟨by first | (rw [HR.out]; done) | (rw [HR.out]; rfl), ?_⟩
        iterate 4 (with_reducible refine Since.setCell ?_ (by (first | omega | (simp; omega) | simp)) _)
        exact hsy.trans hyw
      | false =>
        have HR0 := Lib.hid (rd_rep HK.out hp)
        clear hp
        by_cases h5 : s.size = 5
        · have HR5 := Lib.hid (rep_five h5)
          have b0 := byte_lt s 0 (by omega)
          have b1 := byte_lt s 1 (by omega)
          have b2 := byte_lt s 2 (by omega)
          have b3 := byte_lt s 3 (by omega)
          have b4 := byte_lt s 4 (by omega)
          have p0 : 0 < s.size := by omega
          have p1 : 1 < s.size := by omega
          have p2 : 2 < s.size := by omega
          have p3 : 3 < s.size := by omega
          have p4 : 4 < s.size := by omega
          have q0 : (0 : Int) < (s.size : Int) := by omega
          have q1 : (1 : Int) < (s.size : Int) := by omega
          have q2 : (2 : Int) < (s.size : Int) := by omega
          have q3 : (3 : Int) < (s.size : Int) := by omega
          have q4 : (4 : Int) < (s.size : Int) := by omega
          have h5b : ((s.size : Int) == 5) = true := by simp; omega
          have v1 : IntKind.i64.wrap (s[1].toNat : Int) = (s[1].toNat : Int) := by rw [IntKind.wrap_i64]; omega
          have v3 : IntKind.i64.wrap (s[3].toNat : Int) = (s[3].toNat : Int) := by rw [IntKind.wrap_i64]; omega
          have u1 : IntKind.i64.wrap ((s[1].toNat : Int) - 48) = (s[1].toNat : Int) - 48 := by rw [IntKind.wrap_i64]; omega
          have u3 : IntKind.i64.wrap ((s[3].toNat : Int) - 48) = (s[3].toNat : Int) - 48 := by rw [IntKind.wrap_i64]; omega
          by_cases c0 : s[0].toNat = 123
          · have e0 : ((s[0].toNat : Int) == 123) = true := by simp; omega
            by_cases c2 : s[2].toNat = 44
            · have e2 : ((s[2].toNat : Int) == 44) = true := by simp; omega
              by_cases c4 : s[4].toNat = 125
              · have e4 : ((s[4].toNat : Int) == 125) = true := by simp; omega
                have HR : Hid (rdL s.data.toList = ⟨7, 0, (s[1].toNat : Int) - 48, (s[3].toNat : Int) - 48⟩) := by unfold Hid; rw [HR0.out, HR5.out, if_pos ⟨c0, c2, c4⟩]
                clear c0 c2 c4 h5 HR0 HR5 b0 b1 b2 b3 b4
                obtain ⟨r0, r1, r2, r3, f0, f1, f2, f3⟩ := (BR.out.since hyw).four
                go_upto_region 10 with fail
                go_region
                go_wp2
                refine bodyPost_ret (v := .agg #[.int .i64 7, .int .i64 0, .int .i64 ((s[1].toNat : Int) - 48), .int .i64 ((s[3].toNat : Int) - 48)]) (by simp [results, Tryd.results126, go_sem, *]) rfl ⟨by rw [HR.out], ?_⟩
                have hyz := hsy.trans hyw
                first
                  | (iterate 4 (with_reducible refine Since.setCell ?_ (by (first | omega | (simp; omega) | simp)) _)
                     exact hyz)
                  | (refine Since.drew ?_
                     iterate 4 (with_reducible refine Since.setCell ?_ (by (first | omega | (simp; omega) | simp)) _)
                     exact hyz)
              · have e4 : ((s[4].toNat : Int) == 125) = false := by simp; omega
                have HR : Hid (rdL s.data.toList = leafK 0) := by unfold Hid; rw [HR0.out, HR5.out, if_neg (fun h => c4 h.2.2)]
                clear c0 c2 c4 h5 HR0 HR5 b0 b1 b2 b3 b4
                obtain ⟨r0, r1, r2, r3, f0, f1, f2, f3⟩ := (BR.out.since hyw).four
                go_wp2_with fail
                refine bodyPost_ret (v := .agg #[.int .i64 0, .int .i64 0, .int .i64 0, .int .i64 0]) (by simp [results, Tryd.results126, go_sem, *]) rfl ⟨by first | (rw [HR.out]; done) | (rw [HR.out]; rfl), ?_⟩
                iterate 4 (with_reducible refine Since.setCell ?_ (by (first | omega | (simp; omega) | simp)) _)
                exact hsy.trans hyw
            · have e2 : ((s[2].toNat : Int) == 44) = false := by simp; omega
              have HR : Hid (rdL s.data.toList = leafK 0) := by unfold Hid; rw [HR0.out, HR5.out, if_neg (fun h => c2 h.2.1)]
              clear c0 c2 h5 HR0 HR5 b0 b1 b2 b3 b4
              obtain ⟨r0, r1, r2, r3, f0, f1, f2, f3⟩ := (BR.out.since hyw).four
              go_wp2_with fail
              refine bodyPost_ret (v := .agg #[.int .i64 0, .int .i64 0, .int .i64 0, .int .i64 0]) (by simp [results, Tryd.results126, go_sem, *]) rfl ⟨by first | (rw [HR.out]; done) | (rw [HR.out]; rfl), ?_⟩
              iterate 4 (with_reducible refine Since.setCell ?_ (by (first | omega | (simp; omega) | simp)) _)
              exact hsy.trans hyw
          · have e0 : ((s[0].toNat : Int) == 123) = false := by simp; omega
            have HR : Hid (rdL s.data.toList = leafK 0) := by unfold Hid; rw [HR0.out, HR5.out, if_neg (fun h => c0 h.1)]
            clear c0 h5 HR0 HR5 b0 b1 b2 b3 b4
            obtain ⟨r0, r1, r2, r3, f0, f1, f2, f3⟩ := (BR.out.since hyw).four
            go_wp2_with fail
            refine bodyPost_ret (v := .agg #[.int .i64 0, .int .i64 0, .int .i64 0, .int .i64 0]) (by simp [results, Tryd.results126, go_sem, *]) rfl ⟨by first | (rw [HR.out]; done) | (rw [HR.out]; rfl), ?_⟩
            iterate 4 (with_reducible refine Since.setCell ?_ (by (first | omega | (simp; omega) | simp)) _)
            exact hsy.trans hyw
        · have HR : Hid (rdL s.data.toList = leafK 0) := by unfold Hid; rw [HR0.out, rep_len h5]
          have h5b : ((s.size : Int) == 5) = false := by simp; omega
          clear h5 HR0
          obtain ⟨r0, r1, r2, r3, f0, f1, f2, f3⟩ := (BR.out.since hyw).four
          go_wp2_with fail
          refine bodyPost_ret (v := .agg #[.int .i64 0, .int .i64 0, .int .i64 0, .int .i64 0]) (by simp [results, Tryd.results126, go_sem, *]) rfl ⟨by first | (rw [HR.out]; done) | (rw [HR.out]; rfl), ?_⟩
          iterate 4 (with_reducible refine Since.setCell ?_ (by (first | omega | (simp; omega) | simp)) _)
          exact hsy.trans hyw
end Go.Proofs.YtiojgahjfndmdaaDoor
