/- The program's parseRepeat and parseToken. -/
import Derived.Test.YthnppgcmmabolaaGreatDoorPxM
import Derived.Test.YthnppgcmmabolaaGreatDoorPlI
namespace Go.Proofs.YthnppgcmmabolaaGreatDoor
set_option maxRecDepth 100000
open Go.ChangeShapes Go.WideShapes Go.ChangeAt Go.RowKit
set_option linter.unusedVariables false
set_option linter.unusedSimpArgs false

theorem trimP_len (l p : List UInt8) : (Lib.trimPrefix l p).length ≤ l.length := by
  unfold Lib.trimPrefix; split
  · rw [List.length_drop]; omega
  · exact Nat.le_refl _
theorem trimS_len (l p : List UInt8) : (Lib.trimSuffix l p).length ≤ l.length := by
  unfold Lib.trimSuffix; split
  · rw [List.length_take]; omega
  · exact Nat.le_refl _
theorem cut_len (l p : List UInt8) : (Lib.cut l p).1.length ≤ l.length ∧ (Lib.cut l p).2.1.length ≤ l.length := by
  unfold Lib.cut; split
  · simp only [List.length_take, List.length_drop]; omega
  · simp

abbrev prv (b : Bool) (n m : Int) : Value := .tuple #[kv (if b = true then ⟨7, 0, n, m⟩ else leafK 0), .bool b]

set_option maxHeartbeats 4000000 in
set_option maxRecDepth 100000 in
theorem repeat_run (S U V A B : ByteArray) (p1 p2 p3 g1 g2 : Bool) (n1 n2 : Int) (w : World)
    (H1 : Hid (∀ W, Calls Tryz.prog 57 #[.string S, .string ⟨#[123]⟩] W fun e w' => e = .returned (.tuple #[.string U, .bool p1]) ∧ W = w'))
    (H2 : Hid (∀ W, Calls Tryz.prog 58 #[.string U, .string ⟨#[125]⟩] W fun e w' => e = .returned (.tuple #[.string V, .bool p2]) ∧ W = w'))
    (H3 : Hid (∀ W, Since w W → Calls Tryz.prog 59 #[.string V, .string ⟨#[44]⟩] W fun e w' => e = .returned (.tuple #[.string A, .string B, .bool p3]) ∧ Since W w'))
    (H4 : Hid (∀ W, Since w W → Calls Tryz.prog 60 #[.string A] W fun e w' => e = .returned (.tuple #[.int .i64 n1, .bool g1]) ∧ Since W w'))
    (H5 : Hid (∀ W, Since w W → Calls Tryz.prog 60 #[.string B] W fun e w' => e = .returned (.tuple #[.int .i64 n2, .bool g2]) ∧ Since W w')) :
    Calls Tryz.prog 44 #[.string S] w fun e w' => e = .returned (prv (p1 && p2 && g1 && g2) n1 n2) ∧ Since w w' := by
  obtain ⟨y, hy⟩ : ∃ y, y = w.alloc (.cells #[.int .i64 0, .int .i64 0, .int .i64 0, .int .i64 0] 42) := ⟨_, rfl⟩
  have hsy : Since w y := by rw [hy]; exact (Since.refl w).alloc _
  have BR : Hid (Blk y w.heap.size 42 #[.int .i64 0, .int .i64 0, .int .i64 0, .int .i64 0]) := by rw [hy]; exact Blk.new rfl _ _
  go_enter Tryz.func44, Tryz.ntmps44
  go_wp2_with fail
  rw [← hy]
  clear hy
  refine (H1.out _).mono ?_
  rintro e w1 ⟨rfl, rfl⟩
  go_wp2_with fail
  refine (H2.out _).mono ?_
  rintro e w1 ⟨rfl, rfl⟩
  go_wp2_with fail
  refine (H3.out _ hsy).mono ?_
  rintro e w3 ⟨rfl, hs3⟩
  have hsw3 := hsy.trans hs3
  go_wp2_with fail
  refine (H4.out _ hsw3).mono ?_
  rintro e w4 ⟨rfl, hs4⟩
  have hsw4 := hsw3.trans hs4
  go_wp2_with fail
  refine (H5.out _ hsw4).mono ?_
  rintro e w5 ⟨rfl, hs5⟩
  have hyw := (hs3.trans hs4).trans hs5
  have hsw5 := hsw4.trans hs5
  obtain ⟨r0, r1, r2, r3, f0, f1, f2, f3⟩ := (BR.out.since hyw).four
  clear H1 H2 H3 H4 H5 hs3 hs4 hs5 hsw3 hsw4
  cases p1 with
  | false =>
    go_wp2_with fail
    refine bodyPost_ret (v := prv false n1 n2) (by simp [results, prv, leafK, Tryz.results44, go_sem, *]) rfl ⟨rfl, ?_⟩
    iterate 4 (with_reducible refine Since.setCell ?_ (by (first | omega | (simp; omega) | simp)) _)
    exact hsw5
  | true =>
    cases p2 with
    | false =>
      go_wp2_with fail
      refine bodyPost_ret (v := prv false n1 n2) (by simp [results, prv, leafK, Tryz.results44, go_sem, *]) rfl ⟨rfl, ?_⟩
      iterate 4 (with_reducible refine Since.setCell ?_ (by (first | omega | (simp; omega) | simp)) _)
      exact hsw5
    | true =>
      cases g1 with
      | false =>
        go_wp2_with fail
        refine bodyPost_ret (v := prv false n1 n2) (by simp [results, prv, leafK, Tryz.results44, go_sem, *]) rfl ⟨rfl, ?_⟩
        iterate 4 (with_reducible refine Since.setCell ?_ (by (first | omega | (simp; omega) | simp)) _)
        exact hsw5
      | true =>
        cases g2 with
        | false =>
          go_wp2_with fail
          refine bodyPost_ret (v := prv false n1 n2) (by simp [results, prv, leafK, Tryz.results44, go_sem, *]) rfl ⟨rfl, ?_⟩
          iterate 4 (with_reducible refine Since.setCell ?_ (by (first | omega | (simp; omega) | simp)) _)
          exact hsw5
        | true =>
          go_wp2_with fail
          refine bodyPost_ret (v := prv true n1 n2) (by simp [results, prv, Tryz.results44, go_sem, *]) rfl ⟨rfl, ?_⟩
          iterate 4 (with_reducible refine Since.setCell ?_ (by (first | omega | (simp; omega) | simp)) _)
          exact hsw5

theorem parseRepeat_any (t : List UInt8) (w : World) (ht : t.length ≤ 1048576) (tab : Tab w) (hm : MaxX w) :
    Calls Tryz.prog 44 #[.string (bX t)] w fun e w' => e = .returned (.tuple #[kv (repT t), .bool (repB t)]) ∧ Since w w' := by
  have l1 := trimP_len t [123]
  have l2 := trimS_len (Lib.trimPrefix t [123]) [125]
  obtain ⟨l3, l4⟩ := cut_len (innL t) [44]
  have l2 : (innL t).length ≤ (Lib.trimPrefix t [123]).length := l2
  have R := repeat_run (bX t) (bX (Lib.trimPrefix t [123])) (bX (innL t)) (bX (Lib.cut (innL t) [44]).1) (bX (Lib.cut (innL t) [44]).2.1)
    (Lib.hasPrefix t [123]) (Lib.hasSuffix (Lib.trimPrefix t [123]) [125]) (Lib.cut (innL t) [44]).2.2 (pOut (Lib.cut (innL t) [44]).1).2 (pOut (Lib.cut (innL t) [44]).2.1).2
    (pOut (Lib.cut (innL t) [44]).1).1 (pOut (Lib.cut (innL t) [44]).2.1).1 w
    (fun W => (Tryz.strings_CutPrefix (bX t) ⟨#[123]⟩ W).mono fun e w' ⟨he, hw⟩ => ⟨by rw [he, bX_list], hw.symm⟩)
    (fun W => (Tryz.strings_CutSuffix (bX (Lib.trimPrefix t [123])) ⟨#[125]⟩ W (by rw [bX_size]; omega)).mono fun e w' ⟨he, hw⟩ => ⟨by rw [he, bX_list]; rfl, hw.symm⟩)
    (fun W hW => by
      obtain ⟨_, m, hm⟩ := hm.since hW
      refine (Tryz.strings_Cut (bX (innL t)) ⟨#[44]⟩ m W (by rw [bX_size]; omega) hm).mono ?_
      rintro e w' ⟨he, n, hn⟩
      refine ⟨by rw [he, bX_list], ?_⟩
      rw [hn]; exact (Since.refl W).drewN n)
    (fun W hW => (implPI_any (bX (Lib.cut (innL t) [44]).1) W (by rw [bX_size]; omega) (tab.since hW)).mono fun e w' ⟨he, hw⟩ => ⟨by rw [he, bX_list], hw⟩)
    (fun W hW => (implPI_any (bX (Lib.cut (innL t) [44]).2.1) W (by rw [bX_size]; omega) (tab.since hW)).mono fun e w' ⟨he, hw⟩ => ⟨by rw [he, bX_list], hw⟩)
  exact R

theorem index_form (k : Nat) (h : k < 8) (w : World) :
    (Instr.index 64 (.agg #[.int .i64 0, .string ⟨#[]⟩, .int .i64 0, .string ⟨#[33]⟩, .int .i64 0, .string ⟨#[40, 41]⟩, .int .i64 0, .string ⟨#[]⟩, .int .i64 2, .string ⟨#[46]⟩, .int .i64 2, .string ⟨#[124]⟩, .int .i64 1, .string ⟨#[42]⟩, .int .i64 1, .string ⟨#[]⟩]) (.int .i64 (k : Int))).run Tryz.prog w = .ok (.agg #[.int .i64 (opA k), .string (frB k)]) w := by
  rcases eight h with h | h | h | h | h | h | h | h <;> subst h <;> kernel_rfl
theorem form_yes {t : List UInt8} {k : Nat} (h : k < 8) (he : frB k = bX t) (hn : bX t ≠ ⟨#[]⟩) : kindL t = k ∧ k ≠ 0 := by
  have : t = (frB k).data.toList := by rw [he, bX_list]
  subst this
  rcases eight h with rfl | rfl | rfl | rfl | rfl | rfl | rfl | rfl
  all_goals first | exact ⟨by decide, by decide⟩ | exact absurd (by rw [← he]; rfl) hn
theorem form_no {t : List UInt8} (h : ∀ k, k < 8 → frB k = bX t → bX t = ⟨#[]⟩) : kindL t = 0 := by
  rcases kindL_cases t with h0 | ⟨rfl, _⟩ | ⟨rfl, _⟩ | ⟨rfl, _⟩ | ⟨rfl, _⟩ | ⟨rfl, _⟩
  · exact h0
  · exact absurd (h 1 (by decide) rfl) (by decide)
  · exact absurd (h 2 (by decide) rfl) (by decide)
  · exact absurd (h 4 (by decide) rfl) (by decide)
  · exact absurd (h 5 (by decide) rfl) (by decide)
  · exact absurd (h 6 (by decide) rfl) (by decide)

set_option maxHeartbeats 4000000 in
set_option maxRecDepth 100000 in
theorem parseToken_any (t : List UInt8) (w : World) (ht : t.length ≤ 1048576) (tab : Tab w) (hm : MaxX w) (hf : Fmts w) (hr : Forms w) :
    Calls Tryz.prog 28 #[.string (bX t)] w fun e w' => e = .returned (.tuple #[kv (ptT t), .bool (ptB t)]) ∧ Since w w' := by
  have HPL := Lib.hid (fun W (hW : Since w W) => implPL_any (bX t) W (hf.since hW) (by rw [bX_size]; omega))
  have HRP := Lib.hid (fun W (hW : Since w W) => parseRepeat_any t W ht (tab.since hW) (hm.since hW))
  have HA1 : Hid (plB (bX t) = true → ptT t = ⟨3, plN (bX t), 0, 0⟩ ∧ ptB t = true) := fun h => ⟨by unfold ptT; rw [if_pos h], by unfold ptB; rw [h]; rfl⟩
  have HA2 : Hid (plB (bX t) = false → ∀ k, k < 8 → frB k = bX t → bX t ≠ ⟨#[]⟩ → ptT t = ⟨(k : Int), 0, 0, 0⟩ ∧ ptB t = true) := fun h k hk he hn => by
    obtain ⟨e1, e2⟩ := form_yes hk he hn
    refine ⟨?_, by unfold ptB; simp [e1, e2]⟩
    unfold ptT; rw [h, if_neg (by decide), if_neg (by omega), e1]; rfl
  have HA3 : Hid (plB (bX t) = false → (∀ k, k < 8 → frB k = bX t → bX t = ⟨#[]⟩) → ptT t = repT t ∧ ptB t = repB t) := fun h hk => by
    have e := form_no hk
    refine ⟨?_, by unfold ptB; rw [h, e]; simp⟩
    unfold ptT; rw [h, if_neg (by decide), if_pos e]
  have HR := Lib.hid hr
  clear tab hm hf hr
  generalize ptT t = T at HA1 HA2 HA3 ⊢
  generalize ptB t = TB at HA1 HA2 HA3 ⊢
  generalize repT t = RT at HRP HA3
  generalize repB t = RB at HRP HA3
  generalize plN (bX t) = n at HPL HA1
  generalize plB (bX t) = b at HPL HA1 HA2 HA3
  generalize bX t = s at *
  clear ht
  obtain ⟨y, hy⟩ : ∃ y, y = w.alloc (.cells #[.int .i64 0, .int .i64 0, .int .i64 0, .int .i64 0] 42) := ⟨_, rfl⟩
  have hsy : Since w y := by rw [hy]; exact (Since.refl w).alloc _
  have BR : Hid (Blk y w.heap.size 42 #[.int .i64 0, .int .i64 0, .int .i64 0, .int .i64 0]) := by rw [hy]; exact Blk.new rfl _ _
  go_enter Tryz.func28, Tryz.ntmps28
  go_wp2_with fail
  rw [← hy]
  clear hy
  refine (HPL.out _ hsy).mono ?_
  rintro e w1 ⟨rfl, hs1⟩
  have hw1 := hsy.trans hs1
  cases b with
  | true =>
    have HT := Lib.hid (HA1.out rfl)
    clear HA1 HA2 HA3
    obtain ⟨r0, r1, r2, r3, f0, f1, f2, f3⟩ := (BR.out.since hs1).four
    go_wp2_with fail
    refine bodyPost_ret (v := .tuple #[.agg #[.int .i64 3, .int .i64 n, .int .i64 0, .int .i64 0], .bool true]) (by simp [results, Tryz.results28, go_sem, *]) rfl ⟨by rw [HT.out.1, HT.out.2], ?_⟩
    iterate 4 (with_reducible refine Since.setCell ?_ (by (first | omega | (simp; omega) | simp)) _)
    exact hw1
  | false =>
    have HB2 := Lib.hid (HA2.out rfl)
    have HB3 := Lib.hid (HA3.out rfl)
    clear HA1 HA2 HA3
    have F1 := HR.out.since hw1
    obtain ⟨c0, c1⟩ := F1.2 0 (by omega)
    obtain ⟨c2, c3⟩ := F1.2 1 (by omega)
    obtain ⟨c4, c5⟩ := F1.2 2 (by omega)
    obtain ⟨c6, c7⟩ := F1.2 3 (by omega)
    obtain ⟨c8, c9⟩ := F1.2 4 (by omega)
    obtain ⟨c10, c11⟩ := F1.2 5 (by omega)
    obtain ⟨c12, c13⟩ := F1.2 6 (by omega)
    obtain ⟨c14, c15⟩ := F1.2 7 (by omega)
    have hsz := F1.1
    clear F1
    simp [opA, frB] at c0 c1 c2 c3 c4 c5 c6 c7 c8 c9 c10 c11 c12 c13 c14 c15
    go_wp2_with fail
    clear c0 c1 c2 c3 c4 c5 c6 c7 c8 c9 c10 c11 c12 c13 c14 c15
    go_loopw [17] (fun i wr => ∃ k : Nat, k ≤ 8 ∧ i = .int .i64 k ∧ Hid (∀ j, j < k → frB j = s → s = ⟨#[]⟩) ∧ Hid (Since w1 wr)) (fun i _ => 8 - (intOf i).toNat)
    case atStart => exact ⟨0, by omega, rfl, fun j hj => by omega, Since.refl w1⟩
    case round =>
      obtain ⟨k, hk, rfl, HN, HS⟩ := hrel
      by_cases hlt : k < 8
      · have hki : (k : Int) < 8 := by omega
        have hkk := hlt
        have hix := fun W => index_form k hlt W
        have HE2 := Lib.hid (HB2.out k hlt)
        have HNX : Hid ((frB k = s → s = ⟨#[]⟩) → ∀ j, j < k + 1 → frB j = s → s = ⟨#[]⟩) := fun h j hj => by
          rcases (by omega : j < k ∨ j = k) with hj | rfl
          · exact HN.out j hj
          · exact h
        generalize opA k = o at hix
        generalize frB k = F at hix HE2 HNX
        have hal : Since wr (wr.alloc (.cells #[.int .i64 o, .string F] 63)) := (Since.refl wr).alloc _
        have HBF : Hid (Blk (wr.alloc (.cells #[.int .i64 o, .string F] 63)) wr.heap.size 63 #[.int .i64 o, .string F]) := Blk.new rfl _ _
        have hyw := HS.out.trans hal
        obtain ⟨q0, q1, _⟩ := HBF.out.two
        by_cases h1 : F = s
        · have e1 : (F.toList == s.toList) = true := by rw [h1]; exact beq_self_eq_true _
          by_cases h2 : s = ⟨#[]⟩
          · have e2 : (s.toList == ([] : List UInt8)) = true := by rw [h2, ByteArray.toList_eq]; rfl
            have HN2 := Lib.hid (HNX.out (fun _ => h2))
            clear h1 h2 HNX HE2
            go_wp2
            go_roundw
            case rel => exact ⟨k + 1, by omega, by go_num, HN2.out, hyw⟩
            case measure => simp [intOf]; omega
          · have e2 : (s.toList == ([] : List UInt8)) = false := by have := str_ne (b := ⟨#[]⟩) h2; rwa [show (⟨#[]⟩ : ByteArray).toList = [] from by rw [ByteArray.toList_eq]] at this
            have HT := Lib.hid (HE2.out h1 h2)
            clear h1 h2 HNX HE2
            obtain ⟨r0, r1, r2, r3, f0, f1, f2, f3⟩ := (BR.out.since (hs1.trans hyw)).four
            go_wp2_with fail
            refine bodyPost_ret (v := .tuple #[.agg #[.int .i64 k, .int .i64 0, .int .i64 0, .int .i64 0], .bool true]) (by simp [results, Tryz.results28, go_sem, *]) rfl ⟨by rw [HT.out.1, HT.out.2], ?_⟩
            iterate 4 (with_reducible refine Since.setCell ?_ (by (first | omega | (simp; omega) | simp)) _)
            exact hw1.trans hyw
        · have e1 := str_ne h1
          have HN2 := Lib.hid (HNX.out (fun h => absurd h h1))
          clear h1 HNX HE2
          go_wp2
          go_roundw
          case rel => exact ⟨k + 1, by omega, by go_num, HN2.out, hyw⟩
          case measure => simp [intOf]; omega
      · obtain rfl : k = 8 := by omega
        have HT := Lib.hid (HB3.out HN.out)
        have hw2 := hw1.trans HS.out
        have hyw := HS.out
        go_wp2_with fail
        refine (HRP.out _ hw2).mono ?_
        rintro e w3 ⟨rfl, hs3⟩
        have hw3 := hw2.trans hs3
        obtain ⟨r0, r1, r2, r3, f0, f1, f2, f3⟩ := (BR.out.since ((hs1.trans hyw).trans hs3)).four
        go_wp2_with fail
        refine bodyPost_ret (v := .tuple #[kv RT, .bool RB]) (by simp [results, Tryz.results28, go_sem, *]) rfl ⟨by rw [HT.out.1, HT.out.2], ?_⟩
        iterate 4 (with_reducible refine Since.setCell ?_ (by (first | omega | (simp; omega) | simp)) _)
        exact hw3
end Go.Proofs.YthnppgcmmabolaaGreatDoor
