/- FormatWalk, the program's. -/
import Derived.Test.YtilkheclimammaaDoorFkM
import Derived.Test.YtilkheclimammaaDoorBldK
import Derived.Test.YtilkheclimammaaDoorK2
namespace Go.Proofs.YtilkheclimammaaDoor
set_option maxRecDepth 100000
open Go.ChangeShapes Go.WideShapes Go.ChangeAt Go.RowKit
set_option linter.unusedVariables false
set_option linter.unusedSimpArgs false

theorem usedB_sinceK {B b : Nat} {p : Value} {bs : List Value} {w w' : World} (h : Lib.BuilderAt 47 5 B b p bs w) (k : Since w w') : Lib.BuilderAt 47 5 B b p bs w' := by
  obtain ⟨hB, v, hb, hown, hne⟩ := h
  refine ⟨hB, v, (k.block b (heap_lt hb)).trans hb, ?_, hne⟩
  obtain ⟨h2, h3⟩ := hown
  refine ⟨h2, ?_⟩
  rcases h3 with h3 | ⟨g, cap, cur, a, b', c, d⟩
  · exact .inl h3
  · exact .inr ⟨g, cap, cur, a, b', (k.block g (heap_lt c)).trans c, d⟩
theorem isB_sinceK {B b : Nat} {bs : List Value} {w w' : World} (h : IsB B b bs w) (k : Since w w') : IsB B b bs w' :=
  h.elim (fun x => .inl (usedB_sinceK x k)) (fun x => .inr (usedB_sinceK x k))
theorem since_belowK {y w w' : World} (h : Since y w) (k : Below y.heap.size w w') : Since y w' :=
  ⟨k.os.trans h.os, k.tape.trans h.tape, k.output.trans h.output, Nat.le_trans h.size k.size, fun i hi => (k.block i hi).trans (h.block i hi)⟩
set_option maxHeartbeats 2000000 in
set_option maxRecDepth 100000 in
theorem implFK_any (u : Value) (x : Wlk) (w : World) (hu : WlkAt w u x) (h3 : x.ss.length ≤ 1048577) (htab : Tab w) :
    Calls Tryd.prog 8 #[u] w fun en w' => en = .returned (.string (fmtK x)) ∧ Since w w' := by
  have HTB := Lib.hid htab
  clear htab
  obtain ⟨so, rfl, hss⟩ := hu
  obtain ⟨sao, sac, rfl, HS⟩ := hss
  obtain ⟨n, hn⟩ : ∃ n, n = x.ss.length := ⟨_, rfl⟩
  rw [← hn]
  have HN := Lib.hid hn
  have hn9 : n ≤ 1048577 := by omega
  have hs0 : Since w (w.alloc (.cells #[.int .i64 x.st, .slice sao n sac] 29)) := (Since.refl w).alloc _
  have B0 : Hid (Blk (w.alloc (.cells #[.int .i64 x.st, .slice sao n sac] 29)) w.heap.size 29 #[.int .i64 x.st, .slice sao n sac]) := Blk.new rfl _ _
  rcases Bool.eq_false_or_eq_true (inB x.st 0 4) with hb | hb
  · have HB := Lib.hid hb
    have HB5 : Hid (inB x.st 0 (((5 : Nat) : Int) - 1) = true) := hb
    by_cases hl : n ≤ 60
    · have HO := Lib.hid (fmtK_in (x := x) hb (by omega))
      have hstb : 0 ≤ x.st ∧ x.st ≤ 4 := by unfold inB at hb; simpa using hb
      have HF0 : Hid (∀ W, Since w W → Calls Tryd.prog 20 #[.int .i64 x.st] W fun en w' => en = .returned (.string (itoaK x.st)) ∧ Since W w') := fun W hW => implFI_any x.st W (by omega) (by omega) (HTB.out.since hW)
      have hst21 := Lib.itoa_length_le x.st (by omega) (by omega)
      have HST := Lib.hid hst21
      have hsz0 := Lib.hid (itoaK_size x.st (by omega) (by omega))
      have HC0 : Hid (Lib.byteCells [] ++ Lib.strCells (itoaK x.st) = Lib.byteCells (Lib.itoa x.st ++ preK (x.ss.take 0))) := by unfold Hid preK; rw [Lib.strCells_eq, ← Lib.byteCells_append]; simp [itoaK]
      clear hb hn hstb hst21
      go_enter Tryd.func8, Tryd.ntmps8
      go_wp2_with fail
      generalize (w.alloc (.cells #[.int .i64 x.st, .slice sao n sac] 29)) = y at hs0 B0 ⊢
      refine (isNode_any _ 5 _).mono ?_
      rintro en w1 ⟨rfl, rfl⟩
      rw [HB5.out]
      have B1 := Lib.hid (B0.out.alloc (.cells #[.pointer none, .slice none 0 0] 47))
      have hfb : IsB y.heap.size y.heap.size (Lib.byteCells []) (y.alloc (.cells #[.pointer none, .slice none 0 0] 47)) := Lib.fresh_isBuilder 47 5 y
      have hsb : Since y (y.alloc (.cells #[.pointer none, .slice none 0 0] 47)) := (Since.refl y).alloc _
      obtain ⟨p0, p1, _, _⟩ := B0.out.two
      obtain ⟨p2, p3, _, _⟩ := B1.out.two
      go_wp2_with fail
      clear p0 p1 p2 p3
      refine (HF0.out _ (hs0.trans hsb)).mono ?_
      rintro en w2 ⟨rfl, hs2⟩
      have hsy2 := hsb.trans hs2
      have HFB := Lib.hid (isB_sinceK hfb hs2)
      clear hfb
      go_wp2_with fail
      refine (write_kept y.heap.size y.heap.size (Lib.byteCells []) (itoaK x.st) _ HFB.out (by rw [Lib.byteCells_length]; have := hsz0.out; simp; omega) hsy2.size).mono ?_
      rintro en w3 ⟨rfl, hub, hbl, _⟩
      rw [HC0.out] at hub
      have HB3 : Hid (IsB y.heap.size y.heap.size (Lib.byteCells (Lib.itoa x.st ++ preK (x.ss.take 0))) w3) := .inr hub
      have hsy3 := since_belowK hsy2 hbl
      obtain ⟨p0, p1, _, _⟩ := (B0.out.since hsy3).two
      clear hub hbl hsb hs2 hsy2 B1 HFB
      go_wp2_with fail
      clear p0 p1
      go_loopw [23] (fun i wr => ∃ (k : Nat) (l : List UInt8), k ≤ n ∧ i = .int .i64 k ∧ Hid (l = Lib.itoa x.st ++ preK (x.ss.take k)) ∧ Hid (∀ s ∈ x.ss.take k, okS s = true) ∧ Hid (IsB y.heap.size y.heap.size (Lib.byteCells l) wr) ∧ Since y wr) (fun i _ => n - (intOf i).toNat)
      case atStart => exact ⟨0, _, Nat.zero_le _, rfl, rfl, fun s hs => by simp at hs, HB3.out, hsy3⟩
      case round =>
        obtain ⟨k, l, hk, rfl, HLL, HOK, HBD, hsw⟩ := hrel
        have hs0w := hs0.trans hsw
        have hll : l.length ≤ 1450 := by
          have := preK_len (x.ss.take k) HOK.out
          rw [HLL.out, List.length_append]
          rw [List.length_take] at this
          have := HST.out
          omega
        by_cases hlt : k < n
        · have hx : k < x.ss.length := by have := HN.out; omega
          obtain ⟨be, oe, rfl, hbe, d0, d1⟩ := HS.out k hx
          have s1 := since_cells hs0w hbe
          rw [← s1] at d0 d1
          clear s1
          have hki : (k : Int) < (n : Int) := by omega
          have hk0 : (0 : Int) ≤ (k : Int) := by omega
          obtain ⟨s, hs⟩ : ∃ s, s = x.ss[k] := ⟨_, rfl⟩
          have HSM : Hid (s ∈ x.ss) := by rw [hs]; exact List.getElem_mem hx
          have HSK := Lib.hid hs
          rw [← hs] at d0 d1
          clear hs
          have hsa : Since wr (wr.alloc (.cells #[.int .i64 s.id, .bool s.inv] 41)) := (Since.refl wr).alloc _
          have BS : Hid (Blk (wr.alloc (.cells #[.int .i64 s.id, .bool s.inv] 41)) wr.heap.size 41 #[.int .i64 s.id, .bool s.inv]) := Blk.new rfl _ _
          rcases Bool.eq_false_or_eq_true (okS s) with ho | ho
          · have HOS : Hid (inB s.id 1 99 = true) := ho
            have HOK2 : Hid (∀ t ∈ x.ss.take (k + 1), okS t = true) := all_take_okS hx HOK.out (by rw [← HSK.out]; exact ho)
            have hbd := okS_b ho
            have HT : Hid (Lib.itoa x.st ++ preK (x.ss.take (k + 1)) = l ++ sepK s) := by unfold Hid; rw [HLL.out, preK_take x.ss k hx, HSK.out, List.append_assoc]
            have HF : Hid (∀ W, Since w W → Calls Tryd.prog 20 #[.int .i64 s.id] W fun en w' => en = .returned (.string (itoaK s.id)) ∧ Since W w') := fun W hW => implFI_any s.id W (by omega) (by omega) (HTB.out.since hW)
            have hsz := itoaK_size s.id (by omega) (by omega)
            have HCC : Hid (Lib.byteCells l ++ Lib.strCells ((⟨#[32]⟩ : ByteArray) ++ itoaK s.id) = Lib.byteCells (l ++ numK s)) := by
              unfold Hid numK
              rw [Lib.strCells_eq, ← Lib.byteCells_append]
              congr 2
            have hcz : ((⟨#[32]⟩ : ByteArray) ++ itoaK s.id).size ≤ 22 := by
              rw [ByteArray.size_append]
              have : (⟨#[32]⟩ : ByteArray).size = 1 := rfl
              omega
            have hnl := Lib.hid (numK_len ho)
            generalize itoaK s.id = T at HF hsz HCC hcz
            have n0 : ¬ 9223372036854775807 < 1 + T.size := by omega
            have HCZ := Lib.hid hcz
            clear ho hbd hcz
            go_wp2_with fail
            refine (isEdgeID_any _ _).mono ?_
            rintro en w4 ⟨rfl, rfl⟩
            rw [HOS.out]
            obtain ⟨q0, q1, _, _⟩ := BS.out.two
            go_wp2_with fail
            clear q0 q1
            refine (HF.out _ (hs0w.trans hsa)).mono ?_
            rintro en w4 ⟨rfl, hs4⟩
            have hsw4 := (hsw.trans hsa).trans hs4
            have BS4 := Lib.hid (BS.out.since hs4)
            go_wp2_with fail
            refine (write_kept y.heap.size y.heap.size (Lib.byteCells l) ((⟨#[32]⟩ : ByteArray) ++ T) _ (isB_sinceK HBD.out (hsa.trans hs4)) (by rw [Lib.byteCells_length]; have := HCZ.out; omega) hsw4.size).mono ?_
            rintro en w5 ⟨rfl, hub, hbl, hkp⟩
            rw [HCC.out] at hub
            have HB5b : Hid (IsB y.heap.size y.heap.size (Lib.byteCells (l ++ numK s)) w5) := .inr hub
            have hsw5 := since_belowK hsw4 hbl
            have BS5 := Lib.hid (BS4.out.kept hkp (by decide) (by decide))
            obtain ⟨q0, q1, _, _⟩ := BS5.out.two
            clear hub hbl hkp d0 d1
            rcases Bool.eq_false_or_eq_true s.inv with hiv | hiv
            · rw [hiv] at q1
              have HQ : Hid (Lib.byteCells (l ++ numK s) ++ Lib.strCells ⟨#[45]⟩ = Lib.byteCells (l ++ sepK s)) := by
                unfold Hid sepK
                rw [if_pos hiv, Lib.strCells_eq, ← Lib.byteCells_append, List.append_assoc]
              clear hiv
              go_wp2_with fail
              refine (write_kept y.heap.size y.heap.size (Lib.byteCells (l ++ numK s)) (⟨#[45]⟩ : ByteArray) _ HB5b.out (by rw [Lib.byteCells_length, List.length_append]; have := hnl.out; have : (⟨#[45]⟩ : ByteArray).size = 1 := rfl; omega) hsw5.size).mono ?_
              rintro en w6 ⟨rfl, hub, hbl, _⟩
              rw [HQ.out] at hub
              have HB6 : Hid (IsB y.heap.size y.heap.size (Lib.byteCells (l ++ sepK s)) w6) := .inr hub
              have hsw6 := since_belowK hsw5 hbl
              clear hub hbl
              go_wp2
              go_roundw
              case rel => exact ⟨k + 1, l ++ sepK s, by omega, by go_num, HT.out.symm, HOK2, HB6, hsw6⟩
              case measure => simp [intOf]; omega
            · rw [hiv] at q1
              have HQ : Hid (l ++ numK s = l ++ sepK s) := by unfold Hid sepK; rw [if_neg (by rw [hiv]; decide), List.append_nil]
              clear hiv
              rw [HQ.out] at HB5b
              go_wp2
              go_roundw
              case rel => exact ⟨k + 1, l ++ sepK s, by omega, by go_num, HT.out.symm, HOK2, HB5b, hsw5⟩
              case measure => simp [intOf]; omega
          · have HOS : Hid (inB s.id 1 99 = false) := ho
            have HE := Lib.hid (fmtK_bad HSM.out ho)
            have hsE := hs0w.trans hsa
            clear ho
            go_wp2_with fail
            refine (isEdgeID_any _ _).mono ?_
            rintro en w4 ⟨rfl, rfl⟩
            rw [HOS.out]
            go_wp2
            go_ret
            exact ⟨ret_str HE.out.symm, hsE⟩
        · obtain rfl : k = n := by omega
          have HR : Hid ((⟨l.toArray⟩ : ByteArray) = fmtK x) := by
            have h1 := HOK.out
            have h2 := HLL.out
            rw [List.take_of_length_le (by have := HN.out; omega)] at h1 h2
            unfold Hid; rw [HO.out h1, h2]
          go_wp2_with fail
          refine (Tryd.Builder_String_any y.heap.size y.heap.size l _ HBD.out hsw.size).mono ?_
          rintro en w3 ⟨rfl, hbl⟩
          have hs4 := since_belowK hsw hbl
          go_wp2
          go_ret
          exact ⟨ret_str HR.out, hs0.trans hs4⟩
    · have HE := Lib.hid (fmtK_long (x := x) (by omega))
      clear hb hn
      go_enter Tryd.func8, Tryd.ntmps8
      go_wp2_with fail
      refine (isNode_any _ 5 _).mono ?_
      rintro en w1 ⟨rfl, rfl⟩
      rw [HB5.out]
      go_wp2
      go_ret
      exact ⟨ret_str HE.out.symm, hs0⟩
  · have HB5 : Hid (inB x.st 0 (((5 : Nat) : Int) - 1) = false) := hb
    have HE := Lib.hid (fmtK_st hb)
    clear hb hn
    go_enter Tryd.func8, Tryd.ntmps8
    go_wp2_with fail
    refine (isNode_any _ 5 _).mono ?_
    rintro en w1 ⟨rfl, rfl⟩
    rw [HB5.out]
    go_wp2
    go_ret
    exact ⟨ret_str HE.out.symm, hs0⟩
end Go.Proofs.YtilkheclimammaaDoor
