/- The format of a walk; the model's FormatWalk. -/
import Derived.Test.YtilkheclimammaaDoorWlkL
import Derived.Test.YtilkheclimammaaDoorFmt
import Derived.Lib.ItoaLen
namespace Go.Proofs.YtilkheclimammaaDoor
set_option maxRecDepth 100000
open Go.ChangeShapes Go.WideShapes Go.ChangeAt Go.RowKit
set_option linter.unusedVariables false
set_option linter.unusedSimpArgs false

def itoaK (n : Int) : ByteArray := ⟨(Lib.itoa n).toArray⟩
theorem itoaK_size (n : Int) (h0 : -9223372036854775808 ≤ n) (h1 : n ≤ 9223372036854775807) : (itoaK n).size ≤ 21 := by
  have := Lib.itoa_length_le n h0 h1
  have e : (itoaK n).size = (Lib.itoa n).length := by unfold itoaK; simp [ByteArray.size]
  omega
def numK (s : Stp) : List UInt8 := 32 :: Lib.itoa s.id
def sepK (s : Stp) : List UInt8 := numK s ++ (if s.inv = true then [45] else [])
def preK (ss : List Stp) : List UInt8 := ss.flatMap sepK
def okS (s : Stp) : Bool := inB s.id 1 99
def okK (x : Wlk) : Bool := inB x.st 0 4 && decide (x.ss.length ≤ 60) && x.ss.all okS
/-- The format of a walk. -/
def fmtK (x : Wlk) : ByteArray := if okK x = true then ⟨(Lib.itoa x.st ++ preK x.ss).toArray⟩ else ⟨#[]⟩
theorem fmtK_in {x : Wlk} (h1 : inB x.st 0 4 = true) (h2 : x.ss.length ≤ 60) (h3 : ∀ s ∈ x.ss, okS s = true) : fmtK x = ⟨(Lib.itoa x.st ++ preK x.ss).toArray⟩ := by
  unfold fmtK okK; rw [if_pos (by rw [h1, decide_eq_true h2, List.all_eq_true.2 h3]; rfl)]
theorem fmtK_st {x : Wlk} (h : inB x.st 0 4 = false) : fmtK x = ⟨#[]⟩ := by unfold fmtK okK; rw [h]; rfl
theorem fmtK_long {x : Wlk} (h : 60 < x.ss.length) : fmtK x = ⟨#[]⟩ := by
  unfold fmtK okK; rw [decide_eq_false (show ¬ x.ss.length ≤ 60 by omega), Bool.and_false]; rfl
theorem fmtK_bad {x : Wlk} {s : Stp} (hs : s ∈ x.ss) (h : okS s = false) : fmtK x = ⟨#[]⟩ := by
  unfold fmtK okK
  have : x.ss.all okS = false := by rw [List.all_eq_false]; exact ⟨s, hs, by rw [h]; decide⟩
  rw [this, Bool.and_false]; rfl
theorem preK_take (ss : List Stp) (k : Nat) (hk : k < ss.length) : preK (ss.take (k + 1)) = preK (ss.take k) ++ sepK ss[k] := by
  unfold preK; rw [List.take_succ_eq_append_getElem hk, List.flatMap_append, List.flatMap_cons, List.flatMap_nil, List.append_nil]
theorem okS_b {s : Stp} (h : okS s = true) : 1 ≤ s.id ∧ s.id ≤ 99 := by unfold okS inB at h; simpa using h
theorem numK_len {s : Stp} (h : okS s = true) : (numK s).length ≤ 22 := by
  have hb := okS_b h
  have := Lib.itoa_length_le s.id (by omega) (by omega)
  unfold numK; rw [List.length_cons]; omega
theorem sepK_len {s : Stp} (h : okS s = true) : (sepK s).length ≤ 23 := by
  have := numK_len h
  unfold sepK; rw [List.length_append]; split <;> simp <;> omega
theorem preK_len (ss : List Stp) (h : ∀ s ∈ ss, okS s = true) : (preK ss).length ≤ 23 * ss.length := by
  induction ss with
  | nil => simp [preK]
  | cons s ss ih =>
    have h1 : preK (s :: ss) = sepK s ++ preK ss := rfl
    have h2 := sepK_len (h s (List.mem_cons_self ..))
    have h3 := ih (fun y hy => h y (List.mem_cons_of_mem _ hy))
    rw [h1, List.length_append, List.length_cons]; omega
theorem strK (l m : List UInt8) : (⟨l.toArray⟩ : ByteArray) ++ ⟨m.toArray⟩ = ⟨(l ++ m).toArray⟩ := by rw [ByteArray.mk_append_mk]
theorem numK_str (l : List UInt8) (s : Stp) : ((⟨l.toArray⟩ : ByteArray) ++ ⟨#[32]⟩) ++ itoaK s.id = ⟨(l ++ numK s).toArray⟩ := by
  unfold itoaK
  rw [strK l [32], strK, List.append_assoc]; rfl
theorem all_take_okS {ss : List Stp} {k : Nat} (hk : k < ss.length) (h : ∀ s ∈ ss.take k, okS s = true) (hx : okS ss[k] = true) : ∀ s ∈ ss.take (k + 1), okS s = true := by
  intro s hs
  rw [List.take_succ_eq_append_getElem hk] at hs
  rcases List.mem_append.1 hs with hs | hs
  · exact h s hs
  · simp at hs; subst hs; exact hx
set_option maxHeartbeats 2000000 in
set_option maxRecDepth 100000 in
theorem specFK_any (u : Value) (x : Wlk) (w : World) (hu : WlkAt w u x) (h3 : x.ss.length ≤ 1048577) :
    Calls Tryd.prog 6 #[u] w fun en w' => en = .returned (.string (fmtK x)) ∧ Since w w' := by
  obtain ⟨so, rfl, hss⟩ := hu
  obtain ⟨sao, sac, rfl, HS⟩ := hss
  obtain ⟨n, hn⟩ : ∃ n, n = x.ss.length := ⟨_, rfl⟩
  rw [← hn]
  have HN := Lib.hid hn
  have hn9 : n ≤ 1048577 := by omega
  have hs0 : Since w (w.alloc (.cells #[.int .i64 x.st, .slice sao n sac] 29)) := (Since.refl w).alloc _
  have B0 : Hid (Blk (w.alloc (.cells #[.int .i64 x.st, .slice sao n sac] 29)) w.heap.size 29 #[.int .i64 x.st, .slice sao n sac]) := Blk.new rfl _ _
  rcases Bool.eq_false_or_eq_true (inB x.st 0 4) with hb | hb
  · have HB := Lib.hid hb
    by_cases hl : n ≤ 60
    · have HO := Lib.hid (fmtK_in (x := x) hb (by omega))
      have hstb : 0 ≤ x.st ∧ x.st ≤ 4 := by unfold inB at hb; simpa using hb
      have HF0 : Hid (∀ W, Calls Tryd.prog 16 #[.int .i64 x.st] W fun en w' => en = .returned (.string (itoaK x.st)) ∧ Since W w') := fun W => specFI_any x.st W (by omega) (by omega)
      have hst21 := Lib.itoa_length_le x.st (by omega) (by omega)
      have HST := Lib.hid hst21
      clear hb hn hstb hst21
      go_enter Tryd.func6, Tryd.ntmps6
      go_wp2_with fail
      generalize (w.alloc (.cells #[.int .i64 x.st, .slice sao n sac] 29)) = y at hs0 B0 ⊢
      refine (l1In_any _ _ _ _).mono ?_
      rintro en w1 ⟨rfl, rfl⟩
      rw [HB.out]
      obtain ⟨p0, p1, _, _⟩ := B0.out.two
      go_wp2_with fail
      clear p0 p1
      refine (HF0.out _).mono ?_
      rintro en w1 ⟨rfl, hs1⟩
      have hs01 := hs0.trans hs1
      have B1 := Lib.hid (B0.out.since hs1)
      have HI : Hid (itoaK x.st = ⟨(Lib.itoa x.st ++ preK (x.ss.take 0)).toArray⟩) := by unfold Hid itoaK preK; simp
      rw [HI.out]
      clear B0 hs0 hs1
      go_wp2_with fail
      go_loopw [3, 4] (fun c i wr => ∃ (k : Nat) (l : List UInt8), k ≤ n ∧ i = .int .i64 k ∧ c = .string ⟨l.toArray⟩ ∧ Hid (l = Lib.itoa x.st ++ preK (x.ss.take k)) ∧ Hid (∀ s ∈ x.ss.take k, okS s = true) ∧ Since w1 wr) (fun _ i _ => n - (intOf i).toNat)
      case atStart => exact ⟨0, _, Nat.zero_le _, rfl, rfl, rfl, fun s hs => by simp at hs, Since.refl _⟩
      case round =>
        obtain ⟨k, l, hk, rfl, rfl, HLL, HOK, hsw⟩ := hrel
        have hs0w := hs01.trans hsw
        obtain ⟨p0, p1, _, _⟩ := (B1.out.since hsw).two
        have hll : l.length ≤ 1450 := by
          have := preK_len (x.ss.take k) HOK.out
          rw [HLL.out, List.length_append]
          rw [List.length_take] at this
          have := HST.out
          omega
        by_cases hlt : k < n
        · have hx : k < x.ss.length := by have := HN.out; omega
          obtain ⟨be, oe, rfl, hbe, d0, d1⟩ := HS.out k hx
          have HSC : Hid (∀ W, Since w W → W.cell? ⟨be, oe + k * 2, none⟩ = some (.int .i64 x.ss[k].id) ∧ W.cell? ⟨be, oe + k * 2 + 1, none⟩ = some (.bool x.ss[k].inv)) := fun W hW => by
            have s1 := since_cells hW hbe
            rw [s1, s1]; exact ⟨d0, d1⟩
          have hki : (k : Int) < (n : Int) := by omega
          have hk0 : (0 : Int) ≤ (k : Int) := by omega
          obtain ⟨c0, c1⟩ := HSC.out _ hs0w
          clear d0 d1
          rcases Bool.eq_false_or_eq_true (okS x.ss[k]) with ho | ho
          · have HOS : Hid (inB x.ss[k].id 1 99 = true) := ho
            have HOK2 := Lib.hid (all_take_okS hx HOK.out ho)
            have hbd := okS_b ho
            have HT : Hid (Lib.itoa x.st ++ preK (x.ss.take (k + 1)) = l ++ sepK x.ss[k]) := by unfold Hid; rw [HLL.out, preK_take x.ss k hx, List.append_assoc]
            have HF : Hid (∀ W, Calls Tryd.prog 16 #[.int .i64 x.ss[k].id] W fun en w' => en = .returned (.string (itoaK x.ss[k].id)) ∧ Since W w') := fun W => specFI_any x.ss[k].id W (by omega) (by omega)
            have hsz := itoaK_size x.ss[k].id (by omega) (by omega)
            have HCC := Lib.hid (numK_str l x.ss[k])
            have hnl := numK_len ho
            generalize itoaK x.ss[k].id = T at HF hsz HCC
            have n0 : ¬ 9223372036854775807 < l.length + 1 := by omega
            have n1 : ¬ 9223372036854775807 < l.length + 1 + T.size := by omega
            have n2 : ¬ 9223372036854775807 < (l.length + (numK x.ss[k]).length) + 1 := by omega
            have HN2 := Lib.hid n2
            clear ho hbd n2 hnl
            go_wp2_with fail
            clear p0 p1 c0 c1
            refine (l1In_any _ _ _ _).mono ?_
            rintro en w1' ⟨rfl, rfl⟩
            rw [HOS.out]
            obtain ⟨p0, p1, _, _⟩ := (B1.out.since hsw).two
            obtain ⟨c0, c1⟩ := HSC.out _ hs0w
            go_wp2_with fail
            clear p0 p1 c0 c1
            refine (HF.out _).mono ?_
            rintro en w2 ⟨rfl, hs2⟩
            have hs3 := hsw.trans hs2
            obtain ⟨p0, p1, _, _⟩ := (B1.out.since hs3).two
            obtain ⟨c0, c1⟩ := HSC.out _ (hs01.trans hs3)
            rcases Bool.eq_false_or_eq_true x.ss[k].inv with hiv | hiv
            · have HQ : Hid ((((⟨l.toArray⟩ : ByteArray) ++ ⟨#[32]⟩) ++ T) ++ ⟨#[45]⟩ = ⟨(l ++ sepK x.ss[k]).toArray⟩) := by
                unfold Hid sepK
                rw [HCC.out, if_pos hiv, strK _ [45], List.append_assoc]
              have n3 : ¬ 9223372036854775807 < l.length + 1 + T.size + 1 := by omega
              rw [hiv] at c1
              clear hiv
              go_wp2
              go_roundw
              case rel => exact ⟨k + 1, l ++ sepK x.ss[k], by omega, by go_num, by rw [HQ.out], HT.out.symm, HOK2, hs3⟩
              case measure => simp [intOf]; omega
            · have HQ : Hid (((⟨l.toArray⟩ : ByteArray) ++ ⟨#[32]⟩) ++ T = ⟨(l ++ sepK x.ss[k]).toArray⟩) := by
                unfold Hid sepK
                rw [HCC.out, if_neg (by rw [hiv]; decide), List.append_nil]
              rw [hiv] at c1
              clear hiv
              go_wp2
              go_roundw
              case rel => exact ⟨k + 1, l ++ sepK x.ss[k], by omega, by go_num, by rw [HQ.out], HT.out.symm, HOK2, hs3⟩
              case measure => simp [intOf]; omega
          · have HOS : Hid (inB x.ss[k].id 1 99 = false) := ho
            have HE := Lib.hid (fmtK_bad (List.getElem_mem hx) ho)
            clear ho
            go_wp2_with fail
            clear p0 p1 c0 c1
            refine (l1In_any _ _ _ _).mono ?_
            rintro en w1' ⟨rfl, rfl⟩
            rw [HOS.out]
            go_wp2
            go_ret
            exact ⟨ret_str HE.out.symm, hs0w⟩
        · obtain rfl : k = n := by omega
          have HR : Hid ((⟨l.toArray⟩ : ByteArray) = fmtK x) := by
            have h1 := HOK.out
            have h2 := HLL.out
            rw [List.take_of_length_le (by have := HN.out; omega)] at h1 h2
            unfold Hid; rw [HO.out h1, h2]
          go_wp2
          go_ret
          exact ⟨ret_str HR.out, hs0w⟩
    · have HE := Lib.hid (fmtK_long (x := x) (by omega))
      clear hb hn
      go_enter Tryd.func6, Tryd.ntmps6
      go_wp2_with fail
      refine (l1In_any _ _ _ _).mono ?_
      rintro en w1 ⟨rfl, rfl⟩
      rw [HB.out]
      go_wp2
      go_ret
      exact ⟨ret_str HE.out.symm, hs0⟩
  · have HB := Lib.hid hb
    have HE := Lib.hid (fmtK_st hb)
    clear hb hn
    go_enter Tryd.func6, Tryd.ntmps6
    go_wp2_with fail
    refine (l1In_any _ _ _ _).mono ?_
    rintro en w1 ⟨rfl, rfl⟩
    rw [HB.out]
    go_wp2
    go_ret
    exact ⟨ret_str HE.out.symm, hs0⟩
end Go.Proofs.YtilkheclimammaaDoor
