/- A binary search for a number among edges. -/
import Derived.Test.YtpmkpeclfhmhlaaK2
import Derived.Test.YtpmkpeclfhmhlaaK0
namespace Go.Proofs.Ytpmkpeclfhmhlaa
set_option maxRecDepth 100000
open Go.ChangeShapes Go.WideShapes Go.ChangeAt Go.RowKit
set_option linter.unusedVariables false
set_option linter.unusedSimpArgs false

theorem bsClosure_any (e : Edg) (id : Int) (c : Int) (w : World) (hc : cmpI e.id id = c) :
    Calls Try.prog 82 #[ev e, .int .i64 id] w fun en w' => en = .returned (.int .i64 c) ∧ Since w w' := by
  have HC := Lib.hid hc
  clear hc
  have h := Blk.new (w := w) (g := w.heap.size) rfl 38 #[.int .i64 e.id, .int .i64 e.fr, .int .i64 e.to, .int .i64 e.lb]
  have hs0 : Since w (w.alloc (.cells #[.int .i64 e.id, .int .i64 e.fr, .int .i64 e.to, .int .i64 e.lb] 38)) := (Since.refl w).alloc _
  obtain ⟨q0, _⟩ := h.four
  clear h
  unfold ev
  go_enter Try.func82, Try.ntmps82
  go_wp2_with fail
  refine (cmpCompare_int e.id id _).mono ?_
  rintro en w' ⟨rfl, rfl⟩
  rw [HC.out]
  go_wp2
  go_ret
  exact ⟨rfl, hs0⟩
def lowTo (es : List Edg) (id : Int) (a : Nat) : Prop := ∀ t (h : t < es.length), t < a → (es[t]).id < id
def highFrom (es : List Edg) (id : Int) (b : Nat) : Prop := ∀ t (h : t < es.length), b ≤ t → id ≤ (es[t]).id
theorem cmpI_lt {a b : Int} (h : a < b) : cmpI a b = -1 := by unfold cmpI; rw [if_pos h]
theorem cmpI_gt {a b : Int} (h : b < a) : cmpI a b = 1 := by unfold cmpI; rw [if_neg (by omega), if_pos h]
theorem cmpI_eq (a : Int) : cmpI a a = 0 := by unfold cmpI; rw [if_neg (by omega), if_neg (by omega)]
theorem cmpI_ge {a b : Int} (h : b ≤ a) : ∃ c : Int, cmpI a b = c ∧ 0 ≤ c := by
  by_cases e : a = b
  · subst e; exact ⟨0, cmpI_eq _, by omega⟩
  · exact ⟨1, cmpI_gt (by omega), by omega⟩

def BSOut (w : World) (L : Nat) (U : Bool) (e : Ending) (w' : World) : Prop := e = .returned (.tuple #[.int .i64 L, .bool U]) ∧ Since w w'
set_option maxHeartbeats 1000000 in
set_option maxRecDepth 100000 in
theorem binSearch_any (v : Value) (es : List Edg) (id : Int) (w : World) (h : EdgesAt w v es) (hsrt : es.Pairwise idLt) (h2 : es.length ≤ 1048577) :
    Calls Try.prog 81 #[v, .int .i64 id, .func (.func 82) #[] #[]] w (BSOut w (lbE es id) (decide (0 ≤ idxE es id))) := by
  obtain ⟨bo, bc, rfl, HE⟩ := h.row
  clear h
  obtain ⟨m, hm⟩ : ∃ m, m = es.length := ⟨_, rfl⟩
  rw [← hm]
  have hm9 : m ≤ 1048577 := by omega
  have HM := Lib.hid hm
  have HSR := Lib.hid hsrt
  clear hm h2 hsrt
  obtain ⟨L, hL⟩ : ∃ L, L = lbE es id := ⟨_, rfl⟩
  obtain ⟨U, hU⟩ : ∃ U, U = decide (0 ≤ idxE es id) := ⟨_, rfl⟩
  rw [← hL, ← hU]
  have HL := Lib.hid hL
  have HU := Lib.hid hU
  clear hL hU
  go_enter Try.func81, Try.ntmps81
  go_wp2
  go_loopw [9, 10] (fun i j wr => ∃ a b : Nat, i = .int .i64 a ∧ j = .int .i64 b ∧ a ≤ b ∧ b ≤ m ∧ Hid (lowTo es id a ∧ highFrom es id b) ∧ Since w wr) (fun i j _ => (intOf j).toNat - (intOf i).toNat)
  case atStart => exact ⟨0, m, rfl, rfl, Nat.zero_le _, Nat.le_refl _, ⟨fun t _ ht => absurd ht (Nat.not_lt_zero _), fun t ht hb => by have := HM.out; omega⟩, Since.refl _⟩
  case round =>
    obtain ⟨a, b, rfl, rfl, hab, hbm, HI, hs⟩ := hrel
    by_cases hlt : a < b
    · have hx : (a + b) / 2 < es.length := by have := HM.out; omega
      obtain ⟨be, oe, rfl, hbe, d0, d1, d2, d3⟩ := HE.out ((a + b) / 2) hx
      have s1 := since_cells hs hbe
      rw [← s1] at d0 d1 d2 d3
      clear s1
      obtain ⟨e, he⟩ : ∃ e : Edg, e = es[(a + b) / 2] := ⟨_, rfl⟩
      rw [← he] at d0 d1 d2 d3
      by_cases hid : e.id < id
      · have HI2 : Hid (lowTo es id ((a + b) / 2 + 1) ∧ highFrom es id b) := by
          refine ⟨fun t ht htl => ?_, HI.out.2⟩
          have := asc_le HSR.out (show t ≤ (a + b) / 2 by omega) hx
          rw [← he] at this; omega
        have HC := Lib.hid (cmpI_lt hid)
        clear he hid
        go_wp2_with fail
        refine (bsClosure_any e id _ _ HC.out).mono ?_
        rintro en w1 ⟨rfl, hs1⟩
        have hs2 := hs.trans hs1
        go_wp2
        go_roundw
        case rel => exact ⟨(a + b) / 2 + 1, b, by rw [show ((a : Int) + (b : Int)) / 2 + 1 = (((a + b) / 2 + 1 : Nat) : Int) by omega], rfl, by omega, hbm, HI2, hs2⟩
        case measure => simp [intOf]; omega
      · obtain ⟨c, hc, hc0⟩ := cmpI_ge (show id ≤ e.id by omega)
        have HI2 : Hid (lowTo es id a ∧ highFrom es id ((a + b) / 2)) := by
          refine ⟨HI.out.1, fun t ht htl => ?_⟩
          have := asc_le HSR.out htl ht
          rw [← he] at this; omega
        have HC := Lib.hid hc
        have hcn : ¬ c < 0 := by omega
        clear he hid hc
        go_wp2_with fail
        refine (bsClosure_any e id _ _ HC.out).mono ?_
        rintro en w1 ⟨rfl, hs1⟩
        have hs2 := hs.trans hs1
        go_wp2
        go_roundw
        case rel => exact ⟨a, (a + b) / 2, rfl, by rw [show ((a : Int) + (b : Int)) / 2 = (((a + b) / 2 : Nat) : Int) by omega], by omega, by omega, HI2, hs2⟩
        case measure => simp [intOf]; omega
    · obtain rfl : b = a := by omega
      have hLb : L = b := by
        rw [HL.out]
        exact lbE_is (by rw [← HM.out]; exact hbm) (fun t ht => HI.out.1 t _ ht) (fun h => HI.out.2 b h (Nat.le_refl _))
      by_cases hbn : b < m
      · have hx : b < es.length := by have := HM.out; omega
        obtain ⟨be, oe, rfl, hbe, d0, d1, d2, d3⟩ := HE.out b hx
        have s1 := since_cells hs hbe
        rw [← s1] at d0 d1 d2 d3
        clear s1
        have hidx := lbE_idx (es := es) (id := id) HSR.out
        rw [← HL.out, hLb] at hidx
        by_cases he : (es[b]).id = id
        · have hU : U = true := by
            rw [HU.out]
            rcases hidx with ⟨_, _, h⟩ | ⟨h, _⟩
            · exact decide_eq_true (by omega)
            · exact absurd he (h hx)
          have HC : Hid (cmpI (es[b]).id id = 0) := by rw [he]; exact cmpI_eq _
          subst hU hLb
          clear he hidx
          go_wp2_with fail
          refine (bsClosure_any es[L] id _ _ HC.out).mono ?_
          rintro en w1 ⟨rfl, hs1⟩
          have hs2 := hs.trans hs1
          go_wp2
          go_ret2
          exact ⟨rfl, hs2⟩
        · have hU : U = false := by
            rw [HU.out]
            rcases hidx with ⟨_, h, _⟩ | ⟨_, h⟩
            · exact absurd h he
            · exact decide_eq_false (by omega)
          have HC : Hid (cmpI (es[b]).id id = 1) := by
            have := HI.out.2 b hx (Nat.le_refl _)
            exact cmpI_gt (by omega)
          subst hU hLb
          clear he hidx
          go_wp2_with fail
          refine (bsClosure_any es[L] id _ _ HC.out).mono ?_
          rintro en w1 ⟨rfl, hs1⟩
          have hs2 := hs.trans hs1
          go_wp2
          go_ret2
          exact ⟨rfl, hs2⟩
      · have hidx := lbE_idx (es := es) (id := id) HSR.out
        rw [← HL.out, hLb] at hidx
        have hU : U = false := by
          rw [HU.out]
          rcases hidx with ⟨h, _, _⟩ | ⟨_, h⟩
          · have := HM.out; omega
          · exact decide_eq_false (by omega)
        subst hU hLb
        clear hidx
        go_wp2
        go_ret2
        exact ⟨rfl, hs⟩
theorem findEdge_any (v : Value) (es : List Edg) (id : Int) (w : World) (h : EdgesAt w v es) (hsrt : es.Pairwise idLt) (h2 : es.length ≤ 1048577) :
    Calls Try.prog 61 #[v, .int .i64 id] w (BSOut w (lbE es id) (decide (0 ≤ idxE es id))) := by
  have H := Lib.hid h
  obtain ⟨ao, c, rfl⟩ := h.len
  have HSR := Lib.hid hsrt
  obtain ⟨m, hm⟩ : ∃ m, m = es.length := ⟨_, rfl⟩
  rw [← hm] at H ⊢
  have H2 := Lib.hid h2
  clear h hm hsrt h2
  obtain ⟨L, hL⟩ : ∃ L, L = lbE es id := ⟨_, rfl⟩
  obtain ⟨U, hU⟩ : ∃ U, U = decide (0 ≤ idxE es id) := ⟨_, rfl⟩
  have HF : Hid (∀ W, EdgesAt W (.slice ao m c) es → Calls Try.prog 81 #[.slice ao m c, .int .i64 id, .func (.func 82) #[] #[]] W (BSOut W L U)) := fun W hW => by rw [hL, hU]; exact binSearch_any _ es id W hW HSR.out H2.out
  rw [← hL, ← hU]
  clear hL hU
  go_enter Try.func61, Try.ntmps61
  go_wp2_with fail
  refine (HF.out _ H.out).mono ?_
  rintro en w1 ⟨rfl, hs1⟩
  go_wp2
  go_ret2
  exact ⟨rfl, hs1⟩
end Go.Proofs.Ytpmkpeclfhmhlaa
