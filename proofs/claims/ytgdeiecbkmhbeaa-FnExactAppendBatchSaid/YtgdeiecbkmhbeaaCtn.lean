/- slices.Contains over edges. -/
import Derived.Test.YtgdeiecbkmhbeaaEbS
namespace Go.Proofs.Ytgdeiecbkmhbeaa
set_option maxRecDepth 100000
open Go.ChangeShapes Go.WideShapes Go.ChangeAt Go.RowKit
set_option linter.unusedVariables false
set_option linter.unusedSimpArgs false

theorem eql_edge (a b : Edg) (w : World) : (binOp .eql 93 (ev a) (ev b)).run Try.prog w = .ok (.bool (decide (a = b))) w := by
  have he := equal_edge 9998 a b w
  unfold ev at he ⊢
  rw [run_eql_struct, show (10000 : Nat) = 9998 + 1 + 1 from rfl, he]
  rfl
theorem none_step {es : List Edg} {e : Edg} {k : Nat} (hk : k < es.length) (h : ∀ j (hj : j < es.length), j < k → es[j] ≠ e) (h2 : es[k] ≠ e) : ∀ j (hj : j < es.length), j < k + 1 → es[j] ≠ e := by
  intro j hj hjk
  by_cases hc : j = k
  · subst hc; exact h2
  · exact h j hj (by omega)
theorem none_all {es : List Edg} {e : Edg} (h : ∀ j (hj : j < es.length), j < es.length → es[j] ≠ e) : decide (e ∈ es) = false := by
  refine decide_eq_false fun hm => ?_
  obtain ⟨j, hj, he⟩ := List.getElem_of_mem hm
  exact h j hj hj he
def IxOut (w : World) (es : List Edg) (x : Edg) (e : Ending) (w' : World) : Prop := ∃ r : Int, e = .returned (.int .i64 r) ∧ Hid (decide (0 ≤ r) = decide (x ∈ es)) ∧ Since w w'
set_option maxHeartbeats 1000000 in
set_option maxRecDepth 100000 in
theorem indexE_any (v : Value) (es : List Edg) (x : Edg) (w : World) (h : EdgesAt w v es) (hl : es.length ≤ 1048577) :
    Calls Try.prog 150 #[v, ev x] w (IxOut w es x) := by
  obtain ⟨ao, cap, rfl, HC⟩ := h.row
  clear h
  have hge := guard_edge
  obtain ⟨n, hn⟩ : ∃ n, n = es.length := ⟨_, rfl⟩
  rw [← hn]
  have hn9 : n ≤ 1048577 := by omega
  have HN := Lib.hid hn
  clear hn hl
  obtain ⟨y, hy⟩ : ∃ y, y = w.alloc (.cells #[.int .i64 x.id, .int .i64 x.fr, .int .i64 (Edg.to x), .int .i64 x.lb] 93) := ⟨_, rfl⟩
  have hs0 : Since w y := by rw [hy]; exact (Since.refl w).alloc _
  have BE : Hid (Blk y w.heap.size 93 #[.int .i64 x.id, .int .i64 x.fr, .int .i64 (Edg.to x), .int .i64 x.lb]) := by rw [hy]; exact Blk.new rfl _ _
  unfold ev
  go_enter Try.func150, Try.ntmps150
  go_wp2_with fail
  rw [← hy]
  clear hy
  go_loopw [8] (fun i wr => ∃ k : Nat, k ≤ n ∧ i = .int .i64 k ∧ Hid (∀ j (hj : j < es.length), j < k → es[j] ≠ x) ∧ Hid (Since y wr)) (fun i _ => n - (intOf i).toNat)
  case atStart => exact ⟨0, Nat.zero_le _, rfl, fun j hj h => by omega, Since.refl _⟩
  case round =>
    obtain ⟨k, hk, rfl, HT, HS⟩ := hrel
    obtain ⟨p0, p1, p2, p3, _⟩ := (BE.out.since HS.out).four
    by_cases hlt : k < n
    · have hx : k < es.length := by have := HN.out; omega
      obtain ⟨x1, off1, rfl, hx1, c10, c11, c12, c13⟩ := HC.out k hx
      have s1 := since_cells (hs0.trans HS.out) hx1
      rw [← s1] at c10 c11 c12 c13
      clear s1
      have hki : (k : Int) < (n : Int) := by omega
      have hk0 : (0 : Int) ≤ (k : Int) := by omega
      by_cases he : x = es[k]
      · have HR : Hid (decide ((0 : Int) ≤ (k : Int)) = decide (x ∈ es)) := by
          unfold Hid
          rw [decide_eq_true hk0, decide_eq_true (by rw [he]; exact List.getElem_mem hx)]
        have hnq : ∀ W : World, (binOp .eql 93 (ev x) (ev es[k])).run Try.prog W = .ok (.bool true) W := fun W => by rw [eql_edge, decide_eq_true he]
        unfold ev at hnq
        clear he
        go_wp2_with fail
        go_quiet (fail)
        go_wp2
        go_ret
        exact ⟨_, rfl, HR, hs0.trans (HS.out.drewN _)⟩
      · have HX := Lib.hid (none_step hx HT.out (fun e => he e.symm))
        have hnq : ∀ W : World, (binOp .eql 93 (ev x) (ev es[k])).run Try.prog W = .ok (.bool false) W := fun W => by rw [eql_edge, decide_eq_false he]
        unfold ev at hnq
        clear he
        go_wp2_with fail
        go_quiet (fail)
        go_wp2
        go_roundw
        case rel => exact ⟨k + 1, by omega, by go_num, HX, HS.out.drewN _⟩
        case measure => simp [intOf]; omega
    · obtain rfl : k = n := by omega
      have HR : Hid (decide ((0 : Int) ≤ -1) = decide (x ∈ es)) := by
        unfold Hid
        rw [none_all (fun j hj hjl => HT.out j hj (by have := HN.out; omega))]; rfl
      go_wp2
      go_ret
      exact ⟨_, rfl, HR, hs0.trans HS.out⟩
set_option maxRecDepth 100000 in
theorem containsE_any (v : Value) (es : List Edg) (x : Edg) (w : World) (h : EdgesAt w v es) (hl : es.length ≤ 1048577) :
    Calls Try.prog 148 #[v, ev x] w fun e w' => e = .returned (.bool (decide (x ∈ es))) ∧ Since w w' := by
  have HE := Lib.hid h
  obtain ⟨ao, cap, rfl⟩ := h.len
  have hs0 : Since w (w.alloc (.cells #[.int .i64 x.id, .int .i64 x.fr, .int .i64 (Edg.to x), .int .i64 x.lb] 93)) := (Since.refl w).alloc _
  clear h
  unfold ev
  go_enter Try.func148, Try.ntmps148
  go_wp2_with fail
  refine (indexE_any _ es x _ (HE.out.since hs0) hl).mono ?_
  rintro e w1 ⟨r, rfl, HR, hs1⟩
  have hs01 := hs0.trans hs1
  go_wp2
  go_ret
  exact ⟨ret_bool HR.out, hs01⟩
end Go.Proofs.Ytgdeiecbkmhbeaa
