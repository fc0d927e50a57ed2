/- The laws' own copies, marks and checks of slices of edges. -/
import Derived.Test.YtilkheclimammaaRowOf
namespace Go.Proofs.Ytilkheclimammaa
set_option maxRecDepth 100000
open Go.ChangeShapes Go.WideShapes Go.ChangeAt Go.RowKit

theorem Since.grownBy {w w' : World} (h : Since w w') (row : Option Nat) : w.grownBy w' row := ⟨h.os, h.tape, h.output, h.size, fun i hi _ => h.block i hi⟩
theorem rowKept {w w' : World} {base size n : Nat} {e : TypeId} {v : Value} {xs : List Value} (h : w.ownsRow base e size v n xs) (k : Since w w') : w'.ownsRow base e size v n xs :=
  h.kept (k.grownBy none) (by cases hv : v.ownBlock with | none => exact .inl rfl | some _ => exact .inr (by simp))
/-- Four cells of a row written one after the other. -/
theorem row_set4 {w : World} {base g n cap : Nat} {xs : List Edg} (h : w.ownsRow base 108 4 (.slice (some ⟨g, 0, none⟩) n cap) n (ecells xs)) (k : Nat) (hk : k < xs.length) (e : Edg) :
    ((((w.setCell ⟨g, k * 4, none⟩ (.int .i64 e.id)).setCell ⟨g, k * 4 + 1, none⟩ (.int .i64 e.fr)).setCell ⟨g, k * 4 + 2, none⟩ (.int .i64 e.to)).setCell ⟨g, k * 4 + 3, none⟩ (.int .i64 e.lb)).ownsRow base 108 4 (.slice (some ⟨g, 0, none⟩) n cap) n (ecells (xs.set k e)) := by
  rw [← ecells_set xs k hk e]
  exact ((((h.stored _ _).1.stored _ _).1.stored _ _).1.stored _ _).1
theorem filled_getE (xs : List Edg) (k i : Nat) (hk : k ≤ xs.length) (hi : i < xs.length) : i < (filled xs zeroE k).length := by rw [filled_length xs zeroE k hk]; exact hi

def EdgOut (w : World) (xs : List Edg) (e : Ending) (w' : World) : Prop := ∃ v, e = .returned v ∧ OwnE w.heap.size w' v xs ∧ Since w w'
set_option maxRecDepth 100000 in
theorem toEdgeS_any (v : Value) (xs : List Edg) (w : World) (h : EdgesAt w v xs) (hl : xs.length ≤ 1048577) :
    Calls Try.prog 75 #[v] w (EdgOut w xs) := by
  have HI := Lib.hid h.1
  obtain ⟨ao, cap0, rfl, HC⟩ := h.row
  clear h
  obtain ⟨i0, hi, hz0, hz1, hz2⟩ := info_parts info_edge
  have HZ2 := Lib.hid hz2
  clear hz2
  obtain ⟨n, hn⟩ : ∃ n, n = xs.length := ⟨_, rfl⟩
  rw [← hn]
  have hn9 : n ≤ 1048577 := by omega
  have HN := Lib.hid hn
  clear hn hl
  go_enter Try.func75, Try.ntmps75
  go_wp2_with (at_make; go_must (refine wpList_make_full _ rfl _ _ 25 rfl w.heap.size 108 i0 (ev zeroE) 4 Try.underlying25 hi hz0 hz1 .i64 .i64 _ _ n rfl rfl rfl rfl (by rw [HZ2.out]; omega) (by unfold maxLen; omega) (Nat.le_refl _) ?_); intro w1 hown hgrow)
  have hsin : Since w w1 := (Since.refl w).grown hgrow (fun _ h => by simp at h)
  have hrow : w1.ownsRow w.heap.size 108 4 (.slice (some ⟨w.heap.size, 0, none⟩) n n) n (ecells (filled xs zeroE 0)) := by
    rw [filled_zero, ← HN.out, ← made_edges]; exact hown
  clear hown hgrow
  go_loopw [4] (fun i wr => ∃ k : Nat, k ≤ n ∧ i = .int .i64 k ∧ wr.ownsRow w.heap.size 108 4 (.slice (some ⟨w.heap.size, 0, none⟩) n n) n (ecells (filled xs zeroE k)) ∧ Since w wr) (fun i _ => n - (intOf i).toNat)
  case atStart => exact ⟨0, Nat.zero_le _, rfl, hrow, hsin⟩
  case round =>
    obtain ⟨k, hk, rfl, hown, hsin⟩ := hrel
    by_cases hlt : k < n
    · have hx : k < xs.length := by have := HN.out; omega
      obtain ⟨b, off, rfl, hb, c0, c1, c2, c3⟩ := HC.out k hx
      have s1 := since_cells hsin hb
      rw [← s1] at c0 c1 c2 c3
      clear s1
      have HROW := Lib.hid hown
      clear hown
      go_wp2_with fail
      refine (toEdge_any xs[k] _).mono ?_
      rintro e w2 ⟨rfl, hs2⟩
      have hs3 := hsin.trans hs2
      have hown2 := rowKept HROW.out hs2
      have hfl : k < (filled xs zeroE k).length := filled_getE xs k k (by omega) hx
      obtain ⟨d0, d1, d2, d3⟩ := ownE_cells hown2 (by rw [filled_length _ _ _ (by omega)]; exact HN.out) k hfl
      have f0 := hown2.frozenAt (k * 4)
      have f1 := hown2.frozenAt (k * 4 + 1)
      have f2 := hown2.frozenAt (k * 4 + 2)
      have f3 := hown2.frozenAt (k * 4 + 3)
      have hst := row_set4 hown2 k hfl xs[k]
      rw [filled_set xs zeroE k hx] at hst
      have HST := Lib.hid hst
      clear hst hown2
      go_wp2
      go_roundw
      case rel => exact ⟨k + 1, by omega, by go_num, HST.out, (((hs3.setCell (Nat.le_refl _) _).setCell (Nat.le_refl _) _).setCell (Nat.le_refl _) _).setCell (Nat.le_refl _) _⟩
      case measure => simp [intOf]; omega
    · obtain rfl : k = n := by omega
      have hfin := filled_all xs zeroE k (by rw [← HN.out]; exact Nat.le_refl _)
      rw [hfin] at hown
      have HO : Hid (OwnE w.heap.size wr (.slice (some ⟨w.heap.size, 0, none⟩) k k) xs) := ⟨HI.out, by rw [← HN.out]; exact hown⟩
      clear hfin hown
      go_wp2
      go_ret
      exact ⟨_, rfl, HO.out, hsin⟩
end Go.Proofs.Ytilkheclimammaa
