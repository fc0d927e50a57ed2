/- The program's stepsOf; what it reads of traversals. -/
import Derived.Test.YtilkheclimammaaTrvD
namespace Go.Proofs.Ytilkheclimammaa
set_option maxRecDepth 100000
open Go.ChangeShapes Go.WideShapes Go.ChangeAt Go.RowKit
set_option linter.unusedVariables false
set_option linter.unusedSimpArgs false

theorem filledS_get (xs : List Stp) (k i : Nat) (hk : k ≤ xs.length) (hi : i < xs.length) : i < (filled xs zeroS k).length := by rw [filled_length xs zeroS k hk]; exact hi
theorem row_set2 {w : World} {base g n cap : Nat} {xs : List Stp} (h : w.ownsRow base 33 2 (.slice (some ⟨g, 0, none⟩) n cap) n (scells xs)) (k : Nat) (hk : k < xs.length) (e : Stp) :
    ((w.setCell ⟨g, k * 2, none⟩ (.int .i64 e.id)).setCell ⟨g, k * 2 + 1, none⟩ (.bool e.inv)).ownsRow base 33 2 (.slice (some ⟨g, 0, none⟩) n cap) n (scells (xs.set k e)) := by
  rw [← scells_set xs k hk e]
  exact ((h.stored _ _).1.stored _ _).1
theorem OwnSt.row {base n : Nat} {w : World} {v : Value} {xs : List Stp} (h : OwnSt base w v xs) (hn : n = xs.length) : w.ownsRow base 33 2 v n (scells xs) := by subst hn; exact h
theorem OwnSt.ofRow {base n : Nat} {w : World} {v : Value} {xs : List Stp} (h : w.ownsRow base 33 2 v n (scells xs)) (hn : n = xs.length) : OwnSt base w v xs := by subst hn; exact h
set_option maxHeartbeats 1000000 in
set_option maxRecDepth 100000 in
theorem stepsOf_any (v : Value) (xs : List Trv) (w : World) (h : TrvsAt w v xs) (hl : xs.length ≤ 2097154) :
    Calls Try.prog 57 #[v] w (StOut w (xs.map Trv.st)) := by
  obtain ⟨ao, cap0, rfl, HC⟩ := h
  obtain ⟨i0, hi, hz0, hz1, hz2⟩ := info_parts info_step
  have HZ2 := Lib.hid hz2
  clear hz2
  obtain ⟨n, hn⟩ : ∃ n, n = xs.length := ⟨_, rfl⟩
  rw [← hn]
  have hn9 : n ≤ 2097154 := by omega
  have HN := Lib.hid hn
  obtain ⟨ys, hys⟩ : ∃ ys, ys = xs.map Trv.st := ⟨_, rfl⟩
  rw [← hys]
  have HYL : Hid (n = ys.length) := by unfold Hid; rw [hys, List.length_map]; exact hn
  have HYG : Hid (∀ k (h : k < xs.length) (h2 : k < ys.length), ys[k] = (xs[k]).st) := fun k h h2 => by subst hys; simp
  clear hn hl hys
  go_enter Try.func57, Try.ntmps57
  go_wp2_with (at_make; go_must (refine wpList_make_full _ rfl _ _ 30 rfl w.heap.size 33 i0 (sv zeroS) 2 Try.underlying30 hi hz0 hz1 .i64 .i64 _ _ n rfl rfl rfl rfl (by rw [HZ2.out]; omega) (by unfold maxLen; omega) (Nat.le_refl _) ?_); intro w1 hown hgrow)
  have hsin : Since w w1 := (Since.refl w).grown hgrow (fun _ h => by simp at h)
  have hrow : w1.ownsRow w.heap.size 33 2 (.slice (some ⟨w.heap.size, 0, none⟩) n n) n (scells (filled ys zeroS 0)) := by
    rw [filled_zero, ← HYL.out]
    rw [made_steps] at hown
    exact hown
  clear hown hgrow
  go_loopw [11] (fun i wr => ∃ k : Nat, k ≤ n ∧ i = .int .i64 k ∧ wr.ownsRow w.heap.size 33 2 (.slice (some ⟨w.heap.size, 0, none⟩) n n) n (scells (filled ys zeroS k)) ∧ Since w wr) (fun i _ => n - (intOf i).toNat)
  case atStart => exact ⟨0, Nat.zero_le _, rfl, hrow, hsin⟩
  case round =>
    obtain ⟨k, hk, rfl, hown, hsin⟩ := hrel
    by_cases hlt : k < n
    · have hx : k < xs.length := by have := HN.out; omega
      have hy : k < ys.length := by have := HYL.out; omega
      obtain ⟨b, off, rfl, hb, c0, c1, c2, c3, c4⟩ := HC.out k hx
      have s1 := since_cells hsin hb
      rw [← s1] at c0 c1 c2 c3 c4
      clear s1
      have hs2 : Since wr (wr.alloc (.cells #[.int .i64 xs[k].id, .bool xs[k].inv, .int .i64 xs[k].fr, .int .i64 xs[k].dst, .int .i64 xs[k].le] 77)) := (Since.refl wr).alloc _
      have hown2 := row_since hown hs2
      have hfl : k < (filled ys zeroS k).length := filledS_get ys k k (by omega) hy
      obtain ⟨d0, d1⟩ := ownSt_cells hown2 (by rw [filled_length _ _ _ (by omega)]; exact HYL.out) k hfl
      have f0 := hown2.frozenAt (k * 2)
      have f1 := hown2.frozenAt (k * 2 + 1)
      have hst := row_set2 hown2 k hfl ys[k]
      rw [filled_set ys zeroS k hy] at hst
      rw [HYG.out k hx hy] at hst
      have HST := Lib.hid hst
      obtain ⟨zo, hzo⟩ : ∃ zo, zo = (filled ys zeroS k)[k]'hfl := ⟨_, rfl⟩
      rw [← hzo] at d0 d1
      clear hst hown2 hown hzo
      have hsw := (((hsin.trans hs2).setCell (a := ⟨w.heap.size, k * 2, none⟩) (Nat.le_refl _) (.int .i64 (xs[k]).st.id)).setCell (a := ⟨w.heap.size, k * 2 + 1, none⟩) (Nat.le_refl _) (.bool (xs[k]).st.inv))
      go_wp2
      go_roundw
      case rel => exact ⟨k + 1, by omega, by go_num, HST.out, hsw⟩
      case measure => simp [intOf]; omega
    · obtain rfl : k = n := by omega
      have hfin := filled_all ys zeroS k (by rw [← HYL.out]; exact Nat.le_refl _)
      rw [hfin] at hown
      have HO := Lib.hid (OwnSt.ofRow hown HYL.out)
      clear hfin hown
      go_wp2
      go_ret
      exact ⟨_, rfl, HO.out, hsin⟩
def fromS (g : Grf) (x : Int) : List Stp := ((travG g).filter (kpF x)).map Trv.st
def withS (g : Grf) (x y : Int) : List Stp := (((travG g).filter (kpF x)).filter (kpW y)).map Trv.st
theorem fromS_len (g : Grf) (x : Int) (h2 : g.es.length ≤ 1048577) : (fromS g x).length ≤ 2097154 := by
  unfold fromS; rw [List.length_map]
  exact Nat.le_trans (List.length_filter_le _ _) (travG_len g h2)
theorem withS_len (g : Grf) (x y : Int) (h2 : g.es.length ≤ 1048577) : (withS g x y).length ≤ 2097154 := by
  unfold withS; rw [List.length_map]
  exact Nat.le_trans (List.length_filter_le _ _) (Nat.le_trans (List.length_filter_le _ _) (travG_len g h2))
set_option maxRecDepth 100000 in
theorem implSF_any (v : Value) (g : Grf) (x : Int) (w : World) (h : GrfAt w v g) (h1 : g.vs.length ≤ 1048577) (h2 : g.es.length ≤ 1048577) :
    Calls Try.prog 14 #[v, .int .i64 x] w (StOut w (fromS g x)) := by
  have HG := Lib.hid h
  obtain ⟨a, b, rfl, ha, hb⟩ := h
  obtain ⟨ao, ac, rfl, _⟩ := ha.row
  obtain ⟨bo, bc, rfl⟩ := hb.len
  clear ha hb
  have hlen : Hid (((travG g).filter (kpF x)).length ≤ 2097154) := Nat.le_trans (List.length_filter_le _ _) (travG_len g h2)
  have hs0 : Since w (w.alloc (.cells #[.slice ao g.vs.length ac, .slice bo g.es.length bc] 27)) := (Since.refl w).alloc _
  go_enter Try.func14, Try.ntmps14
  go_wp2_with fail
  refine (travFrom_any _ g x _ (HG.out.since hs0) h1 h2).mono ?_
  rintro en w1 ⟨v1, rfl, ho1, hs1⟩
  have hs01 := hs0.trans hs1
  go_wp2_with fail
  refine (stepsOf_any _ _ _ ho1.at hlen.out).mono ?_
  rintro en w2 ⟨v2, rfl, ho2, hs2⟩
  have HO := Lib.hid (ho2.mono hs01.size)
  have hs02 := hs01.trans hs2
  clear ho2
  go_wp2
  go_ret
  exact ⟨_, rfl, HO.out, hs02⟩
set_option maxRecDepth 100000 in
theorem implSW_any (v : Value) (g : Grf) (x y : Int) (w : World) (h : GrfAt w v g) (h1 : g.vs.length ≤ 1048577) (h2 : g.es.length ≤ 1048577) :
    Calls Try.prog 22 #[v, .int .i64 x, .int .i64 y] w (StOut w (withS g x y)) := by
  have HG := Lib.hid h
  obtain ⟨a, b, rfl, ha, hb⟩ := h
  obtain ⟨ao, ac, rfl, _⟩ := ha.row
  obtain ⟨bo, bc, rfl⟩ := hb.len
  clear ha hb
  have hlen : Hid ((((travG g).filter (kpF x)).filter (kpW y)).length ≤ 2097154) := Nat.le_trans (List.length_filter_le _ _) (Nat.le_trans (List.length_filter_le _ _) (travG_len g h2))
  have hs0 : Since w (w.alloc (.cells #[.slice ao g.vs.length ac, .slice bo g.es.length bc] 27)) := (Since.refl w).alloc _
  go_enter Try.func22, Try.ntmps22
  go_wp2_with fail
  refine (travWith_any _ g x y _ (HG.out.since hs0) h1 h2).mono ?_
  rintro en w1 ⟨v1, rfl, ho1, hs1⟩
  have hs01 := hs0.trans hs1
  go_wp2_with fail
  refine (stepsOf_any _ _ _ ho1.at hlen.out).mono ?_
  rintro en w2 ⟨v2, rfl, ho2, hs2⟩
  have HO := Lib.hid (ho2.mono hs01.size)
  have hs02 := hs01.trans hs2
  clear ho2
  go_wp2
  go_ret
  exact ⟨_, rfl, HO.out, hs02⟩
end Go.Proofs.Ytilkheclimammaa
