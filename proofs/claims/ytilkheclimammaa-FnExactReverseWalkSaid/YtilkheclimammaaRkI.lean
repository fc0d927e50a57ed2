/- The program's ReverseWalk. -/
import Derived.Test.YtilkheclimammaaRvSt
import Derived.Test.YtilkheclimammaaWkR
namespace Go.Proofs.Ytilkheclimammaa
set_option maxRecDepth 100000
open Go.ChangeShapes Go.WideShapes Go.ChangeAt Go.RowKit
set_option linter.unusedVariables false
set_option linter.unusedSimpArgs false

theorem scells_flip (xs : List Stp) (i : Nat) (h : i < xs.length) (b : Bool) : (scells xs).set (i * 2 + 1) (.bool b) = scells (xs.set i ⟨(xs[i]).id, b⟩) := by
  rw [← scells_set xs i h ⟨(xs[i]).id, b⟩]
  have e : (scells xs).set (i * 2) (.int .i64 (xs[i]).id) = scells xs := by
    apply List.ext_getElem?
    intro j
    rw [List.getElem?_set]
    have h0 := fcells_at scs_len xs i 0 h (by omega)
    rw [Nat.add_zero] at h0
    by_cases hj : i * 2 = j
    · subst hj
      rw [if_pos rfl, if_pos (by rw [scells_length]; omega)]
      exact h0.symm
    · rw [if_neg hj]
  rw [e]
def flipT (rr : List Stp) (k : Nat) : List Stp := (rr.take k).map turnS ++ rr.drop k
theorem flipT_zero (rr : List Stp) : flipT rr 0 = rr := by simp [flipT]
theorem flipT_len (rr : List Stp) (k : Nat) : (flipT rr k).length = rr.length := by simp [flipT]; omega
theorem flipT_get (rr : List Stp) (k : Nat) (h : k < rr.length) : (flipT rr k)[k]'(by rw [flipT_len]; exact h) = rr[k] := by
  unfold flipT
  rw [List.getElem_append_right (by simp; omega), List.getElem_drop]
  congr 1; simp; omega
theorem flipT_set (rr : List Stp) (k : Nat) (h : k < rr.length) : (flipT rr k).set k (turnS rr[k]) = flipT rr (k + 1) := by
  unfold flipT
  rw [List.set_append, if_neg (by simp; omega), List.take_succ_eq_append_getElem h, List.map_append, List.drop_eq_getElem_cons h]
  have : k - ((rr.take k).map turnS).length = 0 := by simp; omega
  rw [this, List.set_cons_zero, List.append_assoc]; rfl
theorem flipT_all (ss : List Stp) : flipT ss.reverse ss.reverse.length = backS ss := by
  unfold flipT backS
  rw [List.take_of_length_le (Nat.le_refl _), List.drop_of_length_le (Nat.le_refl _), List.append_nil, List.map_reverse]
theorem wbOut_no {w w' : World} {g : Grf} {x : Wlk} (h : validW g x = false) (hs : Since w w') : WBOut w (revX g x) (validW g x) (.returned (.tuple #[.agg #[.int .i64 0, .slice none 0 0], .bool false])) w' := by
  have e : revX g x = ⟨0, []⟩ := by unfold revX; rw [h]; rfl
  rw [h, e]
  exact ⟨_, rfl, OwnW.mk (World.ownsRow_nil _ _ _ _), hs⟩
theorem wbOut_yes {w w' : World} {g : Grf} {x : Wlk} {b : Value} (h : validW g x = true) (ho : OwnSt w.heap.size w' b (backS x.ss)) (hs : Since w w') : WBOut w (revX g x) (validW g x) (.returned (.tuple #[.agg #[.int .i64 (endW g x), b], .bool true])) w' := by
  have e : revX g x = ⟨endW g x, backS x.ss⟩ := by unfold revX; rw [if_pos h]; rfl
  rw [h, e]
  exact ⟨_, rfl, OwnW.mk ho, hs⟩
set_option maxHeartbeats 2000000 in
set_option maxRecDepth 100000 in
theorem implRK_any (v u : Value) (g : Grf) (x : Wlk) (w : World) (h : GrfAt w v g) (hu : WlkAt w u x) (h1 : g.vs.length ≤ 1048577) (h2 : g.es.length ≤ 1048577) (h3 : x.ss.length ≤ 1048577) :
    Calls Try.prog 50 #[v, u] w (WBOut w (revX g x) (validW g x)) := by
  have HG := Lib.hid h
  have HU := Lib.hid hu
  obtain ⟨a, b, rfl, ha, hb⟩ := h
  obtain ⟨ao, ac, rfl, _⟩ := ha.row
  obtain ⟨bo, bc, rfl⟩ := hb.len
  obtain ⟨so, rfl, hss⟩ := hu
  have HSS := Lib.hid hss
  obtain ⟨sao, sac, rfl, _⟩ := hss
  clear ha hb
  obtain ⟨y, hy⟩ : ∃ y, y = (((w.alloc (.cells #[.slice ao g.vs.length ac, .slice bo g.es.length bc] 27)).alloc (.cells #[.int .i64 x.st, .slice sao x.ss.length sac] 53)).alloc (.cells #[.int .i64 0, .slice none 0 0] 53)) := ⟨_, rfl⟩
  have hs0 : Since w y := by rw [hy]; exact (((Since.refl w).alloc _).alloc _).alloc _
  have hz : w.heap.size + 1 + 1 + 1 = y.heap.size := by rw [hy]; simp
  have BG : Hid (Blk y w.heap.size 27 #[.slice ao g.vs.length ac, .slice bo g.es.length bc]) := by rw [hy]; exact ((Blk.new rfl _ _).alloc _).alloc _
  have BW : Hid (Blk y (w.heap.size + 1) 53 #[.int .i64 x.st, .slice sao x.ss.length sac]) := by rw [hy]; exact (Blk.new (by simp) _ _).alloc _
  have BR : Hid (Blk y (w.heap.size + 1 + 1) 53 #[.int .i64 0, .slice none 0 0]) := by rw [hy]; exact Blk.new (by simp) _ _
  rcases Bool.eq_false_or_eq_true (validW g x) with hv | hv
  · have HV := Lib.hid hv
    obtain ⟨n, hn⟩ : ∃ n, n = x.ss.length := ⟨_, rfl⟩
    have hn9 : n ≤ 1048577 := by omega
    have HN := Lib.hid hn
    have HRL : Hid (n = x.ss.reverse.length) := by unfold Hid; rw [List.length_reverse]; exact hn
    have HFA := Lib.hid (flipT_all x.ss)
    clear hv hn
    go_enter Try.func50, Try.ntmps50
    go_wp2_with fail
    rw [← hy]
    clear hy
    refine (implIVW_any _ _ g x _ (HG.out.since hs0) (HU.out.since hs0) h1 h2 h3).mono ?_
    rintro en w1 ⟨rfl, hs1⟩
    rw [HV.out]
    have hs01 := hs0.trans hs1
    have hz1 : w.heap.size + 1 + 1 + 1 ≤ w1.heap.size := by have := hs1.size; omega
    obtain ⟨p0, p1, _, _⟩ := (BG.out.since hs1).two
    obtain ⟨r0, r1, _, _⟩ := (BW.out.since hs1).two
    go_wp2_with fail
    clear p0 p1 r0 r1
    refine (copiedSt_any _ x.ss _ (HSS.out.since hs01) h3).mono ?_
    rintro en w2 ⟨gb, rfl, ho2, hs2⟩
    have HO2 := Lib.hid ho2
    have hgb : w1.heap.size ≤ gb := (HO2.out.lt gb rfl).1
    rw [← HN.out] at HO2 ⊢
    clear ho2
    go_wp2_with fail
    refine (reverse_any w1.heap.size gb n n x.ss _ HN.out HO2.out hn9).mono ?_
    rintro en w3 ⟨rfl, ho3, hg3⟩
    have hs3 : Since w1 w3 := hs2.grown hg3 (fun k hk => by injection hk with hk; omega)
    have HO3 := Lib.hid ho3
    clear ho3 hg3
    go_wp2_with fail
    go_loopw [20] (fun i wr => ∃ k : Nat, k ≤ n ∧ i = .int .i64 k ∧ Hid (OwnSt w1.heap.size wr (.slice (some ⟨gb, 0, none⟩) n n) (flipT x.ss.reverse k)) ∧ Since w1 wr) (fun i _ => n - (intOf i).toNat)
    case atStart => exact ⟨0, Nat.zero_le _, rfl, by rw [flipT_zero]; exact HO3.out, hs3⟩
    case round =>
      obtain ⟨k, hk, rfl, HOw, hsw⟩ := hrel
      have hs0w := hs01.trans hsw
      obtain ⟨p0, p1, _, _⟩ := (BG.out.since (hs1.trans hsw)).two
      obtain ⟨r0, r1, _, _⟩ := (BW.out.since (hs1.trans hsw)).two
      have HFL : Hid (n = (flipT x.ss.reverse k).length) := by unfold Hid; rw [flipT_len]; exact HRL.out
      by_cases hlt : k < n
      · have hx : k < x.ss.reverse.length := by have := HRL.out; omega
        have hxf : k < (flipT x.ss.reverse k).length := by have := HFL.out; omega
        have hown := HOw.out.row HFL.out
        obtain ⟨d0, d1⟩ := ownSt_cells hown HFL.out k hxf
        rw [flipT_get _ _ hx] at d0 d1
        have f1 := hown.frozenAt (k * 2 + 1)
        have hst := (hown.stored (k * 2 + 1) (.bool (!(x.ss.reverse[k]).inv))).1
        rw [scells_flip _ _ hxf, flipT_get _ _ hx] at hst
        have e : (flipT x.ss.reverse k).set k ⟨(x.ss.reverse[k]).id, !(x.ss.reverse[k]).inv⟩ = flipT x.ss.reverse (k + 1) := flipT_set _ _ hx
        rw [e] at hst
        have HST : Hid (OwnSt w1.heap.size (wr.setCell ⟨gb, k * 2 + 1, none⟩ (.bool (!(x.ss.reverse[k]).inv))) (.slice (some ⟨gb, 0, none⟩) n n) (flipT x.ss.reverse (k + 1))) := OwnSt.ofRow hst (by rw [flipT_len]; exact HRL.out)
        have kk0 : (0 : Int) ≤ (k : Int) := by omega
        have kk1 : (k : Int) < (n : Int) := by omega
        clear p0 p1 r0 r1 hst hown e
        generalize x.ss.reverse[k] = s at d0 d1 HST
        go_wp2
        go_roundw
        case rel => exact ⟨k + 1, by omega, by go_num, HST, hsw.setCell hgb _⟩
        case measure => simp [intOf]; omega
      · obtain rfl : k = n := by omega
        have HO : Hid (OwnSt w1.heap.size wr (.slice (some ⟨gb, 0, none⟩) k k) (backS x.ss)) := by
          have := HOw.out
          rw [HRL.out, HFA.out, ← HRL.out] at this
          exact this
        clear HOw
        go_wp2_with fail
        clear p0 p1 r0 r1
        refine (implWE_any _ _ g x _ (HG.out.since hs0w) (HU.out.since hs0w) h1 h2 h3).mono ?_
        rintro en w5 ⟨rfl, hs5⟩
        have hs05 := hs0w.trans hs5
        have HO5 := Lib.hid (HO.out.since hs5)
        obtain ⟨q0, q1, q2, q3⟩ := (BR.out.since ((hs1.trans hsw).trans hs5)).two
        go_wp2_with fail
        refine bodyPost_ret (v := .tuple #[.agg #[.int .i64 (endW g x), .slice (some ⟨gb, 0, none⟩) k k], .bool true]) (by simp [results, Try.results50, go_sem, *]) rfl ?_
        refine wbOut_yes HV.out (((HO5.out.far (by simp; omega) _).far (by simp; omega) _).mono (by omega)) ?_
        exact (hs05.setCell (by simp; omega) _).setCell (by simp; omega) _
  · have HV := Lib.hid hv
    clear hv
    go_enter Try.func50, Try.ntmps50
    go_wp2_with fail
    rw [← hy]
    clear hy
    refine (implIVW_any _ _ g x _ (HG.out.since hs0) (HU.out.since hs0) h1 h2 h3).mono ?_
    rintro en w1 ⟨rfl, hs1⟩
    rw [HV.out]
    have hs01 := hs0.trans hs1
    obtain ⟨q0, q1, q2, q3⟩ := (BR.out.since hs1).two
    go_wp2_with fail
    refine bodyPost_ret (v := .tuple #[.agg #[.int .i64 0, .slice none 0 0], .bool false]) (by simp [results, Try.results50, go_sem, *]) rfl ?_
    refine wbOut_no HV.out ?_
    exact (hs01.setCell (by simp; omega) _).setCell (by simp; omega) _
end Go.Proofs.Ytilkheclimammaa
