/- The law of steps, walked. -/
import Derived.Test.YtilkheclimammaaDrawD
import Derived.Test.YtilkheclimammaaFsM
import Derived.Test.YtilkheclimammaaHa
import Derived.Test.YtilkheclimammaaNaI
import Derived.Test.YtilkheclimammaaNaQ
import Derived.Test.YtilkheclimammaaK3
namespace Go.Proofs.Ytilkheclimammaa
set_option maxRecDepth 100000
open Go.ChangeShapes Go.WideShapes Go.ChangeAt Go.RowKit
set_option linter.unusedVariables false
set_option linter.unusedSimpArgs false

theorem mem_step {M : List Stp} {s : Stp} (q : Nat) (h : q < M.length) (c d : Bool) (hc : c = decide (s ∈ M.take q)) (hd : d = decide (M[q] = s)) : (c || d) = decide (s ∈ M.take (q + 1)) := by
  subst hc hd
  rw [List.take_succ_eq_append_getElem h]
  simp only [List.mem_append, List.mem_singleton, Bool.decide_or]
  congr 1
  exact decide_eq_decide.2 ⟨fun h => h.symm, fun h => h.symm⟩
set_option maxHeartbeats 4000000 in
set_option maxRecDepth 100000 in
theorem fnSteps_walk (v : Value) (w : World) (hv : CodeAt w.heap.size w v) :
    Calls Try.prog 3 #[v] w fun e w' => e = .returned (.bool true) ∧ Since w w' := by
  obtain ⟨ao0, len, cap, rfl, hlen, hcode⟩ := hv
  have HCODE := Lib.hid hcode
  clear hcode
  by_cases hbig : 1048576 < len
  · have hb : decide (1048576 < len) = true := by simp [hbig]
    have HB := Lib.hid hbig
    clear hbig
    go_enter Try.func3, Try.ntmps3
    go_wp2_with (go_at_call 12; refine (big_any _ _ _ _ hlen).mono ?_; rintro e w' ⟨rfl, rfl⟩)
    go_ret
    exact ⟨rfl, Since.refl _⟩
  · have hv0 : Hid (CodeIn w.heap.size w (.slice ao0 len cap)) := ⟨ao0, len, cap, rfl, by omega, HCODE.out⟩
    have hb : decide (1048576 < len) = false := by simp; omega
    have HB := Lib.hid hbig
    clear hbig
    go_enter Try.func3, Try.ntmps3
    go_wp2_with (go_at_call 12; refine (big_any _ _ _ _ hlen).mono ?_; rintro e w' ⟨rfl, rfl⟩)
    refine (drawSF_any w.heap.size w _ (Nat.le_refl _) hv0.out).mono ?_
    rintro e w1 ⟨vg, g, x, hx0, hx9, rfl, hog, hv5, he11, hs1⟩
    have HS1 := Lib.hid hs1
    have HOG := Lib.hid hog
    obtain ⟨va, vb, rfl, ha, _, hb2, _⟩ := hog
    obtain ⟨ao, ac, rfl⟩ := ha.len
    obtain ⟨bo, bc, rfl⟩ := hb2.len
    have g1 : g.vs.length ≤ 1048577 := by omega
    have g2 : g.es.length ≤ 1048577 := by omega
    clear ha hb2 hs1 hb
    obtain ⟨n, hn⟩ : ∃ n, n = g.vs.length := ⟨_, rfl⟩
    obtain ⟨m, hm⟩ : ∃ m, m = g.es.length := ⟨_, rfl⟩
    rw [← hn, ← hm] at HOG ⊢
    clear hn hm
    obtain ⟨y, hy⟩ : ∃ y, y = w1.alloc (.cells #[.slice ao n ac, .slice bo m bc] 27) := ⟨_, rfl⟩
    have hsy : Since w1 y := by rw [hy]; exact (Since.refl w1).alloc _
    have BG : Hid (Blk y w1.heap.size 27 #[.slice ao n ac, .slice bo m bc]) := by rw [hy]; exact Blk.new rfl _ _
    have HGy : Hid (GrfAt y (.agg #[.slice ao n ac, .slice bo m bc]) g) := (HOG.out.since hsy).at
    have HSy := Lib.hid (HS1.out.trans hsy)
    obtain ⟨p0, p1, _, _⟩ := BG.out.two
    rw [hy] at p0 p1
    clear hsy
    go_wp2_with fail
    rw [← hy]
    clear hy p0 p1
    refine (implSF_any _ g x _ HGy.out g1 g2).mono ?_
    rintro e w2 ⟨vl, rfl, hol, hs2⟩
    have HST := Lib.hid hol.at
    obtain ⟨lo, lc, rfl⟩ := hol.len
    clear hol
    have HMATH := Lib.hid (fun s (h : s ∈ fromS g x) => fs_math g x s h)
    have hSL : (fromS g x).length ≤ 2097154 := fromS_len g x g2
    obtain ⟨ss, hss⟩ : ∃ ss, ss = fromS g x := ⟨_, rfl⟩
    rw [← hss] at HST HMATH hSL ⊢
    obtain ⟨L, hL⟩ : ∃ L, L = ss.length := ⟨_, rfl⟩
    rw [← hL] at HST hSL ⊢
    have HL := Lib.hid hL
    have HSS := Lib.hid hss
    clear hL hss
    obtain ⟨p0, p1, _, _⟩ := (BG.out.since hs2).two
    go_wp2_with fail
    clear p0 p1
    refine (specSF_any _ g x _ (HGy.out.since hs2) g1 g2).mono ?_
    rintro e w3 ⟨vl2, rfl, hol2, hs3⟩
    obtain ⟨lo2, lc2, rfl⟩ := hol2.len
    clear hol2
    rw [← HSS.out, ← HL.out]
    have hsy3 := hs2.trans hs3
    have HCELL : Hid (∀ W, Since w3 W → ∀ i (h : i < ss.length), ∃ b off, lo = some ⟨b, off, none⟩ ∧ W.cell? ⟨b, off + i * 2, none⟩ = some (.int .i64 ss[i].id) ∧ W.cell? ⟨b, off + i * 2 + 1, none⟩ = some (.bool ss[i].inv)) := fun W hW i hi => by
      obtain ⟨lo', lc', he, HCS⟩ := HST.out.since (hs3.trans hW)
      injection he with e1 e2 e3
      subst e1
      obtain ⟨b, off, h1, _, h2, h3⟩ := HCS.out i hi
      exact ⟨b, off, h1, h2, h3⟩
    clear HST hs2 hs3
    go_wp2_with fail
    go_loopw [6] (fun i wr => ∃ k : Nat, k ≤ L ∧ i = .int .i64 k ∧ Since w3 wr) (fun i _ => L - (intOf i).toNat)
    case atStart => exact ⟨0, Nat.zero_le _, rfl, Since.refl _⟩
    case round =>
      obtain ⟨k, hk, rfl, hsw⟩ := hrel
      by_cases hlt : k < L
      · have hx : k < ss.length := by have := HL.out; omega
        obtain ⟨b, off, rfl, c0, c1⟩ := HCELL.out wr hsw k hx
        have HC : Hid (∀ w', Since wr w' → w'.cell? ⟨b, off + k * 2, none⟩ = some (.int .i64 ss[k].id) ∧ w'.cell? ⟨b, off + k * 2 + 1, none⟩ = some (.bool ss[k].inv)) := fun w' hW => by
          obtain ⟨b2, off2, e, d0, d1⟩ := HCELL.out w' (hsw.trans hW) k hx
          injection e with e
          injection e with e1 e2
          subst e1 e2
          exact ⟨d0, d1⟩
        obtain ⟨m1, m2, m3, m4, m5⟩ := HMATH.out ss[k] (List.getElem_mem hx)
        clear c0 c1
        generalize ss[k] = s at HC m1 m2 m3 m4 m5
        have HLs : Hid (∀ W, Since y W → Calls Try.prog 16 #[.agg #[.slice ao n ac, .slice bo m bc], .agg #[.int .i64 s.id, .bool s.inv]] W fun en w' => en = .returned (.int .i64 (tOf (travG g) s).le) ∧ Since W w') := fun W hW => implLtr_any _ g s W (HGy.out.since hW) g1 g2
        have HFs : Hid (∀ W, Since y W → Calls Try.prog 17 #[.agg #[.slice ao n ac, .slice bo m bc], .agg #[.int .i64 s.id, .bool s.inv]] W fun en w' => en = .returned (.int .i64 x) ∧ Since W w') := fun W hW => by have := implFrom_any _ g s W (HGy.out.since hW) g1 g2; rw [m1] at this; exact this
        have HTb : Hid (∀ W, Since y W → Calls Try.prog 18 #[.agg #[.slice ao n ac, .slice bo m bc], .agg #[.int .i64 s.id, .bool (!s.inv)]] W fun en w' => en = .returned (.int .i64 x) ∧ Since W w') := fun W hW => by have := implTo_any _ g (turnS s) W (HGy.out.since hW) g1 g2; rw [m2] at this; exact this
        have HLb : Hid (∀ W, Since y W → Calls Try.prog 16 #[.agg #[.slice ao n ac, .slice bo m bc], .agg #[.int .i64 s.id, .bool (!s.inv)]] W fun en w' => en = .returned (.int .i64 (invL (tOf (travG g) s).le)) ∧ Since W w') := fun W hW => by have := implLtr_any _ g (turnS s) W (HGy.out.since hW) g1 g2; rw [m3] at this; exact this
        have HTs : Hid (∀ W, Since y W → Calls Try.prog 18 #[.agg #[.slice ao n ac, .slice bo m bc], .agg #[.int .i64 s.id, .bool s.inv]] W fun en w' => en = .returned (.int .i64 (tOf (travG g) s).dst) ∧ Since W w') := fun W hW => implTo_any _ g s W (HGy.out.since hW) g1 g2
        have HIL : Hid (∀ W, Calls Try.prog 19 #[.int .i64 (tOf (travG g) s).le] W fun e w' => e = .returned (.int .i64 (invL (tOf (travG g) s).le)) ∧ Since W w') := fun W => (specIL_any _ W).mono fun e w' h => ⟨h.1, by rw [← h.2]; exact Since.refl _⟩
        have HNA : Hid (∀ W, Since y W → Calls Try.prog 21 #[.agg #[.slice ao n ac, .slice bo m bc], .int .i64 x, .int .i64 (tOf (travG g) s).le] W (OwnOut W (setL (endsL g x (tOf (travG g) s).le)))) := fun W hW => implNA_any _ g x _ W (HGy.out.since hW) g1 g2
        have HHas : Hid (∀ V W, IntsAt W V (setL (endsL g x (tOf (travG g) s).le)) → Calls Try.prog 20 #[V, .int .i64 (tOf (travG g) s).dst] W fun e w' => e = .returned (.bool true) ∧ Since W w') := fun V W h => (has_any V _ _ W h (by have := setL_len (endsL g x (tOf (travG g) s).le); omega)).mono fun e w' h => ⟨by rw [h.1, decide_eq_true m4], by rw [← h.2]; exact Since.refl _⟩
        have HSW : Hid (∀ W, Since y W → Calls Try.prog 22 #[.agg #[.slice ao n ac, .slice bo m bc], .int .i64 x, .int .i64 (tOf (travG g) s).le] W (StOut W (withS g x (tOf (travG g) s).le))) := fun W hW => implSW_any _ g x _ W (HGy.out.since hW) g1 g2
        have HM5 := Lib.hid m5
        have hML : (withS g x (tOf (travG g) s).le).length ≤ 2097154 := by
          unfold withS; rw [List.length_map]
          exact Nat.le_trans (List.length_filter_le _ _) (Nat.le_trans (List.length_filter_le _ _) (travG_len g g2))
        clear m1 m2 m3 m4 m5
        unfold OwnOut at HNA
        unfold StOut at HSW
        generalize (withS g x (tOf (travG g) s).le) = M at HSW HM5 hML
        generalize (setL (endsL g x (tOf (travG g) s).le)) = zs at HNA HHas
        generalize (tOf (travG g) s).dst = dd at HTs HHas
        generalize (tOf (travG g) s).le = nn at HLs HLb HIL HNA HSW
        generalize invL nn = iv at HLb HIL
        have exx : (x != x) = false := by simp
        have eii : (iv != iv) = false := by simp
        have hki : (k : Int) < (L : Int) := by omega
        go_wp2_with fail
        refine wp_region_held_drew (S := (fun w' => w'.cell? ⟨b, off + k * 2, none⟩ = some (.int .i64 s.id) ∧ w'.cell? ⟨b, off + k * 2 + 1, none⟩ = some (.bool s.inv))) (by kernel_rfl) (HC.out _ (Since.refl _).drew) (fun hHeld => ?_)
        refine take_yes 0 (some 38) (v := ?_) rfl (by kernel_rfl) (by kernel_rfl) (by kernel_rfl) (by kernel_rfl) (fun _ _ _ h => h) (by rfl) (by assumption) ?_ ?_
        rotate_left
        · (intro w' hSw; (try dsimp only at hSw); go_simp; try with_reducible rfl)
        try simp only [Act.put, List.setIfInBounds_toArray, List.set_cons_zero, List.set_cons_succ]
        refine take_yes 1 (some 39) (v := ?_) rfl (by kernel_rfl) (by kernel_rfl) (by kernel_rfl) (by kernel_rfl) (fun _ _ _ h => h) (by rfl) (by assumption) ?_ ?_
        rotate_left
        · (intro w' hSw; (try dsimp only at hSw); go_simp; try with_reducible rfl)
        try simp only [Act.put, List.setIfInBounds_toArray, List.set_cons_zero, List.set_cons_succ]
        refine take_yes 2 (some 40) (v := ?_) rfl (by kernel_rfl) (by kernel_rfl) (by kernel_rfl) (by kernel_rfl) (fun _ _ _ h => h) (by rfl) (by assumption) ?_ ?_
        rotate_left
        · (intro w' hSw; (try dsimp only at hSw); go_simp; try with_reducible rfl)
        try simp only [Act.put, List.setIfInBounds_toArray, List.set_cons_zero, List.set_cons_succ]
        refine take_yes 3 (some 41) (v := ?_) rfl (by kernel_rfl) (by kernel_rfl) (by kernel_rfl) (by kernel_rfl) (fun _ _ _ h => h) (by rfl) (by assumption) ?_ ?_
        rotate_left
        · (intro w' hSw; (try dsimp only at hSw); go_simp; try with_reducible rfl)
        try simp only [Act.put, List.setIfInBounds_toArray, List.set_cons_zero, List.set_cons_succ]
        refine take_yes 4 (some 42) (v := ?_) rfl (by kernel_rfl) (by kernel_rfl) (by kernel_rfl) (by kernel_rfl) (fun _ _ _ h => h) (by rfl) (by assumption) ?_ ?_
        rotate_left
        · (intro w' hSw; (try dsimp only at hSw); go_simp; try with_reducible rfl)
        try simp only [Act.put, List.setIfInBounds_toArray, List.set_cons_zero, List.set_cons_succ]
        refine take_yes 5 (some 43) (v := ?_) rfl (by kernel_rfl) (by kernel_rfl) (by kernel_rfl) (by kernel_rfl) (fun _ _ _ h => h) (by rfl) (by assumption) ?_ ?_
        rotate_left
        · (intro w' hSw; (try dsimp only at hSw); go_simp; try with_reducible rfl)
        try simp only [Act.put, List.setIfInBounds_toArray, List.set_cons_zero, List.set_cons_succ]
        refine take_yes 6 (some 44) (v := ?_) rfl (by kernel_rfl) (by kernel_rfl) (by kernel_rfl) (by kernel_rfl) (fun _ _ _ h => h) (by rfl) (by assumption) ?_ ?_
        rotate_left
        · (intro w' hSw; (try dsimp only at hSw); go_simp; try with_reducible rfl)
        try simp only [Act.put, List.setIfInBounds_toArray, List.set_cons_zero, List.set_cons_succ]
        refine take_yes 7 (some 45) (v := ?_) rfl (by kernel_rfl) (by kernel_rfl) (by kernel_rfl) (by kernel_rfl) (fun _ _ _ h => h) (by rfl) (by assumption) ?_ ?_
        rotate_left
        · (intro w' hSw; (try dsimp only at hSw); go_simp; try with_reducible rfl)
        try simp only [Act.put, List.setIfInBounds_toArray, List.set_cons_zero, List.set_cons_succ]
        refine take_yes 8 (some 46) (v := ?_) rfl (by kernel_rfl) (by kernel_rfl) (by kernel_rfl) (by kernel_rfl) (fun _ _ _ h => h) (by rfl) (by assumption) ?_ ?_
        rotate_left
        · (intro w' hSw; (try dsimp only at hSw); go_simp; try with_reducible rfl)
        try simp only [Act.put, List.setIfInBounds_toArray, List.set_cons_zero, List.set_cons_succ]
        refine take_yes 9 (some 47) (v := ?_) rfl (by kernel_rfl) (by kernel_rfl) (by kernel_rfl) (by kernel_rfl) (fun _ _ _ h => h) (by rfl) (by assumption) ?_ ?_
        rotate_left
        · (intro w' hSw; (try dsimp only at hSw); go_simp; try with_reducible rfl)
        try simp only [Act.put, List.setIfInBounds_toArray, List.set_cons_zero, List.set_cons_succ]
        refine take_yes 10 (some 48) (v := ?_) rfl (by kernel_rfl) (by kernel_rfl) (by kernel_rfl) (by kernel_rfl) (fun _ _ _ h => h) (by rfl) (by assumption) ?_ ?_
        rotate_left
        · (intro w' hSw; (try dsimp only at hSw); go_simp; try with_reducible rfl)
        try simp only [Act.put, List.setIfInBounds_toArray, List.set_cons_zero, List.set_cons_succ]
        refine take_yes 11 (some 49) (v := ?_) rfl (by kernel_rfl) (by kernel_rfl) (by kernel_rfl) (by kernel_rfl) (fun _ _ _ h => h) (by rfl) (by assumption) ?_ ?_
        rotate_left
        · (intro w' hSw; (try dsimp only at hSw); go_simp; try with_reducible rfl)
        try simp only [Act.put, List.setIfInBounds_toArray, List.set_cons_zero, List.set_cons_succ]
        refine take_run 12 rfl (by kernel_rfl) (by rfl) (fun K hK => ?_)
        go_simp
        have hsb : Since wr (wr.alloc (.cells #[.int .i64 0, .bool false] 33)).drew := ((Since.refl wr).alloc (.cells #[.int .i64 0, .bool false] 33)).drew
        have BA0 : Blk (wr.alloc (.cells #[.int .i64 0, .bool false] 33)).drew wr.heap.size 33 #[.int .i64 0, .bool false] := (Blk.new rfl _ _ : Blk (wr.alloc (.cells #[.int .i64 0, .bool false] 33)) _ _ _).drew
        refine hK.out _ _ (HC.out _ hsb) (fun hHeld1 => ?_)
        clear hK K hHeld
        try simp only [Act.put, List.setIfInBounds_toArray, List.set_cons_zero, List.set_cons_succ]
        obtain ⟨A, hA⟩ : ∃ A, A = wr.heap.size := ⟨_, rfl⟩
        rw [← hA] at BA0
        try rw [← hA]
        have hAl : wr.heap.size ≤ A := by omega
        clear hA
        generalize (wr.alloc (.cells #[.int .i64 0, .bool false] 33)).drew = wA0 at hsb BA0 hHeld1 ⊢
        refine take_run 13 rfl (by kernel_rfl) (by rfl) (fun K hK => ?_)
        obtain ⟨q0, q1, q2, q3⟩ := BA0.two
        go_simp
        clear q0 q1 q2 q3
        have BA := Lib.hid ((BA0.set 0 (.int .i64 s.id)).set 1 (.bool (!s.inv)))
        have hsA := (hsb.setCell (a := ⟨A, 0, none⟩) hAl (.int .i64 s.id)).setCell (a := ⟨A, 1, none⟩) hAl (.bool (!s.inv))
        refine hK.out _ _ (HC.out _ hsA) (fun hHeld2 => ?_)
        clear hK K hHeld1
        try simp only [Act.put, List.setIfInBounds_toArray, List.set_cons_zero, List.set_cons_succ]
        refine wpAnyH_done (by kernel_rfl) ?_ _
        clear hHeld2 hsb BA0
        generalize ((wA0.setCell ⟨A, 0, none⟩ (.int .i64 s.id)).setCell ⟨A, 1, none⟩ (.bool (!s.inv))) = wA at BA hsA ⊢
        have hsyA := hsy3.trans (hsw.trans hsA)
        have HK6 : Hid (∀ w', Since wA w' → w'.cell? ⟨w1.heap.size, 0, none⟩ = some (.slice ao n ac) ∧ w'.cell? ⟨w1.heap.size, 1, none⟩ = some (.slice bo m bc) ∧ w'.cell? ⟨b, off + k * 2, none⟩ = some (.int .i64 s.id) ∧ w'.cell? ⟨b, off + k * 2 + 1, none⟩ = some (.bool s.inv) ∧ w'.cell? ⟨A, 0, none⟩ = some (.int .i64 s.id) ∧ w'.cell? ⟨A, 1, none⟩ = some (.bool (!s.inv))) := by
          intro w' hW
          obtain ⟨r0, r1, _, _⟩ := (BG.out.since (hsyA.trans hW)).two
          obtain ⟨r2, r3, _, _⟩ := (BA.out.since hW).two
          exact ⟨r0, r1, (HC.out w' (hsA.trans hW)).1, (HC.out w' (hsA.trans hW)).2, r2, r3⟩
        go_wp2_with fail
        refine wp_region_held_drew (S := (fun w' => w'.cell? ⟨w1.heap.size, 0, none⟩ = some (.slice ao n ac) ∧ w'.cell? ⟨w1.heap.size, 1, none⟩ = some (.slice bo m bc) ∧ w'.cell? ⟨b, off + k * 2, none⟩ = some (.int .i64 s.id) ∧ w'.cell? ⟨b, off + k * 2 + 1, none⟩ = some (.bool s.inv) ∧ w'.cell? ⟨A, 0, none⟩ = some (.int .i64 s.id) ∧ w'.cell? ⟨A, 1, none⟩ = some (.bool (!s.inv)))) (by kernel_rfl) (HK6.out _ (Since.refl _).drew) (fun hHeld => ?_)
        refine take_yes 0 (some 50) (v := ?_) rfl (by kernel_rfl) (by kernel_rfl) (by kernel_rfl) (by kernel_rfl) (fun _ _ _ h => h) (by rfl) (by assumption) ?_ ?_
        rotate_left
        · (intro w' hSw; (try dsimp only at hSw); go_simp; try with_reducible rfl)
        try simp only [Act.put, List.setIfInBounds_toArray, List.set_cons_zero, List.set_cons_succ]
        refine take_yes 1 (some 51) (v := ?_) rfl (by kernel_rfl) (by kernel_rfl) (by kernel_rfl) (by kernel_rfl) (fun _ _ _ h => h) (by rfl) (by assumption) ?_ ?_
        rotate_left
        · (intro w' hSw; (try dsimp only at hSw); go_simp; try with_reducible rfl)
        try simp only [Act.put, List.setIfInBounds_toArray, List.set_cons_zero, List.set_cons_succ]
        refine take_yes 2 (some 52) (v := ?_) rfl (by kernel_rfl) (by kernel_rfl) (by kernel_rfl) (by kernel_rfl) (fun _ _ _ h => h) (by rfl) (by assumption) ?_ ?_
        rotate_left
        · (intro w' hSw; (try dsimp only at hSw); go_simp; try with_reducible rfl)
        try simp only [Act.put, List.setIfInBounds_toArray, List.set_cons_zero, List.set_cons_succ]
        refine take_yes 3 (some 53) (v := ?_) rfl (by kernel_rfl) (by kernel_rfl) (by kernel_rfl) (by kernel_rfl) (fun _ _ _ h => h) (by rfl) (by assumption) ?_ ?_
        rotate_left
        · (intro w' hSw; (try dsimp only at hSw); go_simp; try with_reducible rfl)
        try simp only [Act.put, List.setIfInBounds_toArray, List.set_cons_zero, List.set_cons_succ]
        refine take_yes 4 (some 54) (v := ?_) rfl (by kernel_rfl) (by kernel_rfl) (by kernel_rfl) (by kernel_rfl) (fun _ _ _ h => h) (by rfl) (by assumption) ?_ ?_
        rotate_left
        · (intro w' hSw; (try dsimp only at hSw); go_simp; try with_reducible rfl)
        try simp only [Act.put, List.setIfInBounds_toArray, List.set_cons_zero, List.set_cons_succ]
        refine take_run 5 rfl (by kernel_rfl) (by rfl) (fun K hK => ?_)
        go_simp
        refine (HLs.out _ (hsyA.trans ((Since.refl wA).drew))).mono ?_
        rintro en wq4 ⟨rfl, hq⟩
        have hc5 := ((Since.refl wA).drew).trans hq
        refine hK.out _ _ (HK6.out _ hc5) (fun hHeld3 => ?_)
        clear hK K hHeld hq
        try simp only [Act.put, List.setIfInBounds_toArray, List.set_cons_zero, List.set_cons_succ]
        refine take_yes 6 (some 8) (v := ?_) rfl (by kernel_rfl) (by kernel_rfl) (by kernel_rfl) (by kernel_rfl) (fun _ _ _ h => h) (by rfl) (by assumption) ?_ ?_
        rotate_left
        · (intro w' hSw; (try dsimp only at hSw); go_simp; try with_reducible rfl)
        try simp only [Act.put, List.setIfInBounds_toArray, List.set_cons_zero, List.set_cons_succ]
        refine wpAnyH_done (by kernel_rfl) ?_ _
        clear hHeld3
        have hcB := hc5
        go_wp2_with fail
        refine wp_region_held_drew (S := (fun w' => w'.cell? ⟨w1.heap.size, 0, none⟩ = some (.slice ao n ac) ∧ w'.cell? ⟨w1.heap.size, 1, none⟩ = some (.slice bo m bc) ∧ w'.cell? ⟨b, off + k * 2, none⟩ = some (.int .i64 s.id) ∧ w'.cell? ⟨b, off + k * 2 + 1, none⟩ = some (.bool s.inv) ∧ w'.cell? ⟨A, 0, none⟩ = some (.int .i64 s.id) ∧ w'.cell? ⟨A, 1, none⟩ = some (.bool (!s.inv)))) (by kernel_rfl) (HK6.out _ hcB.drew) (fun hHeld => ?_)
        refine take_yes 0 (some 56) (v := ?_) rfl (by kernel_rfl) (by kernel_rfl) (by kernel_rfl) (by kernel_rfl) (fun _ _ _ h => h) (by rfl) (by assumption) ?_ ?_
        rotate_left
        · (intro w' hSw; (try dsimp only at hSw); go_simp; try with_reducible rfl)
        try simp only [Act.put, List.setIfInBounds_toArray, List.set_cons_zero, List.set_cons_succ]
        refine take_yes 1 (some 57) (v := ?_) rfl (by kernel_rfl) (by kernel_rfl) (by kernel_rfl) (by kernel_rfl) (fun _ _ _ h => h) (by rfl) (by assumption) ?_ ?_
        rotate_left
        · (intro w' hSw; (try dsimp only at hSw); go_simp; try with_reducible rfl)
        try simp only [Act.put, List.setIfInBounds_toArray, List.set_cons_zero, List.set_cons_succ]
        refine take_yes 2 (some 58) (v := ?_) rfl (by kernel_rfl) (by kernel_rfl) (by kernel_rfl) (by kernel_rfl) (fun _ _ _ h => h) (by rfl) (by assumption) ?_ ?_
        rotate_left
        · (intro w' hSw; (try dsimp only at hSw); go_simp; try with_reducible rfl)
        try simp only [Act.put, List.setIfInBounds_toArray, List.set_cons_zero, List.set_cons_succ]
        refine take_yes 3 (some 59) (v := ?_) rfl (by kernel_rfl) (by kernel_rfl) (by kernel_rfl) (by kernel_rfl) (fun _ _ _ h => h) (by rfl) (by assumption) ?_ ?_
        rotate_left
        · (intro w' hSw; (try dsimp only at hSw); go_simp; try with_reducible rfl)
        try simp only [Act.put, List.setIfInBounds_toArray, List.set_cons_zero, List.set_cons_succ]
        refine take_yes 4 (some 60) (v := ?_) rfl (by kernel_rfl) (by kernel_rfl) (by kernel_rfl) (by kernel_rfl) (fun _ _ _ h => h) (by rfl) (by assumption) ?_ ?_
        rotate_left
        · (intro w' hSw; (try dsimp only at hSw); go_simp; try with_reducible rfl)
        try simp only [Act.put, List.setIfInBounds_toArray, List.set_cons_zero, List.set_cons_succ]
        refine take_yes 6 (some 62) (v := ?_) rfl (by kernel_rfl) (by kernel_rfl) (by kernel_rfl) (by kernel_rfl) (fun _ _ _ h => h) (by rfl) (by assumption) ?_ ?_
        rotate_left
        · (intro w' hSw; (try dsimp only at hSw); go_simp; try with_reducible rfl)
        try simp only [Act.put, List.setIfInBounds_toArray, List.set_cons_zero, List.set_cons_succ]
        refine take_run 5 rfl (by kernel_rfl) (by rfl) (fun K hK => ?_)
        go_simp
        refine (HFs.out _ (hsyA.trans (hcB.drew))).mono ?_
        rintro en wq7 ⟨rfl, hq⟩
        have hc8 := (hcB.drew).trans hq
        refine hK.out _ _ (HK6.out _ hc8) (fun hHeld6 => ?_)
        clear hK K hHeld hq
        try simp only [Act.put, List.setIfInBounds_toArray, List.set_cons_zero, List.set_cons_succ]
        refine take_yes 7 (some 63) (v := ?_) rfl (by kernel_rfl) (by kernel_rfl) (by kernel_rfl) (by kernel_rfl) (fun _ _ _ h => h) (by rfl) (by assumption) ?_ ?_
        rotate_left
        · (intro w' hSw; (try dsimp only at hSw); go_simp; try with_reducible rfl)
        try simp only [Act.put, List.setIfInBounds_toArray, List.set_cons_zero, List.set_cons_succ]
        refine take_yes 8 (some 64) (v := ?_) rfl (by kernel_rfl) (by kernel_rfl) (by kernel_rfl) (by kernel_rfl) (fun _ _ _ h => h) (by rfl) (by assumption) ?_ ?_
        rotate_left
        · (intro w' hSw; (try dsimp only at hSw); go_simp; try with_reducible rfl)
        try simp only [Act.put, List.setIfInBounds_toArray, List.set_cons_zero, List.set_cons_succ]
        refine take_yes 9 (some 65) (v := ?_) rfl (by kernel_rfl) (by kernel_rfl) (by kernel_rfl) (by kernel_rfl) (fun _ _ _ h => h) (by rfl) (by assumption) ?_ ?_
        rotate_left
        · (intro w' hSw; (try dsimp only at hSw); go_simp; try with_reducible rfl)
        try simp only [Act.put, List.setIfInBounds_toArray, List.set_cons_zero, List.set_cons_succ]
        refine take_yes 10 (some 66) (v := ?_) rfl (by kernel_rfl) (by kernel_rfl) (by kernel_rfl) (by kernel_rfl) (fun _ _ _ h => h) (by rfl) (by assumption) ?_ ?_
        rotate_left
        · (intro w' hSw; (try dsimp only at hSw); go_simp; try with_reducible rfl)
        try simp only [Act.put, List.setIfInBounds_toArray, List.set_cons_zero, List.set_cons_succ]
        refine take_yes 12 (some 68) (v := ?_) rfl (by kernel_rfl) (by kernel_rfl) (by kernel_rfl) (by kernel_rfl) (fun _ _ _ h => h) (by rfl) (by assumption) ?_ ?_
        rotate_left
        · (intro w' hSw; (try dsimp only at hSw); go_simp; try with_reducible rfl)
        try simp only [Act.put, List.setIfInBounds_toArray, List.set_cons_zero, List.set_cons_succ]
        refine take_run 11 rfl (by kernel_rfl) (by rfl) (fun K hK => ?_)
        go_simp
        refine (HTb.out _ (hsyA.trans (hc8))).mono ?_
        rintro en wq10 ⟨rfl, hq⟩
        have hc11 := (hc8).trans hq
        refine hK.out _ _ (HK6.out _ hc11) (fun hHeld9 => ?_)
        clear hK K hHeld6 hq
        try simp only [Act.put, List.setIfInBounds_toArray, List.set_cons_zero, List.set_cons_succ]
        refine take_yes 13 (some 69) (v := ?_) rfl (by kernel_rfl) (by kernel_rfl) (by kernel_rfl) (by kernel_rfl) (fun _ _ _ h => h) (by rfl) (by assumption) ?_ ?_
        rotate_left
        · (intro w' hSw; (try dsimp only at hSw); go_simp; try with_reducible rfl)
        try simp only [Act.put, List.setIfInBounds_toArray, List.set_cons_zero, List.set_cons_succ]
        refine take_yes 14 (some 70) (v := ?_) rfl (by kernel_rfl) (by kernel_rfl) (by kernel_rfl) (by kernel_rfl) (fun _ _ _ h => h) (by rfl) (by assumption) ?_ ?_
        rotate_left
        · (intro w' hSw; (try dsimp only at hSw); go_simp; try with_reducible rfl)
        try simp only [Act.put, List.setIfInBounds_toArray, List.set_cons_zero, List.set_cons_succ]
        refine take_yes 15 (some 71) (v := ?_) rfl (by kernel_rfl) (by kernel_rfl) (by kernel_rfl) (by kernel_rfl) (fun _ _ _ h => h) (by rfl) (by assumption) ?_ ?_
        rotate_left
        · (intro w' hSw; (try dsimp only at hSw); go_simp; try with_reducible rfl)
        try simp only [Act.put, List.setIfInBounds_toArray, List.set_cons_zero, List.set_cons_succ]
        refine take_yes 16 (some 72) (v := ?_) rfl (by kernel_rfl) (by kernel_rfl) (by kernel_rfl) (by kernel_rfl) (fun _ _ _ h => h) (by rfl) (by assumption) ?_ ?_
        rotate_left
        · (intro w' hSw; (try dsimp only at hSw); go_simp; try with_reducible rfl)
        try simp only [Act.put, List.setIfInBounds_toArray, List.set_cons_zero, List.set_cons_succ]
        refine take_yes 17 (some 73) (v := ?_) rfl (by kernel_rfl) (by kernel_rfl) (by kernel_rfl) (by kernel_rfl) (fun _ _ _ h => h) (by rfl) (by assumption) ?_ ?_
        rotate_left
        · (intro w' hSw; (try dsimp only at hSw); go_simp; try with_reducible rfl)
        try simp only [Act.put, List.setIfInBounds_toArray, List.set_cons_zero, List.set_cons_succ]
        refine take_yes 19 (some 75) (v := ?_) rfl (by kernel_rfl) (by kernel_rfl) (by kernel_rfl) (by kernel_rfl) (fun _ _ _ h => h) (by rfl) (by assumption) ?_ ?_
        rotate_left
        · (intro w' hSw; (try dsimp only at hSw); go_simp; try with_reducible rfl)
        try simp only [Act.put, List.setIfInBounds_toArray, List.set_cons_zero, List.set_cons_succ]
        refine take_run 18 rfl (by kernel_rfl) (by rfl) (fun K hK => ?_)
        go_simp
        refine (HLb.out _ (hsyA.trans (hc11))).mono ?_
        rintro en wq13 ⟨rfl, hq⟩
        have hc14 := (hc11).trans hq
        refine hK.out _ _ (HK6.out _ hc14) (fun hHeld12 => ?_)
        clear hK K hHeld9 hq
        try simp only [Act.put, List.setIfInBounds_toArray, List.set_cons_zero, List.set_cons_succ]
        refine take_run 20 rfl (by kernel_rfl) (by rfl) (fun K hK => ?_)
        go_simp
        refine (HIL.out _).mono ?_
        rintro en wq16 ⟨rfl, hq⟩
        have hc17 := (hc14).trans hq
        refine hK.out _ _ (HK6.out _ hc17) (fun hHeld15 => ?_)
        clear hK K hHeld12 hq
        try simp only [Act.put, List.setIfInBounds_toArray, List.set_cons_zero, List.set_cons_succ]
        refine take_yes 21 (some 77) (v := ?_) rfl (by kernel_rfl) (by kernel_rfl) (by kernel_rfl) (by kernel_rfl) (fun _ _ _ h => h) (by rfl) (by assumption) ?_ ?_
        rotate_left
        · (intro w' hSw; (try dsimp only at hSw); go_simp; try with_reducible rfl)
        try simp only [Act.put, List.setIfInBounds_toArray, List.set_cons_zero, List.set_cons_succ]
        refine take_yes 22 (some 78) (v := ?_) rfl (by kernel_rfl) (by kernel_rfl) (by kernel_rfl) (by kernel_rfl) (fun _ _ _ h => h) (by rfl) (by assumption) ?_ ?_
        rotate_left
        · (intro w' hSw; (try dsimp only at hSw); go_simp; try with_reducible rfl)
        try simp only [Act.put, List.setIfInBounds_toArray, List.set_cons_zero, List.set_cons_succ]
        refine take_yes 23 (some 79) (v := ?_) rfl (by kernel_rfl) (by kernel_rfl) (by kernel_rfl) (by kernel_rfl) (fun _ _ _ h => h) (by rfl) (by assumption) ?_ ?_
        rotate_left
        · (intro w' hSw; (try dsimp only at hSw); go_simp; try with_reducible rfl)
        try simp only [Act.put, List.setIfInBounds_toArray, List.set_cons_zero, List.set_cons_succ]
        refine take_yes 24 (some 80) (v := ?_) rfl (by kernel_rfl) (by kernel_rfl) (by kernel_rfl) (by kernel_rfl) (fun _ _ _ h => h) (by rfl) (by assumption) ?_ ?_
        rotate_left
        · (intro w' hSw; (try dsimp only at hSw); go_simp; try with_reducible rfl)
        try simp only [Act.put, List.setIfInBounds_toArray, List.set_cons_zero, List.set_cons_succ]
        refine take_yes 25 (some 81) (v := ?_) rfl (by kernel_rfl) (by kernel_rfl) (by kernel_rfl) (by kernel_rfl) (fun _ _ _ h => h) (by rfl) (by assumption) ?_ ?_
        rotate_left
        · (intro w' hSw; (try dsimp only at hSw); go_simp; try with_reducible rfl)
        try simp only [Act.put, List.setIfInBounds_toArray, List.set_cons_zero, List.set_cons_succ]
        refine take_yes 26 (some 82) (v := ?_) rfl (by kernel_rfl) (by kernel_rfl) (by kernel_rfl) (by kernel_rfl) (fun _ _ _ h => h) (by rfl) (by assumption) ?_ ?_
        rotate_left
        · (intro w' hSw; (try dsimp only at hSw); go_simp; try with_reducible rfl)
        try simp only [Act.put, List.setIfInBounds_toArray, List.set_cons_zero, List.set_cons_succ]
        refine take_yes 28 (some 84) (v := ?_) rfl (by kernel_rfl) (by kernel_rfl) (by kernel_rfl) (by kernel_rfl) (fun _ _ _ h => h) (by rfl) (by assumption) ?_ ?_
        rotate_left
        · (intro w' hSw; (try dsimp only at hSw); go_simp; try with_reducible rfl)
        try simp only [Act.put, List.setIfInBounds_toArray, List.set_cons_zero, List.set_cons_succ]
        refine take_yes 29 (some 85) (v := ?_) rfl (by kernel_rfl) (by kernel_rfl) (by kernel_rfl) (by kernel_rfl) (fun _ _ _ h => h) (by rfl) (by assumption) ?_ ?_
        rotate_left
        · (intro w' hSw; (try dsimp only at hSw); go_simp; try with_reducible rfl)
        try simp only [Act.put, List.setIfInBounds_toArray, List.set_cons_zero, List.set_cons_succ]
        refine take_yes 30 (some 86) (v := ?_) rfl (by kernel_rfl) (by kernel_rfl) (by kernel_rfl) (by kernel_rfl) (fun _ _ _ h => h) (by rfl) (by assumption) ?_ ?_
        rotate_left
        · (intro w' hSw; (try dsimp only at hSw); go_simp; try with_reducible rfl)
        try simp only [Act.put, List.setIfInBounds_toArray, List.set_cons_zero, List.set_cons_succ]
        refine take_yes 31 (some 87) (v := ?_) rfl (by kernel_rfl) (by kernel_rfl) (by kernel_rfl) (by kernel_rfl) (fun _ _ _ h => h) (by rfl) (by assumption) ?_ ?_
        rotate_left
        · (intro w' hSw; (try dsimp only at hSw); go_simp; try with_reducible rfl)
        try simp only [Act.put, List.setIfInBounds_toArray, List.set_cons_zero, List.set_cons_succ]
        refine take_yes 32 (some 88) (v := ?_) rfl (by kernel_rfl) (by kernel_rfl) (by kernel_rfl) (by kernel_rfl) (fun _ _ _ h => h) (by rfl) (by assumption) ?_ ?_
        rotate_left
        · (intro w' hSw; (try dsimp only at hSw); go_simp; try with_reducible rfl)
        try simp only [Act.put, List.setIfInBounds_toArray, List.set_cons_zero, List.set_cons_succ]
        refine take_run 27 rfl (by kernel_rfl) (by rfl) (fun K hK => ?_)
        go_simp
        refine (HNA.out _ (hsyA.trans (hc17))).mono ?_
        rintro en wq19 ⟨vz, rfl, hoz, hq⟩
        have hc20 := (hc17).trans hq
        have HOZ := Lib.hid hoz
        clear hoz
        refine hK.out _ _ (HK6.out _ hc20) (fun hHeld18 => ?_)
        clear hK K hHeld15 hq
        try simp only [Act.put, List.setIfInBounds_toArray, List.set_cons_zero, List.set_cons_succ]
        refine take_run 33 rfl (by kernel_rfl) (by rfl) (fun K hK => ?_)
        go_simp
        refine (HTs.out _ (hsyA.trans (hc20))).mono ?_
        rintro en wq22 ⟨rfl, hq⟩
        have hc23 := (hc20).trans hq
        have HOZ2 := Lib.hid (HOZ.out.since hq)
        refine hK.out _ _ (HK6.out _ hc23) (fun hHeld21 => ?_)
        clear hK K hHeld18 hq
        try simp only [Act.put, List.setIfInBounds_toArray, List.set_cons_zero, List.set_cons_succ]
        refine take_run 34 rfl (by kernel_rfl) (by rfl) (fun K hK => ?_)
        go_simp
        refine (HHas.out _ _ HOZ2.out.at).mono ?_
        rintro en wq25 ⟨rfl, hq⟩
        have hc26 := (hc23).trans hq
        refine hK.out _ _ (HK6.out _ hc26) (fun hHeld24 => ?_)
        clear hK K hHeld21 hq
        try simp only [Act.put, List.setIfInBounds_toArray, List.set_cons_zero, List.set_cons_succ]
        refine take_yes 35 (some 91) (v := ?_) rfl (by kernel_rfl) (by kernel_rfl) (by kernel_rfl) (by kernel_rfl) (fun _ _ _ h => h) (by rfl) (by assumption) ?_ ?_
        rotate_left
        · (intro w' hSw; (try dsimp only at hSw); go_simp; try with_reducible rfl)
        try simp only [Act.put, List.setIfInBounds_toArray, List.set_cons_zero, List.set_cons_succ]
        refine take_yes 36 (some 92) (v := ?_) rfl (by kernel_rfl) (by kernel_rfl) (by kernel_rfl) (by kernel_rfl) (fun _ _ _ h => h) (by rfl) (by assumption) ?_ ?_
        rotate_left
        · (intro w' hSw; (try dsimp only at hSw); go_simp; try with_reducible rfl)
        try simp only [Act.put, List.setIfInBounds_toArray, List.set_cons_zero, List.set_cons_succ]
        refine wpAnyH_done (by kernel_rfl) ?_ _
        clear hHeld24 HOZ HOZ2
        have hcC := hc26
        obtain ⟨p0, p1, _, _⟩ := (BG.out.since (hsyA.trans hcC)).two
        go_wp2_with fail
        clear p0 p1
        refine (HSW.out _ (hsyA.trans hcC)).mono ?_
        rintro e w5 ⟨vm, rfl, hom, hs5⟩
        have HOM := Lib.hid hom.at
        obtain ⟨mo, mc, rfl⟩ := hom.len
        clear hom
        obtain ⟨Q, hQ⟩ : ∃ Q, Q = M.length := ⟨_, rfl⟩
        rw [← hQ] at HOM hML ⊢
        have HQ := Lib.hid hQ
        clear hQ
        have hc5 := hcC.trans hs5
        go_wp2_with fail
        go_loopw [10, 11] (fun f i wz => ∃ (q : Nat) (c : Bool), q ≤ Q ∧ i = .int .i64 q ∧ f = .bool c ∧ Hid (c = decide (s ∈ M.take q)) ∧ Since w5 wz) (fun _ i _ => Q - (intOf i).toNat)
        case atStart => exact ⟨0, false, Nat.zero_le _, rfl, rfl, by unfold Hid; simp, Since.refl _⟩
        case round =>
          obtain ⟨q, c, hq, rfl, rfl, HCQ, hsz⟩ := hrel
          by_cases hlq : q < Q
          · have hqx : q < M.length := by have := HQ.out; omega
            obtain ⟨mo', mc', he, HMS⟩ := HOM.out.since hsz
            injection he with e1 e2 e3
            subst e1
            clear e2 e3
            obtain ⟨b3, off3, rfl, hb3, d0, d1⟩ := HMS.out q hqx
            obtain ⟨c0, c1⟩ := HC.out wr (hsA.trans (hc5.trans hsz))
            have hqi : (q : Int) < (Q : Int) := by omega
            have heq := fun W => eql_step M[q] s W
            have HNX := Lib.hid (mem_step q hqx c _ HCQ.out rfl)
            generalize decide (M[q] = s) = d at heq HNX
            generalize M[q] = t at d0 d1 heq
            clear HMS HCQ
            have HKZ : Hid (∀ w', Since wr w' → w'.cell? ⟨b3, off3 + q * 2, none⟩ = some (.int .i64 t.id) ∧ w'.cell? ⟨b3, off3 + q * 2 + 1, none⟩ = some (.bool t.inv) ∧ w'.cell? ⟨b, off + k * 2, none⟩ = some (.int .i64 s.id) ∧ w'.cell? ⟨b, off + k * 2 + 1, none⟩ = some (.bool s.inv)) := fun w' hW => ⟨(Below.cell hW (p := ⟨b3, off3 + q * 2, none⟩) hb3).trans d0, (Below.cell hW (p := ⟨b3, off3 + q * 2 + 1, none⟩) hb3).trans d1, HC.out w' (hsA.trans ((hc5.trans hsz).trans hW))⟩
            rcases Bool.eq_false_or_eq_true c with rfl | rfl
            · go_wp2_with fail
              refine wp_region_held_drew (S := (fun w' => w'.cell? ⟨b3, off3 + q * 2, none⟩ = some (.int .i64 t.id) ∧ w'.cell? ⟨b3, off3 + q * 2 + 1, none⟩ = some (.bool t.inv) ∧ w'.cell? ⟨b, off + k * 2, none⟩ = some (.int .i64 s.id) ∧ w'.cell? ⟨b, off + k * 2 + 1, none⟩ = some (.bool s.inv))) (by kernel_rfl) (HKZ.out _ (Since.refl _).drew) (fun hHeld => ?_)
              refine take_yes 0 (some 103) (v := ?_) rfl (by kernel_rfl) (by kernel_rfl) (by kernel_rfl) (by kernel_rfl) (fun _ _ _ h => h) (by rfl) (by assumption) ?_ ?_
              rotate_left
              · (intro w' hSw; (try dsimp only at hSw); go_simp; try with_reducible rfl)
              try simp only [Act.put, List.setIfInBounds_toArray, List.set_cons_zero, List.set_cons_succ]
              refine take_yes 1 (some 104) (v := ?_) rfl (by kernel_rfl) (by kernel_rfl) (by kernel_rfl) (by kernel_rfl) (fun _ _ _ h => h) (by rfl) (by assumption) ?_ ?_
              rotate_left
              · (intro w' hSw; (try dsimp only at hSw); go_simp; try with_reducible rfl)
              try simp only [Act.put, List.setIfInBounds_toArray, List.set_cons_zero, List.set_cons_succ]
              refine take_no 2 (some 105) rfl (by kernel_rfl) (by kernel_rfl) (by kernel_rfl) (by kernel_rfl) (fun _ _ _ h => h) (by rfl) (by assumption) ?_
              try simp only [Act.put, List.setIfInBounds_toArray, List.set_cons_zero, List.set_cons_succ]
              refine take_no 3 (some 106) rfl (by kernel_rfl) (by kernel_rfl) (by kernel_rfl) (by kernel_rfl) (fun _ _ _ h => h) (by rfl) (by assumption) ?_
              try simp only [Act.put, List.setIfInBounds_toArray, List.set_cons_zero, List.set_cons_succ]
              refine take_no 4 (some 107) rfl (by kernel_rfl) (by kernel_rfl) (by kernel_rfl) (by kernel_rfl) (fun _ _ _ h => h) (by rfl) (by assumption) ?_
              try simp only [Act.put, List.setIfInBounds_toArray, List.set_cons_zero, List.set_cons_succ]
              refine take_no 5 (some 108) rfl (by kernel_rfl) (by kernel_rfl) (by kernel_rfl) (by kernel_rfl) (fun _ _ _ h => h) (by rfl) (by assumption) ?_
              try simp only [Act.put, List.setIfInBounds_toArray, List.set_cons_zero, List.set_cons_succ]
              refine take_no 6 (some 109) rfl (by kernel_rfl) (by kernel_rfl) (by kernel_rfl) (by kernel_rfl) (fun _ _ _ h => h) (by rfl) (by assumption) ?_
              try simp only [Act.put, List.setIfInBounds_toArray, List.set_cons_zero, List.set_cons_succ]
              refine take_no 7 (some 110) rfl (by kernel_rfl) (by kernel_rfl) (by kernel_rfl) (by kernel_rfl) (fun _ _ _ h => h) (by rfl) (by assumption) ?_
              try simp only [Act.put, List.setIfInBounds_toArray, List.set_cons_zero, List.set_cons_succ]
              refine take_no 8 (some 111) rfl (by kernel_rfl) (by kernel_rfl) (by kernel_rfl) (by kernel_rfl) (fun _ _ _ h => h) (by rfl) (by assumption) ?_
              try simp only [Act.put, List.setIfInBounds_toArray, List.set_cons_zero, List.set_cons_succ]
              refine take_no 9 (some 112) rfl (by kernel_rfl) (by kernel_rfl) (by kernel_rfl) (by kernel_rfl) (fun _ _ _ h => h) (by rfl) (by assumption) ?_
              try simp only [Act.put, List.setIfInBounds_toArray, List.set_cons_zero, List.set_cons_succ]
              refine take_no 10 (some 113) rfl (by kernel_rfl) (by kernel_rfl) (by kernel_rfl) (by kernel_rfl) (fun _ _ _ h => h) (by rfl) (by assumption) ?_
              try simp only [Act.put, List.setIfInBounds_toArray, List.set_cons_zero, List.set_cons_succ]
              refine take_yes 11 (some 114) (v := ?_) rfl (by kernel_rfl) (by kernel_rfl) (by kernel_rfl) (by kernel_rfl) (fun _ _ _ h => h) (by rfl) (by assumption) ?_ ?_
              rotate_left
              · (intro w' hSw; (try dsimp only at hSw); go_simp; try with_reducible rfl)
              try simp only [Act.put, List.setIfInBounds_toArray, List.set_cons_zero, List.set_cons_succ]
              refine take_yes 12 (some 10) (v := ?_) rfl (by kernel_rfl) (by kernel_rfl) (by kernel_rfl) (by kernel_rfl) (fun _ _ _ h => h) (by rfl) (by assumption) ?_ ?_
              rotate_left
              · (intro w' hSw; (try dsimp only at hSw); go_simp; try with_reducible rfl)
              try simp only [Act.put, List.setIfInBounds_toArray, List.set_cons_zero, List.set_cons_succ]
              refine wpAnyH_done (by kernel_rfl) ?_ _
              clear hHeld
              go_wp2_with fail
              go_roundw
              case rel => exact ⟨q + 1, true, by omega, by go_num, rfl, by have := HNX.out; unfold Hid; simpa using this, hsz.drew⟩
              case measure => simp [intOf]; omega
            · go_wp2_with fail
              refine wp_region_held_drew (S := (fun w' => w'.cell? ⟨b3, off3 + q * 2, none⟩ = some (.int .i64 t.id) ∧ w'.cell? ⟨b3, off3 + q * 2 + 1, none⟩ = some (.bool t.inv) ∧ w'.cell? ⟨b, off + k * 2, none⟩ = some (.int .i64 s.id) ∧ w'.cell? ⟨b, off + k * 2 + 1, none⟩ = some (.bool s.inv))) (by kernel_rfl) (HKZ.out _ (Since.refl _).drew) (fun hHeld => ?_)
              refine take_yes 0 (some 103) (v := ?_) rfl (by kernel_rfl) (by kernel_rfl) (by kernel_rfl) (by kernel_rfl) (fun _ _ _ h => h) (by rfl) (by assumption) ?_ ?_
              rotate_left
              · (intro w' hSw; (try dsimp only at hSw); go_simp; try with_reducible rfl)
              try simp only [Act.put, List.setIfInBounds_toArray, List.set_cons_zero, List.set_cons_succ]
              refine take_yes 1 (some 104) (v := ?_) rfl (by kernel_rfl) (by kernel_rfl) (by kernel_rfl) (by kernel_rfl) (fun _ _ _ h => h) (by rfl) (by assumption) ?_ ?_
              rotate_left
              · (intro w' hSw; (try dsimp only at hSw); go_simp; try with_reducible rfl)
              try simp only [Act.put, List.setIfInBounds_toArray, List.set_cons_zero, List.set_cons_succ]
              refine take_yes 2 (some 105) (v := ?_) rfl (by kernel_rfl) (by kernel_rfl) (by kernel_rfl) (by kernel_rfl) (fun _ _ _ h => h) (by rfl) (by assumption) ?_ ?_
              rotate_left
              · (intro w' hSw; (try dsimp only at hSw); go_simp; try with_reducible rfl)
              try simp only [Act.put, List.setIfInBounds_toArray, List.set_cons_zero, List.set_cons_succ]
              refine take_yes 3 (some 106) (v := ?_) rfl (by kernel_rfl) (by kernel_rfl) (by kernel_rfl) (by kernel_rfl) (fun _ _ _ h => h) (by rfl) (by assumption) ?_ ?_
              rotate_left
              · (intro w' hSw; (try dsimp only at hSw); go_simp; try with_reducible rfl)
              try simp only [Act.put, List.setIfInBounds_toArray, List.set_cons_zero, List.set_cons_succ]
              refine take_yes 4 (some 107) (v := ?_) rfl (by kernel_rfl) (by kernel_rfl) (by kernel_rfl) (by kernel_rfl) (fun _ _ _ h => h) (by rfl) (by assumption) ?_ ?_
              rotate_left
              · (intro w' hSw; (try dsimp only at hSw); go_simp; try with_reducible rfl)
              try simp only [Act.put, List.setIfInBounds_toArray, List.set_cons_zero, List.set_cons_succ]
              refine take_yes 5 (some 108) (v := ?_) rfl (by kernel_rfl) (by kernel_rfl) (by kernel_rfl) (by kernel_rfl) (fun _ _ _ h => h) (by rfl) (by assumption) ?_ ?_
              rotate_left
              · (intro w' hSw; (try dsimp only at hSw); go_simp; try with_reducible rfl)
              try simp only [Act.put, List.setIfInBounds_toArray, List.set_cons_zero, List.set_cons_succ]
              refine take_yes 6 (some 109) (v := ?_) rfl (by kernel_rfl) (by kernel_rfl) (by kernel_rfl) (by kernel_rfl) (fun _ _ _ h => h) (by rfl) (by assumption) ?_ ?_
              rotate_left
              · (intro w' hSw; (try dsimp only at hSw); go_simp; try with_reducible rfl)
              try simp only [Act.put, List.setIfInBounds_toArray, List.set_cons_zero, List.set_cons_succ]
              refine take_yes 7 (some 110) (v := ?_) rfl (by kernel_rfl) (by kernel_rfl) (by kernel_rfl) (by kernel_rfl) (fun _ _ _ h => h) (by rfl) (by assumption) ?_ ?_
              rotate_left
              · (intro w' hSw; (try dsimp only at hSw); go_simp; try with_reducible rfl)
              try simp only [Act.put, List.setIfInBounds_toArray, List.set_cons_zero, List.set_cons_succ]
              refine take_yes 8 (some 111) (v := ?_) rfl (by kernel_rfl) (by kernel_rfl) (by kernel_rfl) (by kernel_rfl) (fun _ _ _ h => h) (by rfl) (by assumption) ?_ ?_
              rotate_left
              · (intro w' hSw; (try dsimp only at hSw); go_simp; try with_reducible rfl)
              try simp only [Act.put, List.setIfInBounds_toArray, List.set_cons_zero, List.set_cons_succ]
              refine take_yes 9 (some 112) (v := ?_) rfl (by kernel_rfl) (by kernel_rfl) (by kernel_rfl) (by kernel_rfl) (fun _ _ _ h => h) (by rfl) (by assumption) ?_ ?_
              rotate_left
              · (intro w' hSw; (try dsimp only at hSw); go_simp; try with_reducible rfl)
              try simp only [Act.put, List.setIfInBounds_toArray, List.set_cons_zero, List.set_cons_succ]
              refine take_yes 10 (some 113) (v := ?_) rfl (by kernel_rfl) (by kernel_rfl) (by kernel_rfl) (by kernel_rfl) (fun _ _ _ h => h) (by rfl) (by assumption) ?_ ?_
              rotate_left
              · (intro w' hSw; (try dsimp only at hSw); go_simp; try with_reducible rfl)
              try simp only [Act.put, List.setIfInBounds_toArray, List.set_cons_zero, List.set_cons_succ]
              refine take_yes 11 (some 114) (v := ?_) rfl (by kernel_rfl) (by kernel_rfl) (by kernel_rfl) (by kernel_rfl) (fun _ _ _ h => h) (by rfl) (by assumption) ?_ ?_
              rotate_left
              · (intro w' hSw; (try dsimp only at hSw); go_simp; try with_reducible rfl)
              try simp only [Act.put, List.setIfInBounds_toArray, List.set_cons_zero, List.set_cons_succ]
              refine take_yes 12 (some 10) (v := ?_) rfl (by kernel_rfl) (by kernel_rfl) (by kernel_rfl) (by kernel_rfl) (fun _ _ _ h => h) (by rfl) (by assumption) ?_ ?_
              rotate_left
              · (intro w' hSw; (try dsimp only at hSw); go_simp; try with_reducible rfl)
              try simp only [Act.put, List.setIfInBounds_toArray, List.set_cons_zero, List.set_cons_succ]
              refine wpAnyH_done (by kernel_rfl) ?_ _
              clear hHeld
              go_wp2_with fail
              go_roundw
              case rel => exact ⟨q + 1, d, by omega, by go_num, rfl, by have := HNX.out; unfold Hid; simpa using this, hsz.drew⟩
              case measure => simp [intOf]; omega
          · obtain rfl : q = Q := by omega
            have HCT : Hid (c = true) := by
              have := HCQ.out
              rw [List.take_of_length_le (by have := HQ.out; omega), decide_eq_true HM5.out] at this
              exact this
            obtain rfl : c = true := HCT.out
            go_wp2_with fail
            go_roundw
            case rel => exact ⟨k + 1, by omega, by go_num, hsw.trans (hsA.trans (hc5.trans hsz))⟩
            case measure => simp [intOf]; omega
      · obtain rfl : k = L := by omega
        have HSE := Lib.hid (HSy.out.trans (hsy3.trans hsw))
        clear HCELL HMATH BG HGy
        go_wp2_with fail
        refine (drawHA_any w.heap.size _ _ HSE.out.size (hv0.out.since HSE.out)).mono ?_
        rintro e w4 ⟨vh, h, xx, yy, _, _, _, _, rfl, hoh, hh5, hh11, hs4⟩
        have HOH := Lib.hid hoh
        obtain ⟨va, vb, rfl, ha, _, hb2, _⟩ := hoh
        obtain ⟨ho, hc, rfl⟩ := ha.len
        obtain ⟨jo, jc, rfl⟩ := hb2.len
        have j1 : h.vs.length ≤ 1048577 := by omega
        have j2 : h.es.length ≤ 1048577 := by omega
        clear ha hb2
        obtain ⟨hn, hhn⟩ : ∃ n, n = h.vs.length := ⟨_, rfl⟩
        obtain ⟨jn, hjn⟩ : ∃ m, m = h.es.length := ⟨_, rfl⟩
        rw [← hhn, ← hjn] at HOH ⊢
        clear hhn hjn
        obtain ⟨y4, hy⟩ : ∃ y, y = w4.alloc (.cells #[.slice ho hn hc, .slice jo jn jc] 27) := ⟨_, rfl⟩
        have hsy4 : Since w4 y4 := by rw [hy]; exact (Since.refl w4).alloc _
        have BH : Hid (Blk y4 w4.heap.size 27 #[.slice ho hn hc, .slice jo jn jc]) := by rw [hy]; exact Blk.new rfl _ _
        have HHy : Hid (GrfAt y4 (.agg #[.slice ho hn hc, .slice jo jn jc]) h) := (HOH.out.since hsy4).at
        have HS4 := Lib.hid (HSE.out.trans (hs4.trans hsy4))
        have HHI : Hid (∀ W, Since y4 W → Calls Try.prog 24 #[.agg #[.slice ho hn hc, .slice jo jn jc], .int .i64 xx, .int .i64 yy] W fun en w' => en = .returned (.bool (holdsG h xx yy)) ∧ Since W w') := fun W hW => implHA_any _ h xx yy W (HHy.out.since hW) j1 j2
        have HHS : Hid (∀ W, Since y4 W → Calls Try.prog 25 #[.agg #[.slice ho hn hc, .slice jo jn jc], .int .i64 xx, .int .i64 yy] W fun en w' => en = .returned (.bool (holdsG h xx yy)) ∧ Since W w') := fun W hW => specHA_any _ h xx yy W (HHy.out.since hW) j1 j2
        generalize holdsG h xx yy = ch at HHI HHS
        have ecc : (ch == ch) = true := by simp
        have HK2 : Hid (∀ w', Since y4 w' → w'.cell? ⟨w4.heap.size, 0, none⟩ = some (.slice ho hn hc) ∧ w'.cell? ⟨w4.heap.size, 1, none⟩ = some (.slice jo jn jc)) := fun w' hW => ⟨(BH.out.since hW).two.1, (BH.out.since hW).two.2.1⟩
        go_wp2_with fail
        rw [← hy]
        clear hy hs4 hsy4
        refine wp_region_held_drew (S := (fun w' => w'.cell? ⟨w4.heap.size, 0, none⟩ = some (.slice ho hn hc) ∧ w'.cell? ⟨w4.heap.size, 1, none⟩ = some (.slice jo jn jc))) (by kernel_rfl) (HK2.out _ (Since.refl _).drew) (fun hHeld => ?_)
        refine take_yes 0 (some 123) (v := ?_) rfl (by kernel_rfl) (by kernel_rfl) (by kernel_rfl) (by kernel_rfl) (fun _ _ _ h => h) (by rfl) (by assumption) ?_ ?_
        rotate_left
        · (intro w' hSw; (try dsimp only at hSw); go_simp; try with_reducible rfl)
        try simp only [Act.put, List.setIfInBounds_toArray, List.set_cons_zero, List.set_cons_succ]
        refine take_yes 1 (some 124) (v := ?_) rfl (by kernel_rfl) (by kernel_rfl) (by kernel_rfl) (by kernel_rfl) (fun _ _ _ h => h) (by rfl) (by assumption) ?_ ?_
        rotate_left
        · (intro w' hSw; (try dsimp only at hSw); go_simp; try with_reducible rfl)
        try simp only [Act.put, List.setIfInBounds_toArray, List.set_cons_zero, List.set_cons_succ]
        refine take_yes 2 (some 125) (v := ?_) rfl (by kernel_rfl) (by kernel_rfl) (by kernel_rfl) (by kernel_rfl) (fun _ _ _ h => h) (by rfl) (by assumption) ?_ ?_
        rotate_left
        · (intro w' hSw; (try dsimp only at hSw); go_simp; try with_reducible rfl)
        try simp only [Act.put, List.setIfInBounds_toArray, List.set_cons_zero, List.set_cons_succ]
        refine take_yes 4 (some 127) (v := ?_) rfl (by kernel_rfl) (by kernel_rfl) (by kernel_rfl) (by kernel_rfl) (fun _ _ _ h => h) (by rfl) (by assumption) ?_ ?_
        rotate_left
        · (intro w' hSw; (try dsimp only at hSw); go_simp; try with_reducible rfl)
        try simp only [Act.put, List.setIfInBounds_toArray, List.set_cons_zero, List.set_cons_succ]
        refine take_yes 5 (some 128) (v := ?_) rfl (by kernel_rfl) (by kernel_rfl) (by kernel_rfl) (by kernel_rfl) (fun _ _ _ h => h) (by rfl) (by assumption) ?_ ?_
        rotate_left
        · (intro w' hSw; (try dsimp only at hSw); go_simp; try with_reducible rfl)
        try simp only [Act.put, List.setIfInBounds_toArray, List.set_cons_zero, List.set_cons_succ]
        refine take_yes 6 (some 129) (v := ?_) rfl (by kernel_rfl) (by kernel_rfl) (by kernel_rfl) (by kernel_rfl) (fun _ _ _ h => h) (by rfl) (by assumption) ?_ ?_
        rotate_left
        · (intro w' hSw; (try dsimp only at hSw); go_simp; try with_reducible rfl)
        try simp only [Act.put, List.setIfInBounds_toArray, List.set_cons_zero, List.set_cons_succ]
        refine take_run 3 rfl (by kernel_rfl) (by rfl) (fun K hK => ?_)
        go_simp
        refine (HHI.out _ ((Since.refl y4).drew)).mono ?_
        rintro en wq28 ⟨rfl, hq⟩
        have hc29 := ((Since.refl y4).drew).trans hq
        refine hK.out _ _ (HK2.out _ hc29) (fun hHeld27 => ?_)
        clear hK K hHeld hq
        try simp only [Act.put, List.setIfInBounds_toArray, List.set_cons_zero, List.set_cons_succ]
        refine take_run 7 rfl (by kernel_rfl) (by rfl) (fun K hK => ?_)
        go_simp
        refine (HHS.out _ (hc29)).mono ?_
        rintro en wq31 ⟨rfl, hq⟩
        have hc32 := (hc29).trans hq
        refine hK.out _ _ (HK2.out _ hc32) (fun hHeld30 => ?_)
        clear hK K hHeld27 hq
        try simp only [Act.put, List.setIfInBounds_toArray, List.set_cons_zero, List.set_cons_succ]
        refine take_yes 8 (some 131) (v := ?_) rfl (by kernel_rfl) (by kernel_rfl) (by kernel_rfl) (by kernel_rfl) (fun _ _ _ h => h) (by rfl) (by assumption) ?_ ?_
        rotate_left
        · (intro w' hSw; (try dsimp only at hSw); go_simp; try with_reducible rfl)
        try simp only [Act.put, List.setIfInBounds_toArray, List.set_cons_zero, List.set_cons_succ]
        refine take_yes 9 (some 2) (v := ?_) rfl (by kernel_rfl) (by kernel_rfl) (by kernel_rfl) (by kernel_rfl) (fun _ _ _ h => h) (by rfl) (by assumption) ?_ ?_
        rotate_left
        · (intro w' hSw; (try dsimp only at hSw); go_simp; try with_reducible rfl)
        try simp only [Act.put, List.setIfInBounds_toArray, List.set_cons_zero, List.set_cons_succ]
        refine wpAnyH_done (by kernel_rfl) ?_ _
        clear hHeld30
        have hcE := hc32
        go_wp2_with fail
        go_ret
        exact ⟨ret_bool (by simp), HS4.out.trans hcE⟩
end Go.Proofs.Ytilkheclimammaa
