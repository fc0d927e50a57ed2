/- NodesAfter, the model's: its loop. -/
import Derived.Test.YtpmkpeclfhmhlaaNaP
namespace Go.Proofs.Ytpmkpeclfhmhlaa
set_option maxRecDepth 100000
open Go.ChangeShapes Go.WideShapes Go.ChangeAt Go.RowKit
set_option linter.unusedVariables false
set_option linter.unusedSimpArgs false

def maskN (zs : List Int) : Nat := zs.foldl (fun m z => m ||| 2 ^ z.toNat) 0
theorem maskN_snoc (zs : List Int) (d : Nat) : maskN (zs ++ [(d : Int)]) = maskN zs ||| 2 ^ d := by unfold maskN; rw [List.foldl_append]; simp
theorem maskN_test (zs : List Int) (h : ∀ z ∈ zs, 0 ≤ z) (i : Nat) : (maskN zs).testBit i = decide ((i : Int) ∈ zs) := by
  have gen : ∀ (zs : List Int) (m : Nat), (∀ z ∈ zs, 0 ≤ z) → (zs.foldl (fun m z => m ||| 2 ^ z.toNat) m).testBit i = (m.testBit i || decide ((i : Int) ∈ zs)) := by
    intro zs
    induction zs with
    | nil => intro m _; simp
    | cons z zs ih =>
      intro m hz
      have h0 := hz z (List.mem_cons_self ..)
      rw [List.foldl_cons, ih _ (fun u hu => hz u (List.mem_cons_of_mem _ hu)), Nat.testBit_or, Nat.testBit_two_pow, Bool.or_assoc]
      congr 1
      rw [Bool.eq_iff_iff]
      simp only [Bool.or_eq_true, decide_eq_true_eq, List.mem_cons]
      constructor
      · rintro (h | h)
        · exact .inl (by omega)
        · exact .inr h
      · rintro (h | h)
        · exact .inl (by omega)
        · exact .inr h
  have := gen zs 0 h
  simpa [maskN] using this
theorem maskN_lt (zs : List Int) (h : ∀ z ∈ zs, 0 ≤ z ∧ z < 5) : maskN zs < 32 := by
  have gen : ∀ (zs : List Int) (m : Nat), m < 2 ^ 5 → (∀ z ∈ zs, 0 ≤ z ∧ z < 5) → zs.foldl (fun m z => m ||| 2 ^ z.toNat) m < 2 ^ 5 := by
    intro zs
    induction zs with
    | nil => intro m hm _; simpa using hm
    | cons z zs ih =>
      intro m hm hz
      have h0 := hz z (List.mem_cons_self ..)
      rw [List.foldl_cons]
      exact ih _ (Nat.or_lt_two_pow hm (Nat.pow_lt_pow_right (by omega) (by omega))) (fun u hu => hz u (List.mem_cons_of_mem _ hu))
  exact gen zs 0 (by omega) h
theorem or_two (M d : Nat) (hM : M < 32) (hd : d < 5) : bits .or .i64 (M : Int) (2 ^ d) = ((M ||| 2 ^ d : Nat) : Int) := by
  have hp : (2 : Nat) ^ d < 2 ^ 5 := Nat.pow_lt_pow_right (by omega) hd
  have := i64_or_nat M (2 ^ d) (by omega) (by omega)
  rw [Int.natCast_pow] at this
  exact this
theorem wrap_two (d : Nat) (hd : d < 5) : IntKind.i64.wrap (2 ^ d : Int) = 2 ^ d := by
  have hp : (2 : Nat) ^ d < 2 ^ 5 := Nat.pow_lt_pow_right (by omega) hd
  have e : ((2 : Int) ^ d) = ((2 ^ d : Nat) : Int) := by rw [Int.natCast_pow]; rfl
  rw [e]
  exact wrap_small _ (by omega)
theorem ends_eq (g : Grf) (x y : Int) : (withS g x y).map (fun s => (tOf (travG g) s).dst) = endsL g x y := by
  unfold withS endsL
  rw [List.map_map]
  apply List.map_congr_left
  intro t ht
  have ht' := (List.mem_filter.1 (List.mem_filter.1 ht).1).1
  show (tOf (travG g) t.st).dst = t.dst
  rcases Bool.eq_false_or_eq_true (validB g) with hv | hv
  · have hp := ((validB_iff g).1 hv).2.2.2
    unfold travG at ht' ⊢
    rw [if_pos hv] at ht' ⊢
    rw [tOf_self hp ht']
  · unfold travG at ht'
    rw [if_neg (by rw [hv]; decide)] at ht'
    simp at ht'
set_option maxHeartbeats 2000000 in
set_option maxRecDepth 100000 in
theorem specNA_any (v : Value) (g : Grf) (x y : Int) (w : World) (h : GrfAt w v g) (h1 : g.vs.length ≤ 1048577) (h2 : g.es.length ≤ 1048577) :
    Calls Try.prog 42 #[v, .int .i64 x, .int .i64 y] w (OwnOut w (setL (endsL g x y))) := by
  have HG := Lib.hid h
  obtain ⟨a, b, rfl, ha, hb⟩ := h
  obtain ⟨ao, ac, rfl, _⟩ := ha.row
  obtain ⟨bo, bc, rfl⟩ := hb.len
  clear ha hb
  have hxl := withS_len g x y h2
  have hE := ends_eq g x y
  have hsm := endsL_small g x y
  have HSW : Hid (∀ W, GrfAt W (.agg #[.slice ao g.vs.length ac, .slice bo g.es.length bc]) g → Calls Try.prog 40 #[.agg #[.slice ao g.vs.length ac, .slice bo g.es.length bc], .int .i64 x, .int .i64 y] W (StOut W (withS g x y))) := fun W hu => specSW_any _ g x y W hu h1 h2
  have HST : Hid (∀ W (s : Stp), GrfAt W (.agg #[.slice ao g.vs.length ac, .slice bo g.es.length bc]) g → Calls Try.prog 31 #[.agg #[.slice ao g.vs.length ac, .slice bo g.es.length bc], .agg #[.int .i64 s.id, .bool s.inv]] W fun en w' => en = .returned (.int .i64 (tOf (travG g) s).dst) ∧ Since W w') := fun W s hu => specTo_any _ g s W hu h1 h2
  obtain ⟨n, hn⟩ : ∃ n, n = g.vs.length := ⟨_, rfl⟩
  obtain ⟨m, hm⟩ : ∃ m, m = g.es.length := ⟨_, rfl⟩
  rw [← hn, ← hm] at HG HSW HST ⊢
  clear hn hm
  obtain ⟨F, hF⟩ : ∃ F : Stp → Int, F = fun s => (tOf (travG g) s).dst := ⟨_, rfl⟩
  have HST : Hid (∀ W (s : Stp), GrfAt W (.agg #[.slice ao n ac, .slice bo m bc]) g → Calls Try.prog 31 #[.agg #[.slice ao n ac, .slice bo m bc], .agg #[.int .i64 s.id, .bool s.inv]] W fun en w' => en = .returned (.int .i64 (F s)) ∧ Since W w') := by subst hF; exact HST
  have hE : (withS g x y).map F = endsL g x y := by subst hF; exact hE
  clear hF
  rw [← hE] at hsm ⊢
  clear hE
  generalize withS g x y = xs at hxl HSW hsm ⊢
  have HSM : Hid (∀ (k : Nat) (h : k < xs.length), 0 ≤ F xs[k] ∧ F xs[k] < 5) := fun k hk => hsm _ (List.mem_map_of_mem (List.getElem_mem hk))
  have HSL := Lib.hid hsm
  obtain ⟨q, hq⟩ : ∃ q, q = xs.length := ⟨_, rfl⟩
  have HQ := Lib.hid hq
  have hq9 : q ≤ 2097154 := by omega
  clear hq hxl hsm
  have hs0 : Since w (w.alloc (.cells #[.slice ao n ac, .slice bo m bc] 30)) := (Since.refl w).alloc _
  have B0 : Hid (Blk (w.alloc (.cells #[.slice ao n ac, .slice bo m bc] 30)) w.heap.size 30 #[.slice ao n ac, .slice bo m bc]) := Blk.new rfl _ _
  go_enter Try.func42, Try.ntmps42
  go_wp2_with fail
  refine (HSW.out _ (HG.out.since hs0)).mono ?_
  rintro en w1 ⟨v1, rfl, ho1, hs1⟩
  have hs0m := hs0.trans hs1
  have B1 := Lib.hid (B0.out.since hs1)
  obtain ⟨lo, lc, rfl, HX⟩ := ho1.at
  rw [← HQ.out]
  clear ho1 hs1 B0
  go_wp2_with fail
  go_loopw [8, 9] (fun c i wr => ∃ k : Nat, k ≤ q ∧ i = .int .i64 k ∧ c = .int .i64 ((maskN ((xs.take k).map F) : Nat) : Int) ∧ Since w1 wr) (fun _ i _ => q - (intOf i).toNat)
  case atStart => exact ⟨0, Nat.zero_le _, rfl, rfl, Since.refl _⟩
  case round =>
    obtain ⟨k, hk, rfl, rfl, hsw⟩ := hrel
    by_cases hlt : k < q
    · have hx : k < xs.length := by have := HQ.out; omega
      obtain ⟨be, oe, rfl, hbe, d0, d1⟩ := HX.out k hx
      have HKC : Hid (∀ w', Since wr w' → w'.cell? ⟨w.heap.size, 0, none⟩ = some (.slice ao n ac) ∧ w'.cell? ⟨w.heap.size, 1, none⟩ = some (.slice bo m bc) ∧ w'.cell? ⟨be, oe + k * 2, none⟩ = some (.int .i64 xs[k].id) ∧ w'.cell? ⟨be, oe + k * 2 + 1, none⟩ = some (.bool xs[k].inv)) := by
        intro w' hs
        obtain ⟨x0, x1, _, _⟩ := (B1.out.since (hsw.trans hs)).two
        have s1 := since_cells (hsw.trans hs) hbe
        exact ⟨x0, x1, (s1 _).trans d0, (s1 _).trans d1⟩
      clear d0 d1
      have hki : (k : Int) < (q : Int) := by omega
      have hk0 : (0 : Int) ≤ (k : Int) := by omega
      obtain ⟨d, hd⟩ : ∃ d : Nat, F xs[k] = (d : Int) := ⟨(F xs[k]).toNat, by have := HSM.out k hx; omega⟩
      have hd5 : d < 5 := by have := HSM.out k hx; omega
      have HD := Lib.hid hd
      have hMlt := maskN_lt ((xs.take k).map F) (fun z hz => by
        obtain ⟨s, hs, rfl⟩ := List.mem_map.1 hz
        exact HSL.out _ (List.mem_map_of_mem (List.mem_of_mem_take hs)))
      have HMK : Hid (maskN ((xs.take (k + 1)).map F) = maskN ((xs.take k).map F) ||| 2 ^ d) := by unfold Hid; rw [map_take F xs k hx, hd, maskN_snoc]
      obtain ⟨M, hM⟩ : ∃ M, M = maskN ((xs.take k).map F) := ⟨_, rfl⟩
      rw [← hM] at hMlt HMK ⊢
      have hor := Lib.hid (or_two M d hMlt hd5)
      have hwr := Lib.hid (wrap_two d hd5)
      have hd0 : (0 : Int) ≤ (d : Int) := by omega
      clear hd hM
      go_wp2_with fail
      refine wp_region_held_drew (S := (fun w' => w'.cell? ⟨w.heap.size, 0, none⟩ = some (.slice ao n ac) ∧ w'.cell? ⟨w.heap.size, 1, none⟩ = some (.slice bo m bc) ∧ w'.cell? ⟨be, oe + k * 2, none⟩ = some (.int .i64 xs[k].id) ∧ w'.cell? ⟨be, oe + k * 2 + 1, none⟩ = some (.bool xs[k].inv))) (by kernel_rfl) (HKC.out _ (Since.refl _).drew) (fun hHeld => ?_)
      refine take_yes 0 (some 20) (v := ?_) rfl (by kernel_rfl) (by kernel_rfl) (by kernel_rfl) (by kernel_rfl) (fun _ _ _ h => h) (by rfl) (by assumption) ?_ ?_
      rotate_left
      · (intro w' hSw; (try dsimp only at hSw); go_simp; try with_reducible rfl)
      try simp only [Act.put, List.setIfInBounds_toArray, List.set_cons_zero, List.set_cons_succ]
      refine take_yes 1 (some 21) (v := ?_) rfl (by kernel_rfl) (by kernel_rfl) (by kernel_rfl) (by kernel_rfl) (fun _ _ _ h => h) (by rfl) (by assumption) ?_ ?_
      rotate_left
      · (intro w' hSw; (try dsimp only at hSw); go_simp; try with_reducible rfl)
      try simp only [Act.put, List.setIfInBounds_toArray, List.set_cons_zero, List.set_cons_succ]
      refine take_yes 2 (some 22) (v := ?_) rfl (by kernel_rfl) (by kernel_rfl) (by kernel_rfl) (by kernel_rfl) (fun _ _ _ h => h) (by rfl) (by assumption) ?_ ?_
      rotate_left
      · (intro w' hSw; (try dsimp only at hSw); go_simp; try with_reducible rfl)
      try simp only [Act.put, List.setIfInBounds_toArray, List.set_cons_zero, List.set_cons_succ]
      refine take_yes 3 (some 23) (v := ?_) rfl (by kernel_rfl) (by kernel_rfl) (by kernel_rfl) (by kernel_rfl) (fun _ _ _ h => h) (by rfl) (by assumption) ?_ ?_
      rotate_left
      · (intro w' hSw; (try dsimp only at hSw); go_simp; try with_reducible rfl)
      try simp only [Act.put, List.setIfInBounds_toArray, List.set_cons_zero, List.set_cons_succ]
      refine take_yes 4 (some 24) (v := ?_) rfl (by kernel_rfl) (by kernel_rfl) (by kernel_rfl) (by kernel_rfl) (fun _ _ _ h => h) (by rfl) (by assumption) ?_ ?_
      rotate_left
      · (intro w' hSw; (try dsimp only at hSw); go_simp; try with_reducible rfl)
      try simp only [Act.put, List.setIfInBounds_toArray, List.set_cons_zero, List.set_cons_succ]
      refine take_yes 5 (some 25) (v := ?_) rfl (by kernel_rfl) (by kernel_rfl) (by kernel_rfl) (by kernel_rfl) (fun _ _ _ h => h) (by rfl) (by assumption) ?_ ?_
      rotate_left
      · (intro w' hSw; (try dsimp only at hSw); go_simp; try with_reducible rfl)
      try simp only [Act.put, List.setIfInBounds_toArray, List.set_cons_zero, List.set_cons_succ]
      refine take_run 6 rfl (by kernel_rfl) (by rfl) (fun K hK => ?_)
      go_simp
      refine (HST.out _ xs[k] (HG.out.since (hs0m.trans (hsw.trans (Since.refl wr).drew)))).mono ?_
      rintro en q1 ⟨rfl, hq1⟩
      rw [HD.out]
      have hq2 := (Since.refl wr).drew.trans hq1
      refine hK.out _ _ (HKC.out _ hq2) (fun hHeld1 => ?_)
      clear hK K hHeld
      try simp only [Act.put, List.setIfInBounds_toArray, List.set_cons_zero, List.set_cons_succ]
      refine take_yes 7 (some 27) (v := ?_) rfl (by kernel_rfl) (by kernel_rfl) (by kernel_rfl) (by kernel_rfl) (fun _ _ _ h => h) (by rfl) (by assumption) ?_ ?_
      rotate_left
      · (intro w' hSw; (try dsimp only at hSw); go_simp; try with_reducible rfl)
      try simp only [Act.put, List.setIfInBounds_toArray, List.set_cons_zero, List.set_cons_succ]
      refine take_yes 8 (some 28) (v := ?_) rfl (by kernel_rfl) (by kernel_rfl) (by kernel_rfl) (by kernel_rfl) (fun _ _ _ h => h) (by rfl) (by assumption) ?_ ?_
      rotate_left
      · (intro w' hSw; (try dsimp only at hSw); go_simp; try with_reducible rfl)
      try simp only [Act.put, List.setIfInBounds_toArray, List.set_cons_zero, List.set_cons_succ]
      refine take_yes 9 (some 8) (v := ?_) rfl (by kernel_rfl) (by kernel_rfl) (by kernel_rfl) (by kernel_rfl) (fun _ _ _ h => h) (by rfl) (by assumption) ?_ ?_
      rotate_left
      · (intro w' hSw; (try dsimp only at hSw); go_simp; try with_reducible rfl)
      try simp only [Act.put, List.setIfInBounds_toArray, List.set_cons_zero, List.set_cons_succ]
      refine wpAnyH_done (by kernel_rfl) ?_ _
      clear hHeld1
      have hsq := hsw.trans hq2
      clear hsw hq1 hq2 HKC
      go_wp2
      go_roundw
      case rel => exact ⟨k + 1, by omega, by go_num, (by rw [HMK.out, hwr.out, hor.out]), hsq⟩
      case measure => simp [intOf]; omega
    · obtain rfl : k = q := by omega
      have hMlt := maskN_lt ((xs.take k).map F) (fun z hz => by
        obtain ⟨s, hs, rfl⟩ := List.mem_map.1 hz
        exact HSL.out _ (List.mem_map_of_mem (List.mem_of_mem_take hs)))
      have HT : Hid (∀ i : Nat, (maskN ((xs.take k).map F)).testBit i = decide ((i : Int) ∈ xs.map F)) := by
        intro i
        rw [List.take_of_length_le (by have := HQ.out; omega)]
        exact maskN_test _ (fun z hz => (HSL.out z hz).1) i
      generalize maskN ((xs.take k).map F) = M at hMlt HT ⊢
      go_wp2_with fail
      refine (l4Set_any M (xs.map F) _ hMlt HT.out).mono ?_
      rintro en w2 ⟨v2, rfl, ho2, hs2⟩
      have HO := Lib.hid (ho2.mono (hs0m.trans hsw).size)
      have hs02 := (hs0m.trans hsw).trans hs2
      clear ho2
      go_wp2
      go_ret
      exact ⟨_, rfl, HO.out, hs02⟩
end Go.Proofs.Ytpmkpeclfhmhlaa
