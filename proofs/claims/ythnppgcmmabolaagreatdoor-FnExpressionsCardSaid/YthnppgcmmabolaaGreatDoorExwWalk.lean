/- The great law of expressions, walked. -/
import Derived.Test.YthnppgcmmabolaaGreatDoorDrawY
import Derived.Test.YthnppgcmmabolaaGreatDoorExR
import Derived.Test.YthnppgcmmabolaaGreatDoorPxI
import Derived.Test.YthnppgcmmabolaaGreatDoorRvx
import Derived.Test.YthnppgcmmabolaaGreatDoorFmi
import Derived.Test.YthnppgcmmabolaaGreatDoorOpen
import Derived.Deep.DeepCutAuto
namespace Go.Proofs.YthnppgcmmabolaaGreatDoor
set_option maxRecDepth 100000
open Go.ChangeShapes Go.WideShapes Go.ChangeAt Go.RowKit
set_option linter.unusedVariables false
set_option linter.unusedSimpArgs false

theorem ExC.sinceX {w w' : World} {v : Value} {xs : List Tok} (h : ExC w v xs) (k : Since w w') : ExC w' v xs := ⟨h.1.since k, h.2⟩
theorem fmtX_small (x : List Tok) : (fmtX x).size ≤ 1048576 := by
  cases h : validXB x with
  | false => rw [fmtX_out h]; decide
  | true =>
    obtain ⟨h1, h2, h3⟩ := valid_all h
    have h4 := fmtXL_len x h3 x.length (Nat.le_refl _)
    rw [List.take_length] at h4
    rw [fmtX_in h]
    have e : (⟨(fmtXL x).toArray⟩ : ByteArray).size = (fmtXL x).length := by simp [ByteArray.size]
    rw [e]; omega
theorem ee_same (a b : Value) (x : List Tok) (w : World) (ha : ExAt w a x) (hb : ExAt w b x) (h1 : x.length ≤ 1048577) :
    Calls Tryz.prog 8 #[a, b] w fun e w' => e = .returned (.bool true) ∧ Since w w' :=
  (implEE_any a b x x w ha hb (by omega) (by omega)).mono fun e w' ⟨he, hs⟩ => ⟨by rw [he]; simp, hs⟩
set_option maxHeartbeats 16000000 in
set_option maxRecDepth 100000 in
theorem fnExpressions_walk (v : Value) (w : World) (ht : Tab w) (hfm : Fmts w) (hm : MaxX w) (hfr : Forms w) (hv : CodeAt w.heap.size w v) :
    Calls Tryz.prog 3 #[v] w fun e w' => e = .returned (.bool true) ∧ Since w w' := by
  obtain ⟨ao0, len, cap, rfl, hlen, hcode⟩ := hv
  have HCODE := Lib.hid hcode
  have HTB := Lib.hid ht
  have HFM := Lib.hid hfm
  have HMX := Lib.hid hm
  have HFR := Lib.hid hfr
  clear hcode ht hfm hm hfr
  by_cases hbig : 1048576 < len
  · have hb : decide (1048576 < len) = true := by simp [hbig]
    have HB := Lib.hid hbig
    clear hbig
    go_enter Tryz.func3, Tryz.ntmps3
    go_wp2_with (go_at_call 4; refine (big_any _ _ _ _ hlen).mono ?_; rintro e w' ⟨rfl, rfl⟩)
    go_ret
    exact ⟨rfl, Since.refl _⟩
  · have hv0 : Hid (CodeIn w.heap.size w (.slice ao0 len cap)) := ⟨ao0, len, cap, rfl, by omega, HCODE.out⟩
    have hb : decide (1048576 < len) = false := by simp; omega
    have HB := Lib.hid hbig
    clear hbig
    go_enter Tryz.func3, Tryz.ntmps3
    go_wp2_with (go_at_call 4; refine (big_any _ _ _ _ hlen).mono ?_; rintro e w' ⟨rfl, rfl⟩)
    refine (drawSX_any w.heap.size w _ (Nat.le_refl _) hv0.out).mono ?_
    rintro e w1 ⟨v, x, rfl, hx, hl, hs1⟩
    clear hb HCODE hlen HB hv0
    have hx1 : x.length ≤ 1048577 := by omega
    have HIS : Hid (∀ V W, Since w W → ExAt W V x → Calls Tryz.prog 9 #[V] W fun e w' => e = .returned (.bool (isXB x)) ∧ Since W w') := fun V W hW h => implIX_any V x W (HFR.out.since hW) h hx1
    have HSS : Hid (∀ V W, Since w W → ExAt W V x → Calls Tryz.prog 10 #[V] W fun e w' => e = .returned (.bool (isXB x)) ∧ Since W w') := fun V W hW h => specIX_any V x W h hx1
    have HIV : Hid (∀ V W, Since w W → ExAt W V x → Calls Tryz.prog 11 #[V] W fun e w' => e = .returned (.bool (validXB x)) ∧ Since W w') := fun V W hW h => implVX_any V x W (HFR.out.since hW) h hx1
    have HSV : Hid (∀ V W, Since w W → ExAt W V x → Calls Tryz.prog 12 #[V] W fun e w' => e = .returned (.bool (validXB x)) ∧ Since W w') := fun V W hW h => specVX_any V x W h hx1
    have HIP : Hid (∀ V W, Since w W → ExC W V x → Calls Tryz.prog 6 #[V] W (SpOut W (partsX x).1 (partsX x).2)) := fun V W hW h => implSX_any V x W (HFR.out.since hW) h hx1
    have HSP : Hid (∀ V W, Since w W → ExC W V x → Calls Tryz.prog 7 #[V] W (SpOut W (partsX x).1 (partsX x).2)) := fun V W hW h => specSX_any V x W h hx1
    have HRV : Hid (∀ V W, Since w W → ExC W V x → Calls Tryz.prog 13 #[V] W (XBOut W (revX x) (isXB x))) := fun V W hW h => implRX_any V x W (HFR.out.since hW) h hx1
    have HRR : Hid (isXB x = true → ∀ V W, Since w W → ExC W V (revX x) → Calls Tryz.prog 13 #[V] W (XBOut W x true)) := fun hi V W hW h => by
      obtain ⟨r1, r2⟩ := revX_revX hi
      have := implRX_any V (revX x) W (HFR.out.since hW) h (by have := revX_len x; omega)
      rw [r1, r2] at this; exact this
    have HFX : Hid (∀ V W, Since w W → ExAt W V x → Calls Tryz.prog 14 #[V] W fun e w' => e = .returned (.string (fmtX x)) ∧ Since W w') := fun V W hW h => implFX_any V x W (HTB.out.since hW) (HFM.out.since hW) (HFR.out.since hW) h hx1
    have HPX : Hid (∀ W, Since w W → Calls Tryz.prog 15 #[.string (fmtX x)] W (XBOut W (pxA (fmtX x)) (validXB x))) := fun W hW => by
      have := implPX_any (fmtX x) W (fmtX_small x) (HTB.out.since hW) (HMX.out.since hW) (HFM.out.since hW) (HFR.out.since hW)
      rw [(px_fmt x).1] at this; exact this
    have HPA : Hid (validXB x = true → pxA (fmtX x) = x) := (px_fmt x).2
    have HP1 : Hid (0 < (partsX x).1.length → ∀ V W, Since w W → ExAt W V (partsX x).1 → Calls Tryz.prog 9 #[V] W fun e w' => e = .returned (.bool true) ∧ Since W w') := fun h0 V W hW h => by
      have := implIX_any V (partsX x).1 W (HFR.out.since hW) h (by have := partsX_len x; omega)
      rw [(parts_ok x).1 h0] at this; exact this
    have HP2 : Hid (0 < (partsX x).2.length → ∀ V W, Since w W → ExAt W V (partsX x).2 → Calls Tryz.prog 9 #[V] W fun e w' => e = .returned (.bool true) ∧ Since W w') := fun h0 V W hW h => by
      have := implIX_any V (partsX x).2 W (HFR.out.since hW) h (by have := partsX_len x; omega)
      rw [(parts_ok x).2 h0] at this; exact this
    have hR1 : (partsX x).1.length ≤ 1048577 := by have := partsX_len x; omega
    have hQ1 : (partsX x).2.length ≤ 1048577 := by have := partsX_len x; omega
    generalize (partsX x).1 = R at HIP HSP HP1 hR1
    generalize (partsX x).2 = Q at HIP HSP HP2 hQ1
    generalize revX x = V at HRV HRR
    generalize pxA (fmtX x) = A at HPX HPA
    generalize fmtX x = fx at HFX HPX
    generalize isXB x = zi at HIS HSS HRV HRR
    generalize validXB x = zv at HIV HSV HPX HPA
    obtain ⟨ao, ac, rfl, _, hac⟩ := hx.open
    obtain ⟨n, hn⟩ : ∃ n, n = x.length := ⟨_, rfl⟩
    rw [← hn] at hx hac ⊢
    have HX1 := Lib.hid hx
    clear hn hx
    obtain ⟨y0, hy0⟩ : ∃ y, y = w1.alloc (.cells #[.slice ao n ac] 26) := ⟨_, rfl⟩
    have ha0 : Since w1 y0 := by rw [hy0]; exact (Since.refl w1).alloc _
    have BE : Hid (Blk y0 w1.heap.size 26 #[.slice ao n ac]) := by rw [hy0]; exact Blk.new rfl _ _
    have HX := Lib.hid (HX1.out.sinceX ha0)
    have hc := hs1.trans ha0
    obtain ⟨p0, _⟩ := BE.out.one
    rw [hy0] at p0
    clear HX1 hs1 ha0
    go_wp2_with fail
    rw [← hy0]
    clear hy0 p0
    refine (HIP.out _ _ hc HX.out).mono ?_
    rintro e w2 ⟨va, vb, m2, rfl, hoa, hob, _, hs2⟩
    have PA := Lib.hid hoa
    have PB := Lib.hid hob
    obtain ⟨ao1, an1, ac1, hna1, rfl⟩ := hoa.lenN
    obtain ⟨ao2, an2, ac2, hna2, rfl⟩ := hob.lenN
    clear hoa hob
    obtain ⟨y2, hy2⟩ : ∃ y, y = (w2.alloc (.cells #[.slice ao1 an1 ac1] 26)).alloc (.cells #[.slice ao2 an2 ac2] 26) := ⟨_, rfl⟩
    have ha2 : Since w2 y2 := by rw [hy2]; exact ((Since.refl w2).alloc _).alloc _
    have BA0 : Hid (Blk y2 w2.heap.size 26 #[.slice ao1 an1 ac1]) := by rw [hy2]; exact (Blk.new rfl _ _).alloc _
    have BB0 : Hid (Blk y2 (w2.heap.size + 1) 26 #[.slice ao2 an2 ac2]) := by rw [hy2]; exact Blk.new (by simp) _ _
    have h02 := hs2.trans ha2
    have hc2 := hc.trans h02
    have BE2 := Lib.hid (BE.out.since h02)
    have HX2 := Lib.hid (HX.out.sinceX h02)
    have PA2 := Lib.hid (PA.out.since ha2)
    have PB2 := Lib.hid (PB.out.since ha2)
    obtain ⟨p0, _⟩ := BE2.out.one
    rw [hy2] at p0
    clear BE HX PA PB hs2 ha2 h02 hc
    go_wp2_with fail
    rw [← hy2]
    clear hy2 p0
    refine (HSP.out _ _ hc2 HX2.out).mono ?_
    rintro e w3 ⟨va, vb, m3, rfl, hoa, hob, _, hs3⟩
    have PC := Lib.hid hoa
    have PD := Lib.hid hob
    obtain ⟨ao3, an3, ac3, hna3, rfl⟩ := hoa.lenN
    obtain ⟨ao4, an4, ac4, hna4, rfl⟩ := hob.lenN
    clear hoa hob
    obtain ⟨y3, hy3⟩ : ∃ y, y = (w3.alloc (.cells #[.slice ao3 an3 ac3] 26)).alloc (.cells #[.slice ao4 an4 ac4] 26) := ⟨_, rfl⟩
    have ha3 : Since w3 y3 := by rw [hy3]; exact ((Since.refl w3).alloc _).alloc _
    have BC : Hid (Blk y3 w3.heap.size 26 #[.slice ao3 an3 ac3]) := by rw [hy3]; exact (Blk.new rfl _ _).alloc _
    have BD : Hid (Blk y3 (w3.heap.size + 1) 26 #[.slice ao4 an4 ac4]) := by rw [hy3]; exact Blk.new (by simp) _ _
    have h03 := hs3.trans ha3
    have hc3 := hc2.trans h03
    have BE3 := Lib.hid (BE2.out.since h03)
    have HX3 := Lib.hid (HX2.out.sinceX h03)
    have PA3 := Lib.hid (PA2.out.since h03)
    have PB3 := Lib.hid (PB2.out.since h03)
    have BA3 := Lib.hid (BA0.out.since h03)
    have BB3 := Lib.hid (BB0.out.since h03)
    have PC3 := Lib.hid (PC.out.since ha3)
    have PD3 := Lib.hid (PD.out.since ha3)
    clear BE2 HX2 PA2 PB2 BA0 BB0 PC PD hs3 ha3 h03 hc2 HIP HSP
    go_upto_region 6 with fail
    rw [← hy3]
    clear hy3
    have HKD : Hid (∀ w', Since y3 w' → w'.cell? ⟨w1.heap.size, 0, none⟩ = some (.slice ao n ac) ∧ w'.cell? ⟨w2.heap.size, 0, none⟩ = some (.slice ao1 an1 ac1) ∧ w'.cell? ⟨(w2.heap.size + 1), 0, none⟩ = some (.slice ao2 an2 ac2) ∧ w'.cell? ⟨w3.heap.size, 0, none⟩ = some (.slice ao3 an3 ac3) ∧ w'.cell? ⟨(w3.heap.size + 1), 0, none⟩ = some (.slice ao4 an4 ac4)) := fun w' h => ⟨(BE3.out.since h).one.1, (BA3.out.since h).one.1, (BB3.out.since h).one.1, (BC.out.since h).one.1, (BD.out.since h).one.1⟩
    rcases Bool.eq_false_or_eq_true zi with rfl | rfl <;> rcases Bool.eq_false_or_eq_true zv with rfl | rfl
    · refine wp_region_held_drew (S := (fun w' => w'.cell? ⟨w1.heap.size, 0, none⟩ = some (.slice ao n ac) ∧ w'.cell? ⟨w2.heap.size, 0, none⟩ = some (.slice ao1 an1 ac1) ∧ w'.cell? ⟨(w2.heap.size + 1), 0, none⟩ = some (.slice ao2 an2 ac2) ∧ w'.cell? ⟨w3.heap.size, 0, none⟩ = some (.slice ao3 an3 ac3) ∧ w'.cell? ⟨(w3.heap.size + 1), 0, none⟩ = some (.slice ao4 an4 ac4))) (by kernel_rfl) (HKD.out _ (Since.refl _).drew) (fun hHeld => ?_)
      refine take_yes 0 (some 29) (v := ?_) rfl (by kernel_rfl) (by kernel_rfl) (by kernel_rfl) (by kernel_rfl) (fun _ _ _ h => h) (by rfl) (by assumption) ?_ ?_
      rotate_left
      · (intro w' hSw; (try dsimp only at hSw); go_simp; try with_reducible rfl)
      try simp only [Act.put, List.setIfInBounds_toArray, List.set_cons_zero, List.set_cons_succ]
      refine take_yes 1 (some 30) (v := ?_) rfl (by kernel_rfl) (by kernel_rfl) (by kernel_rfl) (by kernel_rfl) (fun _ _ _ h => h) (by rfl) (by assumption) ?_ ?_
      rotate_left
      · (intro w' hSw; (try dsimp only at hSw); go_simp; try with_reducible rfl)
      try simp only [Act.put, List.setIfInBounds_toArray, List.set_cons_zero, List.set_cons_succ]
      refine take_run 2 rfl (by kernel_rfl) (by rfl) (fun K hK => ?_)
      go_simp
      refine (ee_same _ _ R _ (PA3.out.since (Since.refl y3).drew).at (PC3.out.since (Since.refl y3).drew).at hR1).mono ?_
      rintro en w4 ⟨rfl, hs4⟩
      have c4 := Since.trans (Since.refl y3).drew hs4
      refine hK.out _ _ (HKD.out _ c4) (fun hHeld4 => ?_)
      clear hK K hHeld hs4
      try simp only [Act.put, List.setIfInBounds_toArray, List.set_cons_zero, List.set_cons_succ]
      refine take_yes 3 (some 32) (v := ?_) rfl (by kernel_rfl) (by kernel_rfl) (by kernel_rfl) (by kernel_rfl) (fun _ _ _ h => h) (by rfl) (by assumption) ?_ ?_
      rotate_left
      · (intro w' hSw; (try dsimp only at hSw); go_simp; try with_reducible rfl)
      try simp only [Act.put, List.setIfInBounds_toArray, List.set_cons_zero, List.set_cons_succ]
      refine take_yes 4 (some 33) (v := ?_) rfl (by kernel_rfl) (by kernel_rfl) (by kernel_rfl) (by kernel_rfl) (fun _ _ _ h => h) (by rfl) (by assumption) ?_ ?_
      rotate_left
      · (intro w' hSw; (try dsimp only at hSw); go_simp; try with_reducible rfl)
      try simp only [Act.put, List.setIfInBounds_toArray, List.set_cons_zero, List.set_cons_succ]
      refine take_yes 5 (some 34) (v := ?_) rfl (by kernel_rfl) (by kernel_rfl) (by kernel_rfl) (by kernel_rfl) (fun _ _ _ h => h) (by rfl) (by assumption) ?_ ?_
      rotate_left
      · (intro w' hSw; (try dsimp only at hSw); go_simp; try with_reducible rfl)
      try simp only [Act.put, List.setIfInBounds_toArray, List.set_cons_zero, List.set_cons_succ]
      refine take_yes 6 (some 35) (v := ?_) rfl (by kernel_rfl) (by kernel_rfl) (by kernel_rfl) (by kernel_rfl) (fun _ _ _ h => h) (by rfl) (by assumption) ?_ ?_
      rotate_left
      · (intro w' hSw; (try dsimp only at hSw); go_simp; try with_reducible rfl)
      try simp only [Act.put, List.setIfInBounds_toArray, List.set_cons_zero, List.set_cons_succ]
      refine take_run 7 rfl (by kernel_rfl) (by rfl) (fun K hK => ?_)
      go_simp
      refine (ee_same _ _ Q _ (PB3.out.since c4).at (PD3.out.since c4).at hQ1).mono ?_
      rintro en w5 ⟨rfl, hs5⟩
      have c5 := Since.trans c4 hs5
      refine hK.out _ _ (HKD.out _ c5) (fun hHeld5 => ?_)
      clear hK K hHeld4 hs5
      try simp only [Act.put, List.setIfInBounds_toArray, List.set_cons_zero, List.set_cons_succ]
      refine take_yes 8 (some 37) (v := ?_) rfl (by kernel_rfl) (by kernel_rfl) (by kernel_rfl) (by kernel_rfl) (fun _ _ _ h => h) (by rfl) (by assumption) ?_ ?_
      rotate_left
      · (intro w' hSw; (try dsimp only at hSw); go_simp; try with_reducible rfl)
      try simp only [Act.put, List.setIfInBounds_toArray, List.set_cons_zero, List.set_cons_succ]
      refine take_yes 9 (some 38) (v := ?_) rfl (by kernel_rfl) (by kernel_rfl) (by kernel_rfl) (by kernel_rfl) (fun _ _ _ h => h) (by rfl) (by assumption) ?_ ?_
      rotate_left
      · (intro w' hSw; (try dsimp only at hSw); go_simp; try with_reducible rfl)
      try simp only [Act.put, List.setIfInBounds_toArray, List.set_cons_zero, List.set_cons_succ]
      refine take_yes 10 (some 39) (v := ?_) rfl (by kernel_rfl) (by kernel_rfl) (by kernel_rfl) (by kernel_rfl) (fun _ _ _ h => h) (by rfl) (by assumption) ?_ ?_
      rotate_left
      · (intro w' hSw; (try dsimp only at hSw); go_simp; try with_reducible rfl)
      try simp only [Act.put, List.setIfInBounds_toArray, List.set_cons_zero, List.set_cons_succ]
      refine take_yes 11 (some 40) (v := ?_) rfl (by kernel_rfl) (by kernel_rfl) (by kernel_rfl) (by kernel_rfl) (fun _ _ _ h => h) (by rfl) (by assumption) ?_ ?_
      rotate_left
      · (intro w' hSw; (try dsimp only at hSw); go_simp; try with_reducible rfl)
      try simp only [Act.put, List.setIfInBounds_toArray, List.set_cons_zero, List.set_cons_succ]
      refine take_yes 13 (some 42) (v := ?_) rfl (by kernel_rfl) (by kernel_rfl) (by kernel_rfl) (by kernel_rfl) (fun _ _ _ h => h) (by rfl) (by assumption) ?_ ?_
      rotate_left
      · (intro w' hSw; (try dsimp only at hSw); go_simp; try with_reducible rfl)
      try simp only [Act.put, List.setIfInBounds_toArray, List.set_cons_zero, List.set_cons_succ]
      refine take_run 12 rfl (by kernel_rfl) (by rfl) (fun K hK => ?_)
      go_simp
      refine (HIS.out _ _ (hc3.trans c5) (HX3.out.sinceX c5).1).mono ?_
      rintro en w6 ⟨rfl, hs6⟩
      have c6 := Since.trans c5 hs6
      refine hK.out _ _ (HKD.out _ c6) (fun hHeld6 => ?_)
      clear hK K hHeld5 hs6
      try simp only [Act.put, List.setIfInBounds_toArray, List.set_cons_zero, List.set_cons_succ]
      refine take_run 14 rfl (by kernel_rfl) (by rfl) (fun K hK => ?_)
      go_simp
      refine (HSS.out _ _ (hc3.trans c6) (HX3.out.sinceX c6).1).mono ?_
      rintro en w7 ⟨rfl, hs7⟩
      have c7 := Since.trans c6 hs7
      refine hK.out _ _ (HKD.out _ c7) (fun hHeld7 => ?_)
      clear hK K hHeld6 hs7
      try simp only [Act.put, List.setIfInBounds_toArray, List.set_cons_zero, List.set_cons_succ]
      refine take_yes 15 (some 44) (v := ?_) rfl (by kernel_rfl) (by kernel_rfl) (by kernel_rfl) (by kernel_rfl) (fun _ _ _ h => h) (by rfl) (by assumption) ?_ ?_
      rotate_left
      · (intro w' hSw; (try dsimp only at hSw); go_simp; try with_reducible rfl)
      try simp only [Act.put, List.setIfInBounds_toArray, List.set_cons_zero, List.set_cons_succ]
      refine take_yes 16 (some 45) (v := ?_) rfl (by kernel_rfl) (by kernel_rfl) (by kernel_rfl) (by kernel_rfl) (fun _ _ _ h => h) (by rfl) (by assumption) ?_ ?_
      rotate_left
      · (intro w' hSw; (try dsimp only at hSw); go_simp; try with_reducible rfl)
      try simp only [Act.put, List.setIfInBounds_toArray, List.set_cons_zero, List.set_cons_succ]
      refine take_yes 17 (some 46) (v := ?_) rfl (by kernel_rfl) (by kernel_rfl) (by kernel_rfl) (by kernel_rfl) (fun _ _ _ h => h) (by rfl) (by assumption) ?_ ?_
      rotate_left
      · (intro w' hSw; (try dsimp only at hSw); go_simp; try with_reducible rfl)
      try simp only [Act.put, List.setIfInBounds_toArray, List.set_cons_zero, List.set_cons_succ]
      refine take_yes 18 (some 47) (v := ?_) rfl (by kernel_rfl) (by kernel_rfl) (by kernel_rfl) (by kernel_rfl) (fun _ _ _ h => h) (by rfl) (by assumption) ?_ ?_
      rotate_left
      · (intro w' hSw; (try dsimp only at hSw); go_simp; try with_reducible rfl)
      try simp only [Act.put, List.setIfInBounds_toArray, List.set_cons_zero, List.set_cons_succ]
      refine take_yes 20 (some 49) (v := ?_) rfl (by kernel_rfl) (by kernel_rfl) (by kernel_rfl) (by kernel_rfl) (fun _ _ _ h => h) (by rfl) (by assumption) ?_ ?_
      rotate_left
      · (intro w' hSw; (try dsimp only at hSw); go_simp; try with_reducible rfl)
      try simp only [Act.put, List.setIfInBounds_toArray, List.set_cons_zero, List.set_cons_succ]
      refine take_run 19 rfl (by kernel_rfl) (by rfl) (fun K hK => ?_)
      go_simp
      refine (HIV.out _ _ (hc3.trans c7) (HX3.out.sinceX c7).1).mono ?_
      rintro en w8 ⟨rfl, hs8⟩
      have c8 := Since.trans c7 hs8
      refine hK.out _ _ (HKD.out _ c8) (fun hHeld8 => ?_)
      clear hK K hHeld7 hs8
      try simp only [Act.put, List.setIfInBounds_toArray, List.set_cons_zero, List.set_cons_succ]
      refine take_run 21 rfl (by kernel_rfl) (by rfl) (fun K hK => ?_)
      go_simp
      refine (HSV.out _ _ (hc3.trans c8) (HX3.out.sinceX c8).1).mono ?_
      rintro en w9 ⟨rfl, hs9⟩
      have c9 := Since.trans c8 hs9
      refine hK.out _ _ (HKD.out _ c9) (fun hHeld9 => ?_)
      clear hK K hHeld8 hs9
      try simp only [Act.put, List.setIfInBounds_toArray, List.set_cons_zero, List.set_cons_succ]
      refine take_yes 22 (some 51) (v := ?_) rfl (by kernel_rfl) (by kernel_rfl) (by kernel_rfl) (by kernel_rfl) (fun _ _ _ h => h) (by rfl) (by assumption) ?_ ?_
      rotate_left
      · (intro w' hSw; (try dsimp only at hSw); go_simp; try with_reducible rfl)
      try simp only [Act.put, List.setIfInBounds_toArray, List.set_cons_zero, List.set_cons_succ]
      refine take_yes 23 (some 52) (v := ?_) rfl (by kernel_rfl) (by kernel_rfl) (by kernel_rfl) (by kernel_rfl) (fun _ _ _ h => h) (by rfl) (by assumption) ?_ ?_
      rotate_left
      · (intro w' hSw; (try dsimp only at hSw); go_simp; try with_reducible rfl)
      try simp only [Act.put, List.setIfInBounds_toArray, List.set_cons_zero, List.set_cons_succ]
      refine wpAnyH_done (by kernel_rfl) ?_ _
      clear hHeld9
      have hc7 := hc3.trans c9
      have BE7 := Lib.hid (BE3.out.since c9)
      have HX7 := Lib.hid (HX3.out.sinceX c9)
      have BA7 := Lib.hid (BA3.out.since c9)
      have BB7 := Lib.hid (BB3.out.since c9)
      have PA7 := Lib.hid (PA3.out.since c9)
      have PB7 := Lib.hid (PB3.out.since c9)
      clear BE3 HX3 BA3 BB3 PA3 PB3 BC BD PC3 PD3 HKD c9
      generalize w9 = u7 at *
      obtain ⟨p1, _⟩ := BA7.out.one
      obtain ⟨p2, _⟩ := BB7.out.one
      go_upto_region 8 with fail
      go_cut [72] (fun b wx => b = .bool false ∧ Hid (Since u7 wx))
      case first =>
        by_cases ha : 0 < an1
        · have HQ1 := Lib.hid (HP1.out (by have := hna1.out; omega))
          have ha' : (0 : Int) < (an1 : Int) := by omega
          go_wp2_with fail
          refine (HQ1.out _ _ hc7 PA7.out.at).mono ?_
          rintro en w8 ⟨rfl, hs8⟩
          obtain ⟨p3, _⟩ := (BB7.out.since hs8).one
          by_cases hb : 0 < an2
          · have HQ2 := Lib.hid (HP2.out (by have := hna2.out; omega))
            have hb' : (0 : Int) < (an2 : Int) := by omega
            go_wp2_with fail
            refine (HQ2.out _ _ (hc7.trans hs8) (PB7.out.since hs8).at).mono ?_
            rintro en w9 ⟨rfl, hs9⟩
            have hs89 := Lib.hid (hs8.trans hs9)
            go_wp2_with fail
            go_meet
            exact ⟨by simp, hs89.out⟩
          · have hb' : ¬ (0 : Int) < (an2 : Int) := by omega
            have hs89 := Lib.hid hs8
            go_wp2_with fail
            go_meet
            exact ⟨by simp, hs89.out⟩
        · have ha' : ¬ (0 : Int) < (an1 : Int) := by omega
          by_cases hb : 0 < an2
          · have HQ2 := Lib.hid (HP2.out (by have := hna2.out; omega))
            have hb' : (0 : Int) < (an2 : Int) := by omega
            go_wp2_with fail
            refine (HQ2.out _ _ hc7 PB7.out.at).mono ?_
            rintro en w9 ⟨rfl, hs9⟩
            have hs89 := Lib.hid hs9
            go_wp2_with fail
            go_meet
            exact ⟨by simp, hs89.out⟩
          · have hb' : ¬ (0 : Int) < (an2 : Int) := by omega
            go_wp2_with fail
            go_meet
            exact ⟨by simp, Since.refl _⟩
      case rest =>
        obtain ⟨h72, hw8⟩ := hcut
        subst h72
        have hc8 := hc7.trans hw8.out
        have BE8 := Lib.hid (BE7.out.since hw8.out)
        have HX8 := Lib.hid (HX7.out.sinceX hw8.out)
        clear BE7 HX7 BA7 BB7 PA7 PB7 hc7 p1 p2 hw8 HP1 HP2
        obtain ⟨p0, _⟩ := BE8.out.one
        go_wp2_with fail
        clear p0
        refine (HRV.out _ _ hc8 HX8.out).mono ?_
        rintro e w9 ⟨vr, rfl, hr, hs9⟩
        have PR := Lib.hid hr
        obtain ⟨ro, rn, rc, hrn, rfl⟩ := hr.lenN
        obtain ⟨y9, hy9⟩ : ∃ y, y = w9.alloc (.cells #[.slice ro rn rc] 26) := ⟨_, rfl⟩
        have ha9 : Since w9 y9 := by rw [hy9]; exact (Since.refl w9).alloc _
        have BV : Hid (Blk y9 w9.heap.size 26 #[.slice ro rn rc]) := by rw [hy9]; exact Blk.new rfl _ _
        have h9 := hs9.trans ha9
        have hc9 := hc8.trans h9
        have BE9 := Lib.hid (BE8.out.since h9)
        have HX9 := Lib.hid (HX8.out.sinceX h9)
        have PR9 := Lib.hid (PR.out.since ha9)
        obtain ⟨p0, _⟩ := BE9.out.one
        rw [hy9] at p0
        clear hr BE8 HX8 hs9 ha9 h9 hc8 PR
        go_wp2_with fail
        rw [← hy9]
        clear hy9 p0
        refine (HSS.out _ _ hc9 HX9.out.1).mono ?_
        rintro e w10 ⟨rfl, hs10⟩
        have hc10 := hc9.trans hs10
        have BE10 := Lib.hid (BE9.out.since hs10)
        have HX10 := Lib.hid (HX9.out.sinceX hs10)
        have BV10 := Lib.hid (BV.out.since hs10)
        have PR10 := Lib.hid (PR9.out.since hs10)
        clear BE9 HX9 BV PR9 hc9 hs10
        obtain ⟨p0, _⟩ := BV10.out.one
        have HR2 := Lib.hid (HRR.out (by first | exact rfl | trivial))
        clear HRR
        go_wp2_with fail
        clear p0
        refine (HR2.out _ _ hc10 PR10.out.atC).mono ?_
        rintro e w11 ⟨vx, rfl, hq, hs11⟩
        have PQ := Lib.hid hq
        obtain ⟨qo, qn, qc, hqn, rfl⟩ := hq.lenN
        obtain ⟨y11, hy11⟩ : ∃ y, y = w11.alloc (.cells #[.slice qo qn qc] 26) := ⟨_, rfl⟩
        have ha11 : Since w11 y11 := by rw [hy11]; exact (Since.refl w11).alloc _
        have BQ : Hid (Blk y11 w11.heap.size 26 #[.slice qo qn qc]) := by rw [hy11]; exact Blk.new rfl _ _
        have h11 := hs11.trans ha11
        have hc11 := hc10.trans h11
        have BE11 := Lib.hid (BE10.out.since h11)
        have HX11 := Lib.hid (HX10.out.sinceX h11)
        have PQ11 := Lib.hid (PQ.out.since ha11)
        obtain ⟨p0, _⟩ := BE11.out.one
        obtain ⟨p1, _⟩ := BQ.out.one
        rw [hy11] at p0 p1
        clear hq BE10 HX10 hs11 ha11 h11 hc10 PQ BV10 PR10
        go_wp2_with fail
        rw [← hy11]
        clear hy11 p0 p1
        refine (ee_same _ _ x _ PQ11.out.at HX11.out.1 hx1).mono ?_
        rintro e w12 ⟨rfl, hs12⟩
        have hc12 := hc11.trans hs12
        have BE12 := Lib.hid (BE11.out.since hs12)
        have HX12 := Lib.hid (HX11.out.sinceX hs12)
        clear BE11 HX11 BQ PQ11 hc11 hs12
        obtain ⟨p0, _⟩ := BE12.out.one
        go_wp2_with fail
        clear p0
        refine (HFX.out _ _ hc12 HX12.out.1).mono ?_
        rintro e w13 ⟨rfl, hs13⟩
        have hc13 := hc12.trans hs13
        have BE13 := Lib.hid (BE12.out.since hs13)
        have HX13 := Lib.hid (HX12.out.sinceX hs13)
        clear BE12 HX12 hc12 hs13
        go_wp2_with fail
        refine (HPX.out _ hc13).mono ?_
        rintro e w14 ⟨vy, rfl, hz, hs14⟩
        have PY := Lib.hid hz
        obtain ⟨yo, yn, yc, hyn, rfl⟩ := hz.lenN
        obtain ⟨y14, hy14⟩ : ∃ y, y = w14.alloc (.cells #[.slice yo yn yc] 26) := ⟨_, rfl⟩
        have ha14 : Since w14 y14 := by rw [hy14]; exact (Since.refl w14).alloc _
        have BY : Hid (Blk y14 w14.heap.size 26 #[.slice yo yn yc]) := by rw [hy14]; exact Blk.new rfl _ _
        have h14 := hs14.trans ha14
        have hc14 := hc13.trans h14
        have BE14 := Lib.hid (BE13.out.since h14)
        have HX14 := Lib.hid (HX13.out.sinceX h14)
        have PY14 := Lib.hid (PY.out.since ha14)
        obtain ⟨p0, _⟩ := BE14.out.one
        rw [hy14] at p0
        clear hz BE13 HX13 hs14 ha14 h14 hc13 PY
        go_wp2_with fail
        rw [← hy14]
        clear hy14 p0
        refine (HSV.out _ _ hc14 HX14.out.1).mono ?_
        rintro e w15 ⟨rfl, hs15⟩
        have hc15 := hc14.trans hs15
        have BE15 := Lib.hid (BE14.out.since hs15)
        have HX15 := Lib.hid (HX14.out.sinceX hs15)
        have BY15 := Lib.hid (BY.out.since hs15)
        have PY15 := Lib.hid (PY14.out.since hs15)
        have HPE := Lib.hid (HPA.out (by first | exact rfl | trivial))
        rw [HPE.out] at PY15
        clear BE14 HX14 BY PY14 hc14 hs15 HPA
        obtain ⟨p0, _⟩ := BE15.out.one
        obtain ⟨p1, _⟩ := BY15.out.one
        go_wp2_with fail
        clear p0 p1
        refine (ee_same _ _ x _ PY15.out.at HX15.out.1 hx1).mono ?_
        rintro e w16 ⟨rfl, hs16⟩
        have hc16 := hc15.trans hs16
        go_wp2_with fail
        go_ret
        exact ⟨by simp, hc16⟩
    · refine wp_region_held_drew (S := (fun w' => w'.cell? ⟨w1.heap.size, 0, none⟩ = some (.slice ao n ac) ∧ w'.cell? ⟨w2.heap.size, 0, none⟩ = some (.slice ao1 an1 ac1) ∧ w'.cell? ⟨(w2.heap.size + 1), 0, none⟩ = some (.slice ao2 an2 ac2) ∧ w'.cell? ⟨w3.heap.size, 0, none⟩ = some (.slice ao3 an3 ac3) ∧ w'.cell? ⟨(w3.heap.size + 1), 0, none⟩ = some (.slice ao4 an4 ac4))) (by kernel_rfl) (HKD.out _ (Since.refl _).drew) (fun hHeld => ?_)
      refine take_yes 0 (some 29) (v := ?_) rfl (by kernel_rfl) (by kernel_rfl) (by kernel_rfl) (by kernel_rfl) (fun _ _ _ h => h) (by rfl) (by assumption) ?_ ?_
      rotate_left
      · (intro w' hSw; (try dsimp only at hSw); go_simp; try with_reducible rfl)
      try simp only [Act.put, List.setIfInBounds_toArray, List.set_cons_zero, List.set_cons_succ]
      refine take_yes 1 (some 30) (v := ?_) rfl (by kernel_rfl) (by kernel_rfl) (by kernel_rfl) (by kernel_rfl) (fun _ _ _ h => h) (by rfl) (by assumption) ?_ ?_
      rotate_left
      · (intro w' hSw; (try dsimp only at hSw); go_simp; try with_reducible rfl)
      try simp only [Act.put, List.setIfInBounds_toArray, List.set_cons_zero, List.set_cons_succ]
      refine take_run 2 rfl (by kernel_rfl) (by rfl) (fun K hK => ?_)
      go_simp
      refine (ee_same _ _ R _ (PA3.out.since (Since.refl y3).drew).at (PC3.out.since (Since.refl y3).drew).at hR1).mono ?_
      rintro en w4 ⟨rfl, hs4⟩
      have c4 := Since.trans (Since.refl y3).drew hs4
      refine hK.out _ _ (HKD.out _ c4) (fun hHeld4 => ?_)
      clear hK K hHeld hs4
      try simp only [Act.put, List.setIfInBounds_toArray, List.set_cons_zero, List.set_cons_succ]
      refine take_yes 3 (some 32) (v := ?_) rfl (by kernel_rfl) (by kernel_rfl) (by kernel_rfl) (by kernel_rfl) (fun _ _ _ h => h) (by rfl) (by assumption) ?_ ?_
      rotate_left
      · (intro w' hSw; (try dsimp only at hSw); go_simp; try with_reducible rfl)
      try simp only [Act.put, List.setIfInBounds_toArray, List.set_cons_zero, List.set_cons_succ]
      refine take_yes 4 (some 33) (v := ?_) rfl (by kernel_rfl) (by kernel_rfl) (by kernel_rfl) (by kernel_rfl) (fun _ _ _ h => h) (by rfl) (by assumption) ?_ ?_
      rotate_left
      · (intro w' hSw; (try dsimp only at hSw); go_simp; try with_reducible rfl)
      try simp only [Act.put, List.setIfInBounds_toArray, List.set_cons_zero, List.set_cons_succ]
      refine take_yes 5 (some 34) (v := ?_) rfl (by kernel_rfl) (by kernel_rfl) (by kernel_rfl) (by kernel_rfl) (fun _ _ _ h => h) (by rfl) (by assumption) ?_ ?_
      rotate_left
      · (intro w' hSw; (try dsimp only at hSw); go_simp; try with_reducible rfl)
      try simp only [Act.put, List.setIfInBounds_toArray, List.set_cons_zero, List.set_cons_succ]
      refine take_yes 6 (some 35) (v := ?_) rfl (by kernel_rfl) (by kernel_rfl) (by kernel_rfl) (by kernel_rfl) (fun _ _ _ h => h) (by rfl) (by assumption) ?_ ?_
      rotate_left
      · (intro w' hSw; (try dsimp only at hSw); go_simp; try with_reducible rfl)
      try simp only [Act.put, List.setIfInBounds_toArray, List.set_cons_zero, List.set_cons_succ]
      refine take_run 7 rfl (by kernel_rfl) (by rfl) (fun K hK => ?_)
      go_simp
      refine (ee_same _ _ Q _ (PB3.out.since c4).at (PD3.out.since c4).at hQ1).mono ?_
      rintro en w5 ⟨rfl, hs5⟩
      have c5 := Since.trans c4 hs5
      refine hK.out _ _ (HKD.out _ c5) (fun hHeld5 => ?_)
      clear hK K hHeld4 hs5
      try simp only [Act.put, List.setIfInBounds_toArray, List.set_cons_zero, List.set_cons_succ]
      refine take_yes 8 (some 37) (v := ?_) rfl (by kernel_rfl) (by kernel_rfl) (by kernel_rfl) (by kernel_rfl) (fun _ _ _ h => h) (by rfl) (by assumption) ?_ ?_
      rotate_left
      · (intro w' hSw; (try dsimp only at hSw); go_simp; try with_reducible rfl)
      try simp only [Act.put, List.setIfInBounds_toArray, List.set_cons_zero, List.set_cons_succ]
      refine take_yes 9 (some 38) (v := ?_) rfl (by kernel_rfl) (by kernel_rfl) (by kernel_rfl) (by kernel_rfl) (fun _ _ _ h => h) (by rfl) (by assumption) ?_ ?_
      rotate_left
      · (intro w' hSw; (try dsimp only at hSw); go_simp; try with_reducible rfl)
      try simp only [Act.put, List.setIfInBounds_toArray, List.set_cons_zero, List.set_cons_succ]
      refine take_yes 10 (some 39) (v := ?_) rfl (by kernel_rfl) (by kernel_rfl) (by kernel_rfl) (by kernel_rfl) (fun _ _ _ h => h) (by rfl) (by assumption) ?_ ?_
      rotate_left
      · (intro w' hSw; (try dsimp only at hSw); go_simp; try with_reducible rfl)
      try simp only [Act.put, List.setIfInBounds_toArray, List.set_cons_zero, List.set_cons_succ]
      refine take_yes 11 (some 40) (v := ?_) rfl (by kernel_rfl) (by kernel_rfl) (by kernel_rfl) (by kernel_rfl) (fun _ _ _ h => h) (by rfl) (by assumption) ?_ ?_
      rotate_left
      · (intro w' hSw; (try dsimp only at hSw); go_simp; try with_reducible rfl)
      try simp only [Act.put, List.setIfInBounds_toArray, List.set_cons_zero, List.set_cons_succ]
      refine take_yes 13 (some 42) (v := ?_) rfl (by kernel_rfl) (by kernel_rfl) (by kernel_rfl) (by kernel_rfl) (fun _ _ _ h => h) (by rfl) (by assumption) ?_ ?_
      rotate_left
      · (intro w' hSw; (try dsimp only at hSw); go_simp; try with_reducible rfl)
      try simp only [Act.put, List.setIfInBounds_toArray, List.set_cons_zero, List.set_cons_succ]
      refine take_run 12 rfl (by kernel_rfl) (by rfl) (fun K hK => ?_)
      go_simp
      refine (HIS.out _ _ (hc3.trans c5) (HX3.out.sinceX c5).1).mono ?_
      rintro en w6 ⟨rfl, hs6⟩
      have c6 := Since.trans c5 hs6
      refine hK.out _ _ (HKD.out _ c6) (fun hHeld6 => ?_)
      clear hK K hHeld5 hs6
      try simp only [Act.put, List.setIfInBounds_toArray, List.set_cons_zero, List.set_cons_succ]
      refine take_run 14 rfl (by kernel_rfl) (by rfl) (fun K hK => ?_)
      go_simp
      refine (HSS.out _ _ (hc3.trans c6) (HX3.out.sinceX c6).1).mono ?_
      rintro en w7 ⟨rfl, hs7⟩
      have c7 := Since.trans c6 hs7
      refine hK.out _ _ (HKD.out _ c7) (fun hHeld7 => ?_)
      clear hK K hHeld6 hs7
      try simp only [Act.put, List.setIfInBounds_toArray, List.set_cons_zero, List.set_cons_succ]
      refine take_yes 15 (some 44) (v := ?_) rfl (by kernel_rfl) (by kernel_rfl) (by kernel_rfl) (by kernel_rfl) (fun _ _ _ h => h) (by rfl) (by assumption) ?_ ?_
      rotate_left
      · (intro w' hSw; (try dsimp only at hSw); go_simp; try with_reducible rfl)
      try simp only [Act.put, List.setIfInBounds_toArray, List.set_cons_zero, List.set_cons_succ]
      refine take_yes 16 (some 45) (v := ?_) rfl (by kernel_rfl) (by kernel_rfl) (by kernel_rfl) (by kernel_rfl) (fun _ _ _ h => h) (by rfl) (by assumption) ?_ ?_
      rotate_left
      · (intro w' hSw; (try dsimp only at hSw); go_simp; try with_reducible rfl)
      try simp only [Act.put, List.setIfInBounds_toArray, List.set_cons_zero, List.set_cons_succ]
      refine take_yes 17 (some 46) (v := ?_) rfl (by kernel_rfl) (by kernel_rfl) (by kernel_rfl) (by kernel_rfl) (fun _ _ _ h => h) (by rfl) (by assumption) ?_ ?_
      rotate_left
      · (intro w' hSw; (try dsimp only at hSw); go_simp; try with_reducible rfl)
      try simp only [Act.put, List.setIfInBounds_toArray, List.set_cons_zero, List.set_cons_succ]
      refine take_yes 18 (some 47) (v := ?_) rfl (by kernel_rfl) (by kernel_rfl) (by kernel_rfl) (by kernel_rfl) (fun _ _ _ h => h) (by rfl) (by assumption) ?_ ?_
      rotate_left
      · (intro w' hSw; (try dsimp only at hSw); go_simp; try with_reducible rfl)
      try simp only [Act.put, List.setIfInBounds_toArray, List.set_cons_zero, List.set_cons_succ]
      refine take_yes 20 (some 49) (v := ?_) rfl (by kernel_rfl) (by kernel_rfl) (by kernel_rfl) (by kernel_rfl) (fun _ _ _ h => h) (by rfl) (by assumption) ?_ ?_
      rotate_left
      · (intro w' hSw; (try dsimp only at hSw); go_simp; try with_reducible rfl)
      try simp only [Act.put, List.setIfInBounds_toArray, List.set_cons_zero, List.set_cons_succ]
      refine take_run 19 rfl (by kernel_rfl) (by rfl) (fun K hK => ?_)
      go_simp
      refine (HIV.out _ _ (hc3.trans c7) (HX3.out.sinceX c7).1).mono ?_
      rintro en w8 ⟨rfl, hs8⟩
      have c8 := Since.trans c7 hs8
      refine hK.out _ _ (HKD.out _ c8) (fun hHeld8 => ?_)
      clear hK K hHeld7 hs8
      try simp only [Act.put, List.setIfInBounds_toArray, List.set_cons_zero, List.set_cons_succ]
      refine take_run 21 rfl (by kernel_rfl) (by rfl) (fun K hK => ?_)
      go_simp
      refine (HSV.out _ _ (hc3.trans c8) (HX3.out.sinceX c8).1).mono ?_
      rintro en w9 ⟨rfl, hs9⟩
      have c9 := Since.trans c8 hs9
      refine hK.out _ _ (HKD.out _ c9) (fun hHeld9 => ?_)
      clear hK K hHeld8 hs9
      try simp only [Act.put, List.setIfInBounds_toArray, List.set_cons_zero, List.set_cons_succ]
      refine take_yes 22 (some 51) (v := ?_) rfl (by kernel_rfl) (by kernel_rfl) (by kernel_rfl) (by kernel_rfl) (fun _ _ _ h => h) (by rfl) (by assumption) ?_ ?_
      rotate_left
      · (intro w' hSw; (try dsimp only at hSw); go_simp; try with_reducible rfl)
      try simp only [Act.put, List.setIfInBounds_toArray, List.set_cons_zero, List.set_cons_succ]
      refine take_yes 23 (some 52) (v := ?_) rfl (by kernel_rfl) (by kernel_rfl) (by kernel_rfl) (by kernel_rfl) (fun _ _ _ h => h) (by rfl) (by assumption) ?_ ?_
      rotate_left
      · (intro w' hSw; (try dsimp only at hSw); go_simp; try with_reducible rfl)
      try simp only [Act.put, List.setIfInBounds_toArray, List.set_cons_zero, List.set_cons_succ]
      refine wpAnyH_done (by kernel_rfl) ?_ _
      clear hHeld9
      have hc7 := hc3.trans c9
      have BE7 := Lib.hid (BE3.out.since c9)
      have HX7 := Lib.hid (HX3.out.sinceX c9)
      have BA7 := Lib.hid (BA3.out.since c9)
      have BB7 := Lib.hid (BB3.out.since c9)
      have PA7 := Lib.hid (PA3.out.since c9)
      have PB7 := Lib.hid (PB3.out.since c9)
      clear BE3 HX3 BA3 BB3 PA3 PB3 BC BD PC3 PD3 HKD c9
      generalize w9 = u7 at *
      obtain ⟨p1, _⟩ := BA7.out.one
      obtain ⟨p2, _⟩ := BB7.out.one
      go_upto_region 8 with fail
      go_cut [72] (fun b wx => b = .bool false ∧ Hid (Since u7 wx))
      case first =>
        by_cases ha : 0 < an1
        · have HQ1 := Lib.hid (HP1.out (by have := hna1.out; omega))
          have ha' : (0 : Int) < (an1 : Int) := by omega
          go_wp2_with fail
          refine (HQ1.out _ _ hc7 PA7.out.at).mono ?_
          rintro en w8 ⟨rfl, hs8⟩
          obtain ⟨p3, _⟩ := (BB7.out.since hs8).one
          by_cases hb : 0 < an2
          · have HQ2 := Lib.hid (HP2.out (by have := hna2.out; omega))
            have hb' : (0 : Int) < (an2 : Int) := by omega
            go_wp2_with fail
            refine (HQ2.out _ _ (hc7.trans hs8) (PB7.out.since hs8).at).mono ?_
            rintro en w9 ⟨rfl, hs9⟩
            have hs89 := Lib.hid (hs8.trans hs9)
            go_wp2_with fail
            go_meet
            exact ⟨by simp, hs89.out⟩
          · have hb' : ¬ (0 : Int) < (an2 : Int) := by omega
            have hs89 := Lib.hid hs8
            go_wp2_with fail
            go_meet
            exact ⟨by simp, hs89.out⟩
        · have ha' : ¬ (0 : Int) < (an1 : Int) := by omega
          by_cases hb : 0 < an2
          · have HQ2 := Lib.hid (HP2.out (by have := hna2.out; omega))
            have hb' : (0 : Int) < (an2 : Int) := by omega
            go_wp2_with fail
            refine (HQ2.out _ _ hc7 PB7.out.at).mono ?_
            rintro en w9 ⟨rfl, hs9⟩
            have hs89 := Lib.hid hs9
            go_wp2_with fail
            go_meet
            exact ⟨by simp, hs89.out⟩
          · have hb' : ¬ (0 : Int) < (an2 : Int) := by omega
            go_wp2_with fail
            go_meet
            exact ⟨by simp, Since.refl _⟩
      case rest =>
        obtain ⟨h72, hw8⟩ := hcut
        subst h72
        have hc8 := hc7.trans hw8.out
        have BE8 := Lib.hid (BE7.out.since hw8.out)
        have HX8 := Lib.hid (HX7.out.sinceX hw8.out)
        clear BE7 HX7 BA7 BB7 PA7 PB7 hc7 p1 p2 hw8 HP1 HP2
        obtain ⟨p0, _⟩ := BE8.out.one
        go_wp2_with fail
        clear p0
        refine (HRV.out _ _ hc8 HX8.out).mono ?_
        rintro e w9 ⟨vr, rfl, hr, hs9⟩
        have PR := Lib.hid hr
        obtain ⟨ro, rn, rc, hrn, rfl⟩ := hr.lenN
        obtain ⟨y9, hy9⟩ : ∃ y, y = w9.alloc (.cells #[.slice ro rn rc] 26) := ⟨_, rfl⟩
        have ha9 : Since w9 y9 := by rw [hy9]; exact (Since.refl w9).alloc _
        have BV : Hid (Blk y9 w9.heap.size 26 #[.slice ro rn rc]) := by rw [hy9]; exact Blk.new rfl _ _
        have h9 := hs9.trans ha9
        have hc9 := hc8.trans h9
        have BE9 := Lib.hid (BE8.out.since h9)
        have HX9 := Lib.hid (HX8.out.sinceX h9)
        have PR9 := Lib.hid (PR.out.since ha9)
        obtain ⟨p0, _⟩ := BE9.out.one
        rw [hy9] at p0
        clear hr BE8 HX8 hs9 ha9 h9 hc8 PR
        go_wp2_with fail
        rw [← hy9]
        clear hy9 p0
        refine (HSS.out _ _ hc9 HX9.out.1).mono ?_
        rintro e w10 ⟨rfl, hs10⟩
        have hc10 := hc9.trans hs10
        have BE10 := Lib.hid (BE9.out.since hs10)
        have HX10 := Lib.hid (HX9.out.sinceX hs10)
        have BV10 := Lib.hid (BV.out.since hs10)
        have PR10 := Lib.hid (PR9.out.since hs10)
        clear BE9 HX9 BV PR9 hc9 hs10
        obtain ⟨p0, _⟩ := BV10.out.one
        have HR2 := Lib.hid (HRR.out (by first | exact rfl | trivial))
        clear HRR
        go_wp2_with fail
        clear p0
        refine (HR2.out _ _ hc10 PR10.out.atC).mono ?_
        rintro e w11 ⟨vx, rfl, hq, hs11⟩
        have PQ := Lib.hid hq
        obtain ⟨qo, qn, qc, hqn, rfl⟩ := hq.lenN
        obtain ⟨y11, hy11⟩ : ∃ y, y = w11.alloc (.cells #[.slice qo qn qc] 26) := ⟨_, rfl⟩
        have ha11 : Since w11 y11 := by rw [hy11]; exact (Since.refl w11).alloc _
        have BQ : Hid (Blk y11 w11.heap.size 26 #[.slice qo qn qc]) := by rw [hy11]; exact Blk.new rfl _ _
        have h11 := hs11.trans ha11
        have hc11 := hc10.trans h11
        have BE11 := Lib.hid (BE10.out.since h11)
        have HX11 := Lib.hid (HX10.out.sinceX h11)
        have PQ11 := Lib.hid (PQ.out.since ha11)
        obtain ⟨p0, _⟩ := BE11.out.one
        obtain ⟨p1, _⟩ := BQ.out.one
        rw [hy11] at p0 p1
        clear hq BE10 HX10 hs11 ha11 h11 hc10 PQ BV10 PR10
        go_wp2_with fail
        rw [← hy11]
        clear hy11 p0 p1
        refine (ee_same _ _ x _ PQ11.out.at HX11.out.1 hx1).mono ?_
        rintro e w12 ⟨rfl, hs12⟩
        have hc12 := hc11.trans hs12
        have BE12 := Lib.hid (BE11.out.since hs12)
        have HX12 := Lib.hid (HX11.out.sinceX hs12)
        clear BE11 HX11 BQ PQ11 hc11 hs12
        obtain ⟨p0, _⟩ := BE12.out.one
        go_wp2_with fail
        clear p0
        refine (HFX.out _ _ hc12 HX12.out.1).mono ?_
        rintro e w13 ⟨rfl, hs13⟩
        have hc13 := hc12.trans hs13
        have BE13 := Lib.hid (BE12.out.since hs13)
        have HX13 := Lib.hid (HX12.out.sinceX hs13)
        clear BE12 HX12 hc12 hs13
        go_wp2_with fail
        refine (HPX.out _ hc13).mono ?_
        rintro e w14 ⟨vy, rfl, hz, hs14⟩
        have PY := Lib.hid hz
        obtain ⟨yo, yn, yc, hyn, rfl⟩ := hz.lenN
        obtain ⟨y14, hy14⟩ : ∃ y, y = w14.alloc (.cells #[.slice yo yn yc] 26) := ⟨_, rfl⟩
        have ha14 : Since w14 y14 := by rw [hy14]; exact (Since.refl w14).alloc _
        have BY : Hid (Blk y14 w14.heap.size 26 #[.slice yo yn yc]) := by rw [hy14]; exact Blk.new rfl _ _
        have h14 := hs14.trans ha14
        have hc14 := hc13.trans h14
        have BE14 := Lib.hid (BE13.out.since h14)
        have HX14 := Lib.hid (HX13.out.sinceX h14)
        have PY14 := Lib.hid (PY.out.since ha14)
        obtain ⟨p0, _⟩ := BE14.out.one
        rw [hy14] at p0
        clear hz BE13 HX13 hs14 ha14 h14 hc13 PY
        go_wp2_with fail
        rw [← hy14]
        clear hy14 p0
        refine (HSV.out _ _ hc14 HX14.out.1).mono ?_
        rintro e w15 ⟨rfl, hs15⟩
        have hc15 := hc14.trans hs15
        go_wp2_with fail
        go_ret
        exact ⟨by simp, hc15⟩
    · refine wp_region_held_drew (S := (fun w' => w'.cell? ⟨w1.heap.size, 0, none⟩ = some (.slice ao n ac) ∧ w'.cell? ⟨w2.heap.size, 0, none⟩ = some (.slice ao1 an1 ac1) ∧ w'.cell? ⟨(w2.heap.size + 1), 0, none⟩ = some (.slice ao2 an2 ac2) ∧ w'.cell? ⟨w3.heap.size, 0, none⟩ = some (.slice ao3 an3 ac3) ∧ w'.cell? ⟨(w3.heap.size + 1), 0, none⟩ = some (.slice ao4 an4 ac4))) (by kernel_rfl) (HKD.out _ (Since.refl _).drew) (fun hHeld => ?_)
      refine take_yes 0 (some 29) (v := ?_) rfl (by kernel_rfl) (by kernel_rfl) (by kernel_rfl) (by kernel_rfl) (fun _ _ _ h => h) (by rfl) (by assumption) ?_ ?_
      rotate_left
      · (intro w' hSw; (try dsimp only at hSw); go_simp; try with_reducible rfl)
      try simp only [Act.put, List.setIfInBounds_toArray, List.set_cons_zero, List.set_cons_succ]
      refine take_yes 1 (some 30) (v := ?_) rfl (by kernel_rfl) (by kernel_rfl) (by kernel_rfl) (by kernel_rfl) (fun _ _ _ h => h) (by rfl) (by assumption) ?_ ?_
      rotate_left
      · (intro w' hSw; (try dsimp only at hSw); go_simp; try with_reducible rfl)
      try simp only [Act.put, List.setIfInBounds_toArray, List.set_cons_zero, List.set_cons_succ]
      refine take_run 2 rfl (by kernel_rfl) (by rfl) (fun K hK => ?_)
      go_simp
      refine (ee_same _ _ R _ (PA3.out.since (Since.refl y3).drew).at (PC3.out.since (Since.refl y3).drew).at hR1).mono ?_
      rintro en w4 ⟨rfl, hs4⟩
      have c4 := Since.trans (Since.refl y3).drew hs4
      refine hK.out _ _ (HKD.out _ c4) (fun hHeld4 => ?_)
      clear hK K hHeld hs4
      try simp only [Act.put, List.setIfInBounds_toArray, List.set_cons_zero, List.set_cons_succ]
      refine take_yes 3 (some 32) (v := ?_) rfl (by kernel_rfl) (by kernel_rfl) (by kernel_rfl) (by kernel_rfl) (fun _ _ _ h => h) (by rfl) (by assumption) ?_ ?_
      rotate_left
      · (intro w' hSw; (try dsimp only at hSw); go_simp; try with_reducible rfl)
      try simp only [Act.put, List.setIfInBounds_toArray, List.set_cons_zero, List.set_cons_succ]
      refine take_yes 4 (some 33) (v := ?_) rfl (by kernel_rfl) (by kernel_rfl) (by kernel_rfl) (by kernel_rfl) (fun _ _ _ h => h) (by rfl) (by assumption) ?_ ?_
      rotate_left
      · (intro w' hSw; (try dsimp only at hSw); go_simp; try with_reducible rfl)
      try simp only [Act.put, List.setIfInBounds_toArray, List.set_cons_zero, List.set_cons_succ]
      refine take_yes 5 (some 34) (v := ?_) rfl (by kernel_rfl) (by kernel_rfl) (by kernel_rfl) (by kernel_rfl) (fun _ _ _ h => h) (by rfl) (by assumption) ?_ ?_
      rotate_left
      · (intro w' hSw; (try dsimp only at hSw); go_simp; try with_reducible rfl)
      try simp only [Act.put, List.setIfInBounds_toArray, List.set_cons_zero, List.set_cons_succ]
      refine take_yes 6 (some 35) (v := ?_) rfl (by kernel_rfl) (by kernel_rfl) (by kernel_rfl) (by kernel_rfl) (fun _ _ _ h => h) (by rfl) (by assumption) ?_ ?_
      rotate_left
      · (intro w' hSw; (try dsimp only at hSw); go_simp; try with_reducible rfl)
      try simp only [Act.put, List.setIfInBounds_toArray, List.set_cons_zero, List.set_cons_succ]
      refine take_run 7 rfl (by kernel_rfl) (by rfl) (fun K hK => ?_)
      go_simp
      refine (ee_same _ _ Q _ (PB3.out.since c4).at (PD3.out.since c4).at hQ1).mono ?_
      rintro en w5 ⟨rfl, hs5⟩
      have c5 := Since.trans c4 hs5
      refine hK.out _ _ (HKD.out _ c5) (fun hHeld5 => ?_)
      clear hK K hHeld4 hs5
      try simp only [Act.put, List.setIfInBounds_toArray, List.set_cons_zero, List.set_cons_succ]
      refine take_yes 8 (some 37) (v := ?_) rfl (by kernel_rfl) (by kernel_rfl) (by kernel_rfl) (by kernel_rfl) (fun _ _ _ h => h) (by rfl) (by assumption) ?_ ?_
      rotate_left
      · (intro w' hSw; (try dsimp only at hSw); go_simp; try with_reducible rfl)
      try simp only [Act.put, List.setIfInBounds_toArray, List.set_cons_zero, List.set_cons_succ]
      refine take_yes 9 (some 38) (v := ?_) rfl (by kernel_rfl) (by kernel_rfl) (by kernel_rfl) (by kernel_rfl) (fun _ _ _ h => h) (by rfl) (by assumption) ?_ ?_
      rotate_left
      · (intro w' hSw; (try dsimp only at hSw); go_simp; try with_reducible rfl)
      try simp only [Act.put, List.setIfInBounds_toArray, List.set_cons_zero, List.set_cons_succ]
      refine take_yes 10 (some 39) (v := ?_) rfl (by kernel_rfl) (by kernel_rfl) (by kernel_rfl) (by kernel_rfl) (fun _ _ _ h => h) (by rfl) (by assumption) ?_ ?_
      rotate_left
      · (intro w' hSw; (try dsimp only at hSw); go_simp; try with_reducible rfl)
      try simp only [Act.put, List.setIfInBounds_toArray, List.set_cons_zero, List.set_cons_succ]
      refine take_yes 11 (some 40) (v := ?_) rfl (by kernel_rfl) (by kernel_rfl) (by kernel_rfl) (by kernel_rfl) (fun _ _ _ h => h) (by rfl) (by assumption) ?_ ?_
      rotate_left
      · (intro w' hSw; (try dsimp only at hSw); go_simp; try with_reducible rfl)
      try simp only [Act.put, List.setIfInBounds_toArray, List.set_cons_zero, List.set_cons_succ]
      refine take_yes 13 (some 42) (v := ?_) rfl (by kernel_rfl) (by kernel_rfl) (by kernel_rfl) (by kernel_rfl) (fun _ _ _ h => h) (by rfl) (by assumption) ?_ ?_
      rotate_left
      · (intro w' hSw; (try dsimp only at hSw); go_simp; try with_reducible rfl)
      try simp only [Act.put, List.setIfInBounds_toArray, List.set_cons_zero, List.set_cons_succ]
      refine take_run 12 rfl (by kernel_rfl) (by rfl) (fun K hK => ?_)
      go_simp
      refine (HIS.out _ _ (hc3.trans c5) (HX3.out.sinceX c5).1).mono ?_
      rintro en w6 ⟨rfl, hs6⟩
      have c6 := Since.trans c5 hs6
      refine hK.out _ _ (HKD.out _ c6) (fun hHeld6 => ?_)
      clear hK K hHeld5 hs6
      try simp only [Act.put, List.setIfInBounds_toArray, List.set_cons_zero, List.set_cons_succ]
      refine take_run 14 rfl (by kernel_rfl) (by rfl) (fun K hK => ?_)
      go_simp
      refine (HSS.out _ _ (hc3.trans c6) (HX3.out.sinceX c6).1).mono ?_
      rintro en w7 ⟨rfl, hs7⟩
      have c7 := Since.trans c6 hs7
      refine hK.out _ _ (HKD.out _ c7) (fun hHeld7 => ?_)
      clear hK K hHeld6 hs7
      try simp only [Act.put, List.setIfInBounds_toArray, List.set_cons_zero, List.set_cons_succ]
      refine take_yes 15 (some 44) (v := ?_) rfl (by kernel_rfl) (by kernel_rfl) (by kernel_rfl) (by kernel_rfl) (fun _ _ _ h => h) (by rfl) (by assumption) ?_ ?_
      rotate_left
      · (intro w' hSw; (try dsimp only at hSw); go_simp; try with_reducible rfl)
      try simp only [Act.put, List.setIfInBounds_toArray, List.set_cons_zero, List.set_cons_succ]
      refine take_yes 16 (some 45) (v := ?_) rfl (by kernel_rfl) (by kernel_rfl) (by kernel_rfl) (by kernel_rfl) (fun _ _ _ h => h) (by rfl) (by assumption) ?_ ?_
      rotate_left
      · (intro w' hSw; (try dsimp only at hSw); go_simp; try with_reducible rfl)
      try simp only [Act.put, List.setIfInBounds_toArray, List.set_cons_zero, List.set_cons_succ]
      refine take_yes 17 (some 46) (v := ?_) rfl (by kernel_rfl) (by kernel_rfl) (by kernel_rfl) (by kernel_rfl) (fun _ _ _ h => h) (by rfl) (by assumption) ?_ ?_
      rotate_left
      · (intro w' hSw; (try dsimp only at hSw); go_simp; try with_reducible rfl)
      try simp only [Act.put, List.setIfInBounds_toArray, List.set_cons_zero, List.set_cons_succ]
      refine take_yes 18 (some 47) (v := ?_) rfl (by kernel_rfl) (by kernel_rfl) (by kernel_rfl) (by kernel_rfl) (fun _ _ _ h => h) (by rfl) (by assumption) ?_ ?_
      rotate_left
      · (intro w' hSw; (try dsimp only at hSw); go_simp; try with_reducible rfl)
      try simp only [Act.put, List.setIfInBounds_toArray, List.set_cons_zero, List.set_cons_succ]
      refine take_yes 20 (some 49) (v := ?_) rfl (by kernel_rfl) (by kernel_rfl) (by kernel_rfl) (by kernel_rfl) (fun _ _ _ h => h) (by rfl) (by assumption) ?_ ?_
      rotate_left
      · (intro w' hSw; (try dsimp only at hSw); go_simp; try with_reducible rfl)
      try simp only [Act.put, List.setIfInBounds_toArray, List.set_cons_zero, List.set_cons_succ]
      refine take_run 19 rfl (by kernel_rfl) (by rfl) (fun K hK => ?_)
      go_simp
      refine (HIV.out _ _ (hc3.trans c7) (HX3.out.sinceX c7).1).mono ?_
      rintro en w8 ⟨rfl, hs8⟩
      have c8 := Since.trans c7 hs8
      refine hK.out _ _ (HKD.out _ c8) (fun hHeld8 => ?_)
      clear hK K hHeld7 hs8
      try simp only [Act.put, List.setIfInBounds_toArray, List.set_cons_zero, List.set_cons_succ]
      refine take_run 21 rfl (by kernel_rfl) (by rfl) (fun K hK => ?_)
      go_simp
      refine (HSV.out _ _ (hc3.trans c8) (HX3.out.sinceX c8).1).mono ?_
      rintro en w9 ⟨rfl, hs9⟩
      have c9 := Since.trans c8 hs9
      refine hK.out _ _ (HKD.out _ c9) (fun hHeld9 => ?_)
      clear hK K hHeld8 hs9
      try simp only [Act.put, List.setIfInBounds_toArray, List.set_cons_zero, List.set_cons_succ]
      refine take_yes 22 (some 51) (v := ?_) rfl (by kernel_rfl) (by kernel_rfl) (by kernel_rfl) (by kernel_rfl) (fun _ _ _ h => h) (by rfl) (by assumption) ?_ ?_
      rotate_left
      · (intro w' hSw; (try dsimp only at hSw); go_simp; try with_reducible rfl)
      try simp only [Act.put, List.setIfInBounds_toArray, List.set_cons_zero, List.set_cons_succ]
      refine take_yes 23 (some 52) (v := ?_) rfl (by kernel_rfl) (by kernel_rfl) (by kernel_rfl) (by kernel_rfl) (fun _ _ _ h => h) (by rfl) (by assumption) ?_ ?_
      rotate_left
      · (intro w' hSw; (try dsimp only at hSw); go_simp; try with_reducible rfl)
      try simp only [Act.put, List.setIfInBounds_toArray, List.set_cons_zero, List.set_cons_succ]
      refine wpAnyH_done (by kernel_rfl) ?_ _
      clear hHeld9
      have hc7 := hc3.trans c9
      have BE7 := Lib.hid (BE3.out.since c9)
      have HX7 := Lib.hid (HX3.out.sinceX c9)
      have BA7 := Lib.hid (BA3.out.since c9)
      have BB7 := Lib.hid (BB3.out.since c9)
      have PA7 := Lib.hid (PA3.out.since c9)
      have PB7 := Lib.hid (PB3.out.since c9)
      clear BE3 HX3 BA3 BB3 PA3 PB3 BC BD PC3 PD3 HKD c9
      generalize w9 = u7 at *
      obtain ⟨p1, _⟩ := BA7.out.one
      obtain ⟨p2, _⟩ := BB7.out.one
      go_upto_region 8 with fail
      go_cut [72] (fun b wx => b = .bool false ∧ Hid (Since u7 wx))
      case first =>
        by_cases ha : 0 < an1
        · have HQ1 := Lib.hid (HP1.out (by have := hna1.out; omega))
          have ha' : (0 : Int) < (an1 : Int) := by omega
          go_wp2_with fail
          refine (HQ1.out _ _ hc7 PA7.out.at).mono ?_
          rintro en w8 ⟨rfl, hs8⟩
          obtain ⟨p3, _⟩ := (BB7.out.since hs8).one
          by_cases hb : 0 < an2
          · have HQ2 := Lib.hid (HP2.out (by have := hna2.out; omega))
            have hb' : (0 : Int) < (an2 : Int) := by omega
            go_wp2_with fail
            refine (HQ2.out _ _ (hc7.trans hs8) (PB7.out.since hs8).at).mono ?_
            rintro en w9 ⟨rfl, hs9⟩
            have hs89 := Lib.hid (hs8.trans hs9)
            go_wp2_with fail
            go_meet
            exact ⟨by simp, hs89.out⟩
          · have hb' : ¬ (0 : Int) < (an2 : Int) := by omega
            have hs89 := Lib.hid hs8
            go_wp2_with fail
            go_meet
            exact ⟨by simp, hs89.out⟩
        · have ha' : ¬ (0 : Int) < (an1 : Int) := by omega
          by_cases hb : 0 < an2
          · have HQ2 := Lib.hid (HP2.out (by have := hna2.out; omega))
            have hb' : (0 : Int) < (an2 : Int) := by omega
            go_wp2_with fail
            refine (HQ2.out _ _ hc7 PB7.out.at).mono ?_
            rintro en w9 ⟨rfl, hs9⟩
            have hs89 := Lib.hid hs9
            go_wp2_with fail
            go_meet
            exact ⟨by simp, hs89.out⟩
          · have hb' : ¬ (0 : Int) < (an2 : Int) := by omega
            go_wp2_with fail
            go_meet
            exact ⟨by simp, Since.refl _⟩
      case rest =>
        obtain ⟨h72, hw8⟩ := hcut
        subst h72
        have hc8 := hc7.trans hw8.out
        have BE8 := Lib.hid (BE7.out.since hw8.out)
        have HX8 := Lib.hid (HX7.out.sinceX hw8.out)
        clear BE7 HX7 BA7 BB7 PA7 PB7 hc7 p1 p2 hw8 HP1 HP2
        obtain ⟨p0, _⟩ := BE8.out.one
        go_wp2_with fail
        clear p0
        refine (HRV.out _ _ hc8 HX8.out).mono ?_
        rintro e w9 ⟨vr, rfl, hr, hs9⟩
        have PR := Lib.hid hr
        obtain ⟨ro, rn, rc, hrn, rfl⟩ := hr.lenN
        obtain ⟨y9, hy9⟩ : ∃ y, y = w9.alloc (.cells #[.slice ro rn rc] 26) := ⟨_, rfl⟩
        have ha9 : Since w9 y9 := by rw [hy9]; exact (Since.refl w9).alloc _
        have BV : Hid (Blk y9 w9.heap.size 26 #[.slice ro rn rc]) := by rw [hy9]; exact Blk.new rfl _ _
        have h9 := hs9.trans ha9
        have hc9 := hc8.trans h9
        have BE9 := Lib.hid (BE8.out.since h9)
        have HX9 := Lib.hid (HX8.out.sinceX h9)
        have PR9 := Lib.hid (PR.out.since ha9)
        obtain ⟨p0, _⟩ := BE9.out.one
        rw [hy9] at p0
        clear hr BE8 HX8 hs9 ha9 h9 hc8 PR
        go_wp2_with fail
        rw [← hy9]
        clear hy9 p0
        refine (HSS.out _ _ hc9 HX9.out.1).mono ?_
        rintro e w10 ⟨rfl, hs10⟩
        have hc10 := hc9.trans hs10
        have BE10 := Lib.hid (BE9.out.since hs10)
        have HX10 := Lib.hid (HX9.out.sinceX hs10)
        have BV10 := Lib.hid (BV.out.since hs10)
        have PR10 := Lib.hid (PR9.out.since hs10)
        clear BE9 HX9 BV PR9 hc9 hs10
        obtain ⟨p0, _⟩ := BV10.out.one
        clear p0
        have hc12 := hc10
        have BE12 := BE10
        have HX12 := HX10
        clear BE10 HX10 BV10 PR10 hc10
        obtain ⟨p0, _⟩ := BE12.out.one
        go_wp2_with fail
        clear p0
        refine (HFX.out _ _ hc12 HX12.out.1).mono ?_
        rintro e w13 ⟨rfl, hs13⟩
        have hc13 := hc12.trans hs13
        have BE13 := Lib.hid (BE12.out.since hs13)
        have HX13 := Lib.hid (HX12.out.sinceX hs13)
        clear BE12 HX12 hc12 hs13
        go_wp2_with fail
        refine (HPX.out _ hc13).mono ?_
        rintro e w14 ⟨vy, rfl, hz, hs14⟩
        have PY := Lib.hid hz
        obtain ⟨yo, yn, yc, hyn, rfl⟩ := hz.lenN
        obtain ⟨y14, hy14⟩ : ∃ y, y = w14.alloc (.cells #[.slice yo yn yc] 26) := ⟨_, rfl⟩
        have ha14 : Since w14 y14 := by rw [hy14]; exact (Since.refl w14).alloc _
        have BY : Hid (Blk y14 w14.heap.size 26 #[.slice yo yn yc]) := by rw [hy14]; exact Blk.new rfl _ _
        have h14 := hs14.trans ha14
        have hc14 := hc13.trans h14
        have BE14 := Lib.hid (BE13.out.since h14)
        have HX14 := Lib.hid (HX13.out.sinceX h14)
        have PY14 := Lib.hid (PY.out.since ha14)
        obtain ⟨p0, _⟩ := BE14.out.one
        rw [hy14] at p0
        clear hz BE13 HX13 hs14 ha14 h14 hc13 PY
        go_wp2_with fail
        rw [← hy14]
        clear hy14 p0
        refine (HSV.out _ _ hc14 HX14.out.1).mono ?_
        rintro e w15 ⟨rfl, hs15⟩
        have hc15 := hc14.trans hs15
        have BE15 := Lib.hid (BE14.out.since hs15)
        have HX15 := Lib.hid (HX14.out.sinceX hs15)
        have BY15 := Lib.hid (BY.out.since hs15)
        have PY15 := Lib.hid (PY14.out.since hs15)
        have HPE := Lib.hid (HPA.out (by first | exact rfl | trivial))
        rw [HPE.out] at PY15
        clear BE14 HX14 BY PY14 hc14 hs15 HPA
        obtain ⟨p0, _⟩ := BE15.out.one
        obtain ⟨p1, _⟩ := BY15.out.one
        go_wp2_with fail
        clear p0 p1
        refine (ee_same _ _ x _ PY15.out.at HX15.out.1 hx1).mono ?_
        rintro e w16 ⟨rfl, hs16⟩
        have hc16 := hc15.trans hs16
        go_wp2_with fail
        go_ret
        exact ⟨by simp, hc16⟩
    · refine wp_region_held_drew (S := (fun w' => w'.cell? ⟨w1.heap.size, 0, none⟩ = some (.slice ao n ac) ∧ w'.cell? ⟨w2.heap.size, 0, none⟩ = some (.slice ao1 an1 ac1) ∧ w'.cell? ⟨(w2.heap.size + 1), 0, none⟩ = some (.slice ao2 an2 ac2) ∧ w'.cell? ⟨w3.heap.size, 0, none⟩ = some (.slice ao3 an3 ac3) ∧ w'.cell? ⟨(w3.heap.size + 1), 0, none⟩ = some (.slice ao4 an4 ac4))) (by kernel_rfl) (HKD.out _ (Since.refl _).drew) (fun hHeld => ?_)
      refine take_yes 0 (some 29) (v := ?_) rfl (by kernel_rfl) (by kernel_rfl) (by kernel_rfl) (by kernel_rfl) (fun _ _ _ h => h) (by rfl) (by assumption) ?_ ?_
      rotate_left
      · (intro w' hSw; (try dsimp only at hSw); go_simp; try with_reducible rfl)
      try simp only [Act.put, List.setIfInBounds_toArray, List.set_cons_zero, List.set_cons_succ]
      refine take_yes 1 (some 30) (v := ?_) rfl (by kernel_rfl) (by kernel_rfl) (by kernel_rfl) (by kernel_rfl) (fun _ _ _ h => h) (by rfl) (by assumption) ?_ ?_
      rotate_left
      · (intro w' hSw; (try dsimp only at hSw); go_simp; try with_reducible rfl)
      try simp only [Act.put, List.setIfInBounds_toArray, List.set_cons_zero, List.set_cons_succ]
      refine take_run 2 rfl (by kernel_rfl) (by rfl) (fun K hK => ?_)
      go_simp
      refine (ee_same _ _ R _ (PA3.out.since (Since.refl y3).drew).at (PC3.out.since (Since.refl y3).drew).at hR1).mono ?_
      rintro en w4 ⟨rfl, hs4⟩
      have c4 := Since.trans (Since.refl y3).drew hs4
      refine hK.out _ _ (HKD.out _ c4) (fun hHeld4 => ?_)
      clear hK K hHeld hs4
      try simp only [Act.put, List.setIfInBounds_toArray, List.set_cons_zero, List.set_cons_succ]
      refine take_yes 3 (some 32) (v := ?_) rfl (by kernel_rfl) (by kernel_rfl) (by kernel_rfl) (by kernel_rfl) (fun _ _ _ h => h) (by rfl) (by assumption) ?_ ?_
      rotate_left
      · (intro w' hSw; (try dsimp only at hSw); go_simp; try with_reducible rfl)
      try simp only [Act.put, List.setIfInBounds_toArray, List.set_cons_zero, List.set_cons_succ]
      refine take_yes 4 (some 33) (v := ?_) rfl (by kernel_rfl) (by kernel_rfl) (by kernel_rfl) (by kernel_rfl) (fun _ _ _ h => h) (by rfl) (by assumption) ?_ ?_
      rotate_left
      · (intro w' hSw; (try dsimp only at hSw); go_simp; try with_reducible rfl)
      try simp only [Act.put, List.setIfInBounds_toArray, List.set_cons_zero, List.set_cons_succ]
      refine take_yes 5 (some 34) (v := ?_) rfl (by kernel_rfl) (by kernel_rfl) (by kernel_rfl) (by kernel_rfl) (fun _ _ _ h => h) (by rfl) (by assumption) ?_ ?_
      rotate_left
      · (intro w' hSw; (try dsimp only at hSw); go_simp; try with_reducible rfl)
      try simp only [Act.put, List.setIfInBounds_toArray, List.set_cons_zero, List.set_cons_succ]
      refine take_yes 6 (some 35) (v := ?_) rfl (by kernel_rfl) (by kernel_rfl) (by kernel_rfl) (by kernel_rfl) (fun _ _ _ h => h) (by rfl) (by assumption) ?_ ?_
      rotate_left
      · (intro w' hSw; (try dsimp only at hSw); go_simp; try with_reducible rfl)
      try simp only [Act.put, List.setIfInBounds_toArray, List.set_cons_zero, List.set_cons_succ]
      refine take_run 7 rfl (by kernel_rfl) (by rfl) (fun K hK => ?_)
      go_simp
      refine (ee_same _ _ Q _ (PB3.out.since c4).at (PD3.out.since c4).at hQ1).mono ?_
      rintro en w5 ⟨rfl, hs5⟩
      have c5 := Since.trans c4 hs5
      refine hK.out _ _ (HKD.out _ c5) (fun hHeld5 => ?_)
      clear hK K hHeld4 hs5
      try simp only [Act.put, List.setIfInBounds_toArray, List.set_cons_zero, List.set_cons_succ]
      refine take_yes 8 (some 37) (v := ?_) rfl (by kernel_rfl) (by kernel_rfl) (by kernel_rfl) (by kernel_rfl) (fun _ _ _ h => h) (by rfl) (by assumption) ?_ ?_
      rotate_left
      · (intro w' hSw; (try dsimp only at hSw); go_simp; try with_reducible rfl)
      try simp only [Act.put, List.setIfInBounds_toArray, List.set_cons_zero, List.set_cons_succ]
      refine take_yes 9 (some 38) (v := ?_) rfl (by kernel_rfl) (by kernel_rfl) (by kernel_rfl) (by kernel_rfl) (fun _ _ _ h => h) (by rfl) (by assumption) ?_ ?_
      rotate_left
      · (intro w' hSw; (try dsimp only at hSw); go_simp; try with_reducible rfl)
      try simp only [Act.put, List.setIfInBounds_toArray, List.set_cons_zero, List.set_cons_succ]
      refine take_yes 10 (some 39) (v := ?_) rfl (by kernel_rfl) (by kernel_rfl) (by kernel_rfl) (by kernel_rfl) (fun _ _ _ h => h) (by rfl) (by assumption) ?_ ?_
      rotate_left
      · (intro w' hSw; (try dsimp only at hSw); go_simp; try with_reducible rfl)
      try simp only [Act.put, List.setIfInBounds_toArray, List.set_cons_zero, List.set_cons_succ]
      refine take_yes 11 (some 40) (v := ?_) rfl (by kernel_rfl) (by kernel_rfl) (by kernel_rfl) (by kernel_rfl) (fun _ _ _ h => h) (by rfl) (by assumption) ?_ ?_
      rotate_left
      · (intro w' hSw; (try dsimp only at hSw); go_simp; try with_reducible rfl)
      try simp only [Act.put, List.setIfInBounds_toArray, List.set_cons_zero, List.set_cons_succ]
      refine take_yes 13 (some 42) (v := ?_) rfl (by kernel_rfl) (by kernel_rfl) (by kernel_rfl) (by kernel_rfl) (fun _ _ _ h => h) (by rfl) (by assumption) ?_ ?_
      rotate_left
      · (intro w' hSw; (try dsimp only at hSw); go_simp; try with_reducible rfl)
      try simp only [Act.put, List.setIfInBounds_toArray, List.set_cons_zero, List.set_cons_succ]
      refine take_run 12 rfl (by kernel_rfl) (by rfl) (fun K hK => ?_)
      go_simp
      refine (HIS.out _ _ (hc3.trans c5) (HX3.out.sinceX c5).1).mono ?_
      rintro en w6 ⟨rfl, hs6⟩
      have c6 := Since.trans c5 hs6
      refine hK.out _ _ (HKD.out _ c6) (fun hHeld6 => ?_)
      clear hK K hHeld5 hs6
      try simp only [Act.put, List.setIfInBounds_toArray, List.set_cons_zero, List.set_cons_succ]
      refine take_run 14 rfl (by kernel_rfl) (by rfl) (fun K hK => ?_)
      go_simp
      refine (HSS.out _ _ (hc3.trans c6) (HX3.out.sinceX c6).1).mono ?_
      rintro en w7 ⟨rfl, hs7⟩
      have c7 := Since.trans c6 hs7
      refine hK.out _ _ (HKD.out _ c7) (fun hHeld7 => ?_)
      clear hK K hHeld6 hs7
      try simp only [Act.put, List.setIfInBounds_toArray, List.set_cons_zero, List.set_cons_succ]
      refine take_yes 15 (some 44) (v := ?_) rfl (by kernel_rfl) (by kernel_rfl) (by kernel_rfl) (by kernel_rfl) (fun _ _ _ h => h) (by rfl) (by assumption) ?_ ?_
      rotate_left
      · (intro w' hSw; (try dsimp only at hSw); go_simp; try with_reducible rfl)
      try simp only [Act.put, List.setIfInBounds_toArray, List.set_cons_zero, List.set_cons_succ]
      refine take_yes 16 (some 45) (v := ?_) rfl (by kernel_rfl) (by kernel_rfl) (by kernel_rfl) (by kernel_rfl) (fun _ _ _ h => h) (by rfl) (by assumption) ?_ ?_
      rotate_left
      · (intro w' hSw; (try dsimp only at hSw); go_simp; try with_reducible rfl)
      try simp only [Act.put, List.setIfInBounds_toArray, List.set_cons_zero, List.set_cons_succ]
      refine take_yes 17 (some 46) (v := ?_) rfl (by kernel_rfl) (by kernel_rfl) (by kernel_rfl) (by kernel_rfl) (fun _ _ _ h => h) (by rfl) (by assumption) ?_ ?_
      rotate_left
      · (intro w' hSw; (try dsimp only at hSw); go_simp; try with_reducible rfl)
      try simp only [Act.put, List.setIfInBounds_toArray, List.set_cons_zero, List.set_cons_succ]
      refine take_yes 18 (some 47) (v := ?_) rfl (by kernel_rfl) (by kernel_rfl) (by kernel_rfl) (by kernel_rfl) (fun _ _ _ h => h) (by rfl) (by assumption) ?_ ?_
      rotate_left
      · (intro w' hSw; (try dsimp only at hSw); go_simp; try with_reducible rfl)
      try simp only [Act.put, List.setIfInBounds_toArray, List.set_cons_zero, List.set_cons_succ]
      refine take_yes 20 (some 49) (v := ?_) rfl (by kernel_rfl) (by kernel_rfl) (by kernel_rfl) (by kernel_rfl) (fun _ _ _ h => h) (by rfl) (by assumption) ?_ ?_
      rotate_left
      · (intro w' hSw; (try dsimp only at hSw); go_simp; try with_reducible rfl)
      try simp only [Act.put, List.setIfInBounds_toArray, List.set_cons_zero, List.set_cons_succ]
      refine take_run 19 rfl (by kernel_rfl) (by rfl) (fun K hK => ?_)
      go_simp
      refine (HIV.out _ _ (hc3.trans c7) (HX3.out.sinceX c7).1).mono ?_
      rintro en w8 ⟨rfl, hs8⟩
      have c8 := Since.trans c7 hs8
      refine hK.out _ _ (HKD.out _ c8) (fun hHeld8 => ?_)
      clear hK K hHeld7 hs8
      try simp only [Act.put, List.setIfInBounds_toArray, List.set_cons_zero, List.set_cons_succ]
      refine take_run 21 rfl (by kernel_rfl) (by rfl) (fun K hK => ?_)
      go_simp
      refine (HSV.out _ _ (hc3.trans c8) (HX3.out.sinceX c8).1).mono ?_
      rintro en w9 ⟨rfl, hs9⟩
      have c9 := Since.trans c8 hs9
      refine hK.out _ _ (HKD.out _ c9) (fun hHeld9 => ?_)
      clear hK K hHeld8 hs9
      try simp only [Act.put, List.setIfInBounds_toArray, List.set_cons_zero, List.set_cons_succ]
      refine take_yes 22 (some 51) (v := ?_) rfl (by kernel_rfl) (by kernel_rfl) (by kernel_rfl) (by kernel_rfl) (fun _ _ _ h => h) (by rfl) (by assumption) ?_ ?_
      rotate_left
      · (intro w' hSw; (try dsimp only at hSw); go_simp; try with_reducible rfl)
      try simp only [Act.put, List.setIfInBounds_toArray, List.set_cons_zero, List.set_cons_succ]
      refine take_yes 23 (some 52) (v := ?_) rfl (by kernel_rfl) (by kernel_rfl) (by kernel_rfl) (by kernel_rfl) (fun _ _ _ h => h) (by rfl) (by assumption) ?_ ?_
      rotate_left
      · (intro w' hSw; (try dsimp only at hSw); go_simp; try with_reducible rfl)
      try simp only [Act.put, List.setIfInBounds_toArray, List.set_cons_zero, List.set_cons_succ]
      refine wpAnyH_done (by kernel_rfl) ?_ _
      clear hHeld9
      have hc7 := hc3.trans c9
      have BE7 := Lib.hid (BE3.out.since c9)
      have HX7 := Lib.hid (HX3.out.sinceX c9)
      have BA7 := Lib.hid (BA3.out.since c9)
      have BB7 := Lib.hid (BB3.out.since c9)
      have PA7 := Lib.hid (PA3.out.since c9)
      have PB7 := Lib.hid (PB3.out.since c9)
      clear BE3 HX3 BA3 BB3 PA3 PB3 BC BD PC3 PD3 HKD c9
      generalize w9 = u7 at *
      obtain ⟨p1, _⟩ := BA7.out.one
      obtain ⟨p2, _⟩ := BB7.out.one
      go_upto_region 8 with fail
      go_cut [72] (fun b wx => b = .bool false ∧ Hid (Since u7 wx))
      case first =>
        by_cases ha : 0 < an1
        · have HQ1 := Lib.hid (HP1.out (by have := hna1.out; omega))
          have ha' : (0 : Int) < (an1 : Int) := by omega
          go_wp2_with fail
          refine (HQ1.out _ _ hc7 PA7.out.at).mono ?_
          rintro en w8 ⟨rfl, hs8⟩
          obtain ⟨p3, _⟩ := (BB7.out.since hs8).one
          by_cases hb : 0 < an2
          · have HQ2 := Lib.hid (HP2.out (by have := hna2.out; omega))
            have hb' : (0 : Int) < (an2 : Int) := by omega
            go_wp2_with fail
            refine (HQ2.out _ _ (hc7.trans hs8) (PB7.out.since hs8).at).mono ?_
            rintro en w9 ⟨rfl, hs9⟩
            have hs89 := Lib.hid (hs8.trans hs9)
            go_wp2_with fail
            go_meet
            exact ⟨by simp, hs89.out⟩
          · have hb' : ¬ (0 : Int) < (an2 : Int) := by omega
            have hs89 := Lib.hid hs8
            go_wp2_with fail
            go_meet
            exact ⟨by simp, hs89.out⟩
        · have ha' : ¬ (0 : Int) < (an1 : Int) := by omega
          by_cases hb : 0 < an2
          · have HQ2 := Lib.hid (HP2.out (by have := hna2.out; omega))
            have hb' : (0 : Int) < (an2 : Int) := by omega
            go_wp2_with fail
            refine (HQ2.out _ _ hc7 PB7.out.at).mono ?_
            rintro en w9 ⟨rfl, hs9⟩
            have hs89 := Lib.hid hs9
            go_wp2_with fail
            go_meet
            exact ⟨by simp, hs89.out⟩
          · have hb' : ¬ (0 : Int) < (an2 : Int) := by omega
            go_wp2_with fail
            go_meet
            exact ⟨by simp, Since.refl _⟩
      case rest =>
        obtain ⟨h72, hw8⟩ := hcut
        subst h72
        have hc8 := hc7.trans hw8.out
        have BE8 := Lib.hid (BE7.out.since hw8.out)
        have HX8 := Lib.hid (HX7.out.sinceX hw8.out)
        clear BE7 HX7 BA7 BB7 PA7 PB7 hc7 p1 p2 hw8 HP1 HP2
        obtain ⟨p0, _⟩ := BE8.out.one
        go_wp2_with fail
        clear p0
        refine (HRV.out _ _ hc8 HX8.out).mono ?_
        rintro e w9 ⟨vr, rfl, hr, hs9⟩
        have PR := Lib.hid hr
        obtain ⟨ro, rn, rc, hrn, rfl⟩ := hr.lenN
        obtain ⟨y9, hy9⟩ : ∃ y, y = w9.alloc (.cells #[.slice ro rn rc] 26) := ⟨_, rfl⟩
        have ha9 : Since w9 y9 := by rw [hy9]; exact (Since.refl w9).alloc _
        have BV : Hid (Blk y9 w9.heap.size 26 #[.slice ro rn rc]) := by rw [hy9]; exact Blk.new rfl _ _
        have h9 := hs9.trans ha9
        have hc9 := hc8.trans h9
        have BE9 := Lib.hid (BE8.out.since h9)
        have HX9 := Lib.hid (HX8.out.sinceX h9)
        have PR9 := Lib.hid (PR.out.since ha9)
        obtain ⟨p0, _⟩ := BE9.out.one
        rw [hy9] at p0
        clear hr BE8 HX8 hs9 ha9 h9 hc8 PR
        go_wp2_with fail
        rw [← hy9]
        clear hy9 p0
        refine (HSS.out _ _ hc9 HX9.out.1).mono ?_
        rintro e w10 ⟨rfl, hs10⟩
        have hc10 := hc9.trans hs10
        have BE10 := Lib.hid (BE9.out.since hs10)
        have HX10 := Lib.hid (HX9.out.sinceX hs10)
        have BV10 := Lib.hid (BV.out.since hs10)
        have PR10 := Lib.hid (PR9.out.since hs10)
        clear BE9 HX9 BV PR9 hc9 hs10
        obtain ⟨p0, _⟩ := BV10.out.one
        clear p0
        have hc12 := hc10
        have BE12 := BE10
        have HX12 := HX10
        clear BE10 HX10 BV10 PR10 hc10
        obtain ⟨p0, _⟩ := BE12.out.one
        go_wp2_with fail
        clear p0
        refine (HFX.out _ _ hc12 HX12.out.1).mono ?_
        rintro e w13 ⟨rfl, hs13⟩
        have hc13 := hc12.trans hs13
        have BE13 := Lib.hid (BE12.out.since hs13)
        have HX13 := Lib.hid (HX12.out.sinceX hs13)
        clear BE12 HX12 hc12 hs13
        go_wp2_with fail
        refine (HPX.out _ hc13).mono ?_
        rintro e w14 ⟨vy, rfl, hz, hs14⟩
        have PY := Lib.hid hz
        obtain ⟨yo, yn, yc, hyn, rfl⟩ := hz.lenN
        obtain ⟨y14, hy14⟩ : ∃ y, y = w14.alloc (.cells #[.slice yo yn yc] 26) := ⟨_, rfl⟩
        have ha14 : Since w14 y14 := by rw [hy14]; exact (Since.refl w14).alloc _
        have BY : Hid (Blk y14 w14.heap.size 26 #[.slice yo yn yc]) := by rw [hy14]; exact Blk.new rfl _ _
        have h14 := hs14.trans ha14
        have hc14 := hc13.trans h14
        have BE14 := Lib.hid (BE13.out.since h14)
        have HX14 := Lib.hid (HX13.out.sinceX h14)
        have PY14 := Lib.hid (PY.out.since ha14)
        obtain ⟨p0, _⟩ := BE14.out.one
        rw [hy14] at p0
        clear hz BE13 HX13 hs14 ha14 h14 hc13 PY
        go_wp2_with fail
        rw [← hy14]
        clear hy14 p0
        refine (HSV.out _ _ hc14 HX14.out.1).mono ?_
        rintro e w15 ⟨rfl, hs15⟩
        have hc15 := hc14.trans hs15
        go_wp2_with fail
        go_ret
        exact ⟨by simp, hc15⟩
end Go.Proofs.YthnppgcmmabolaaGreatDoor
