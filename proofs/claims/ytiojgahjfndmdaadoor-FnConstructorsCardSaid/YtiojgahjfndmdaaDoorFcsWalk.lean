/- The great law of the constructors, walked. -/
import Derived.Test.YtiojgahjfndmdaaDoorTwo
import Derived.Test.YtiojgahjfndmdaaDoorL7
import Derived.Test.YtiojgahjfndmdaaDoorL5
import Derived.Test.YtiojgahjfndmdaaDoorL6
import Derived.Test.YtiojgahjfndmdaaDoorL0
import Derived.Test.YtiojgahjfndmdaaDoorL1
import Derived.Test.YtiojgahjfndmdaaDoorIx
import Derived.Test.YtiojgahjfndmdaaDoorOpen
import Derived.Deep.DeepCutAuto
namespace Go.Proofs.YtiojgahjfndmdaaDoor
set_option maxRecDepth 100000
open Go.ChangeShapes Go.WideShapes Go.ChangeAt Go.RowKit
set_option linter.unusedVariables false
set_option linter.unusedSimpArgs false

theorem cs_math {A B : List Tok} (ha : validXB A = true) (hb : validXB B = true) : isXB (catX A B) = true ∧ isXB (uniX A B) = true ∧ isXB (starX A) = true ∧ nulX (catX A B) = (nulX A && nulX B) ∧ nulX (uniX A B) = (nulX A || nulX B) ∧ nulX (starX A) = true := by
  have pa := isP_iff.1 (valid_is ha).1
  have pb := isP_iff.1 (valid_is hb).1
  exact ⟨isP_iff.2 (isP_cat pa pb), isP_iff.2 (isP_uni pa pb), isP_iff.2 (isP_star pa), nul_cat pa pb, nul_uni pa pb, nul_star pa⟩
theorem cs_mat {A B : List Tok} {W : List Int} (ha : validXB A = true) (hb : validXB B = true) (hu : validXB (uniX A B) = true) (hw : isWordB W = true) : mtX (uniX A B) W = (mtX A W || mtX B W) := by
  have pa := isP_iff.1 (valid_is ha).1
  have pb := isP_iff.1 (valid_is hb).1
  rw [mtX_of, mtX_of, mtX_of, ha, hb, hu, hw, mat_uni pa pb]
  simp
theorem ee_sameS (a b : Value) (x : List Tok) (w : World) (ha : ExAt w a x) (hb : ExAt w b x) (h1 : x.length ≤ 1048577) :
    Calls Tryd.prog 17 #[a, b] w fun e w' => e = .returned (.bool true) ∧ Since w w' :=
  (specEE_any a b x x w ha hb (by omega) (by omega)).mono fun e w' ⟨he, hs⟩ => ⟨by rw [he]; simp, hs⟩
theorem exC_sinceK {w w' : World} {v : Value} {xs : List Tok} (h : ExC w v xs) (k : Since w w') : ExC w' v xs := ⟨h.1.since k, h.2⟩
set_option maxHeartbeats 16000000 in
set_option maxRecDepth 100000 in
theorem fnConstructors_walk (v : Value) (w : World) (hfr : Forms w) (hv : CodeAt w.heap.size w v) :
    Calls Tryd.prog 3 #[v] w fun e w' => e = .returned (.bool true) ∧ Since w w' := by
  obtain ⟨ao0, len, cap, rfl, hlen, hcode⟩ := hv
  have HCODE := Lib.hid hcode
  have HFR := Lib.hid hfr
  clear hcode hfr
  by_cases hbig : 1048576 < len
  · have hb : decide (1048576 < len) = true := by simp [hbig]
    have HB := Lib.hid hbig
    clear hbig
    go_enter Tryd.func3, Tryd.ntmps3
    go_wp2_with (go_at_call 12; refine (big_any _ _ _ _ hlen).mono ?_; rintro e w' ⟨rfl, rfl⟩)
    go_ret
    exact ⟨rfl, Since.refl _⟩
  · have hv0 : CodeIn w.heap.size w (.slice ao0 len cap) := ⟨ao0, len, cap, rfl, by omega, HCODE.out⟩
    have HV := Lib.hid hv0
    have hb : decide (1048576 < len) = false := by simp; omega
    have HB := Lib.hid hbig
    clear hbig hv0
    go_enter Tryd.func3, Tryd.ntmps3
    go_wp2_with (go_at_call 12; refine (big_any _ _ _ _ hlen).mono ?_; rintro e w' ⟨rfl, rfl⟩)
    refine (drawCE_any w.heap.size w _ (Nat.le_refl _) HV.out).mono ?_
    rintro e w1 ⟨ve, vu, A, B, rfl, hx, hl, hu, hlu, hs1⟩
    clear hb HCODE HB hlen
    have hx1 : A.length ≤ 1048577 := by omega
    have hu1 : B.length ≤ 1048577 := by omega
    have HLC := catX_len A B
    have HLU := uniX_len A B
    have HLS := starX_len A
    have hC1 : (catX A B).length ≤ 1048577 := by omega
    have hU1 : (uniX A B).length ≤ 1048577 := by omega
    have hS1 : (starX A).length ≤ 1048577 := by omega
    have HIC : Hid (∀ V U Q, ExAt Q V A → ExAt Q U B → Calls Tryd.prog 14 #[V, U] Q (XOut Q (catX A B))) := fun V U Q h k => implCE_any V U A B Q h k hx1 hu1
    have HSC : Hid (∀ V U Q, ExAt Q V A → ExAt Q U B → Calls Tryd.prog 18 #[V, U] Q (XOut Q (catX A B))) := fun V U Q h k => specCE_any V U A B Q h k hx1 hu1
    have HIU : Hid (∀ V U Q, ExAt Q V A → ExAt Q U B → Calls Tryd.prog 15 #[V, U] Q (XOut Q (uniX A B))) := fun V U Q h k => implUE_any V U A B Q h k hx1 hu1
    have HSU : Hid (∀ V U Q, ExAt Q V A → ExAt Q U B → Calls Tryd.prog 19 #[V, U] Q (XOut Q (uniX A B))) := fun V U Q h k => specUE_any V U A B Q h k hx1 hu1
    have HIT : Hid (∀ V Q, ExAt Q V A → Calls Tryd.prog 16 #[V] Q (XOut Q (starX A))) := fun V Q h => implTE_any V A Q h hx1
    have HST : Hid (∀ V Q, ExAt Q V A → Calls Tryd.prog 20 #[V] Q (XOut Q (starX A))) := fun V Q h => specTE_any V A Q h hx1
    have HVA : Hid (∀ V Q, Since w Q → ExAt Q V A → Calls Tryd.prog 21 #[V] Q fun e w' => e = .returned (.bool (validXB A)) ∧ Since Q w') := fun V Q _ h => specVX_any V A Q h hx1
    have HVB : Hid (∀ V Q, Since w Q → ExAt Q V B → Calls Tryd.prog 21 #[V] Q fun e w' => e = .returned (.bool (validXB B)) ∧ Since Q w') := fun V Q _ h => specVX_any V B Q h hu1
    have HVU : Hid (∀ V Q, Since w Q → ExAt Q V (uniX A B) → Calls Tryd.prog 21 #[V] Q fun e w' => e = .returned (.bool (validXB (uniX A B))) ∧ Since Q w') := fun V Q _ h => specVX_any V _ Q h hU1
    have HXC : Hid (∀ V Q, Since w Q → ExAt Q V (catX A B) → Calls Tryd.prog 22 #[V] Q fun e w' => e = .returned (.bool (isXB (catX A B))) ∧ Since Q w') := fun V Q hQ h => implIX_any V _ Q (HFR.out.since hQ) h hC1
    have HXU : Hid (∀ V Q, Since w Q → ExAt Q V (uniX A B) → Calls Tryd.prog 22 #[V] Q fun e w' => e = .returned (.bool (isXB (uniX A B))) ∧ Since Q w') := fun V Q hQ h => implIX_any V _ Q (HFR.out.since hQ) h hU1
    have HXS : Hid (∀ V Q, Since w Q → ExAt Q V (starX A) → Calls Tryd.prog 22 #[V] Q fun e w' => e = .returned (.bool (isXB (starX A))) ∧ Since Q w') := fun V Q hQ h => implIX_any V _ Q (HFR.out.since hQ) h hS1
    have HNC : Hid (∀ V Q, Since w Q → ExC Q V (catX A B) → Calls Tryd.prog 23 #[V] Q fun e w' => e = .returned (.bool (nulX (catX A B))) ∧ Since Q w') := fun V Q hQ h => implNU_any V _ Q (HFR.out.since hQ) h hC1
    have HNU : Hid (∀ V Q, Since w Q → ExC Q V (uniX A B) → Calls Tryd.prog 23 #[V] Q fun e w' => e = .returned (.bool (nulX (uniX A B))) ∧ Since Q w') := fun V Q hQ h => implNU_any V _ Q (HFR.out.since hQ) h hU1
    have HNS : Hid (∀ V Q, Since w Q → ExC Q V (starX A) → Calls Tryd.prog 23 #[V] Q fun e w' => e = .returned (.bool (nulX (starX A))) ∧ Since Q w') := fun V Q hQ h => implNU_any V _ Q (HFR.out.since hQ) h hS1
    have HNA : Hid (∀ V Q, Since w Q → ExC Q V A → Calls Tryd.prog 24 #[V] Q fun e w' => e = .returned (.bool (nulX A)) ∧ Since Q w') := fun V Q _ h => specNU_any V A Q h hx1
    have HNB : Hid (∀ V Q, Since w Q → ExC Q V B → Calls Tryd.prog 24 #[V] Q fun e w' => e = .returned (.bool (nulX B)) ∧ Since Q w') := fun V Q _ h => specNU_any V B Q h hu1
    have HMU : Hid (∀ V U Q W, W.length ≤ 1048577 → Since w Q → ExC Q V (uniX A B) → IntsAt Q U W → Calls Tryd.prog 27 #[V, U] Q fun e w' => e = .returned (.bool (mtX (uniX A B) W)) ∧ Since Q w') := fun V U Q W hW hQ h k => implMW_any V U _ W Q (HFR.out.since hQ) h hU1 k hW
    have HMA : Hid (∀ V U Q W, W.length ≤ 1048577 → Since w Q → ExC Q V A → IntsAt Q U W → Calls Tryd.prog 28 #[V, U] Q fun e w' => e = .returned (.bool (mtX A W)) ∧ Since Q w') := fun V U Q W hW _ h k => specMW_any V U A W Q h hx1 k hW
    have HMB : Hid (∀ V U Q W, W.length ≤ 1048577 → Since w Q → ExC Q V B → IntsAt Q U W → Calls Tryd.prog 28 #[V, U] Q fun e w' => e = .returned (.bool (mtX B W)) ∧ Since Q w') := fun V U Q W hW _ h k => specMW_any V U B W Q h hu1 k hW
    have HMATH : Hid (validXB A = true → validXB B = true → isXB (catX A B) = true ∧ isXB (uniX A B) = true ∧ isXB (starX A) = true ∧ nulX (catX A B) = (nulX A && nulX B) ∧ nulX (uniX A B) = (nulX A || nulX B) ∧ nulX (starX A) = true) := cs_math
    have HMAT : Hid (∀ W, validXB A = true → validXB B = true → validXB (uniX A B) = true → isWordB W = true → mtX (uniX A B) W = (mtX A W || mtX B W)) := fun W => cs_mat
    generalize nulX (catX A B) = NC at HNC HMATH
    generalize nulX (uniX A B) = NU at HNU HMATH
    generalize nulX (starX A) = NS at HNS HMATH
    generalize isXB (catX A B) = XC at HXC HMATH
    generalize isXB (uniX A B) = XU at HXU HMATH
    generalize isXB (starX A) = XS at HXS HMATH
    generalize nulX A = NA at HNA HMATH
    generalize nulX B = NB at HNB HMATH
    generalize catX A B = C at HIC HSC HXC HNC HLC hC1
    generalize hUU : uniX A B = U at HIU HSU HXU HNU HLU hU1 HVU HMU HMAT
    generalize starX A = S at HIT HST HXS HNS HLS hS1
    generalize validXB U = VU at HVU HMAT
    generalize validXB A = VA at HVA HMATH HMAT
    generalize validXB B = VB at HVB HMATH HMAT
    clear hUU
    obtain ⟨ao, ac, rfl, _, _⟩ := hx.open
    obtain ⟨an, han⟩ : ∃ n, n = A.length := ⟨_, rfl⟩
    rw [← han] at hx ⊢
    have HX := Lib.hid hx
    have HAN := Lib.hid han
    obtain ⟨bo, bc, rfl, _, _⟩ := hu.open
    obtain ⟨bn, hbn⟩ : ∃ n, n = B.length := ⟨_, rfl⟩
    rw [← hbn] at hu ⊢
    have HU := Lib.hid hu
    have HBN := Lib.hid hbn
    clear han hbn hx hu
    have HVs := Lib.hid (HV.out.since hs1)
    clear HV
    obtain ⟨y1, hy1⟩ : ∃ y, y = (w1.alloc (.cells #[.slice ao an ac] 26)).alloc (.cells #[.slice bo bn bc] 26) := ⟨_, rfl⟩
    have ha1 : Since w1 y1 := by rw [hy1]; exact ((Since.refl w1).alloc _).alloc _
    have BA : Hid (Blk y1 w1.heap.size 26 #[.slice ao an ac]) := by rw [hy1]; exact (Blk.new rfl _ _).alloc _
    have BB : Hid (Blk y1 (w1.heap.size + 1) 26 #[.slice bo bn bc]) := by rw [hy1]; exact Blk.new (by simp) _ _
    have F1 := Lib.hid (exC_sinceK HX.out ha1)
    clear HX
    have F2 := Lib.hid (exC_sinceK HU.out ha1)
    clear HU
    have F3 := Lib.hid (HVs.out.since ha1)
    clear HVs
    have hs4 := hs1.trans ha1
    obtain ⟨p0, _⟩ := BA.out.one
    obtain ⟨p1, _⟩ := BB.out.one
    rw [hy1] at p0 p1
    go_wp2_with fail
    rw [← hy1]
    clear hy1 p0 p1
    refine (HIC.out _ _ _ F1.out.1 F2.out.1).mono ?_
    rintro e w5 ⟨vc, rfl, hoc, hq6⟩
    have F7 := Lib.hid (exC_sinceK F1.out hq6)
    clear F1
    have F8 := Lib.hid (exC_sinceK F2.out hq6)
    clear F2
    have F9 := Lib.hid (F3.out.since hq6)
    clear F3
    have F10 := Lib.hid (BA.out.since hq6)
    clear BA
    have F11 := Lib.hid (BB.out.since hq6)
    clear BB
    have hs12 := hs4.trans hq6
    obtain ⟨Cs, rfl, Ck, _⟩ := hoc
    obtain ⟨Co, Cn, Cc, CN, rfl⟩ := Ck.lenN
    have HC := Lib.hid (OwnX.mk Ck).atC
    clear Ck
    obtain ⟨y13, hy13⟩ : ∃ y, y = w5.alloc (.cells #[.slice Co Cn Cc] 26) := ⟨_, rfl⟩
    have ha14 : Since w5 y13 := by rw [hy13]; exact (Since.refl w5).alloc _
    have B15 : Hid (Blk y13 w5.heap.size 26 #[.slice Co Cn Cc]) := by rw [hy13]; exact Blk.new rfl _ _
    have F16 := Lib.hid (exC_sinceK F7.out ha14)
    clear F7
    have F17 := Lib.hid (exC_sinceK F8.out ha14)
    clear F8
    have F18 := Lib.hid (F9.out.since ha14)
    clear F9
    have F19 := Lib.hid (F10.out.since ha14)
    clear F10
    have F20 := Lib.hid (F11.out.since ha14)
    clear F11
    have F21 := Lib.hid (exC_sinceK HC.out ha14)
    clear HC
    have hs22 := hs12.trans ha14
    obtain ⟨p0, _⟩ := F19.out.one
    obtain ⟨p1, _⟩ := F20.out.one
    rw [hy13] at p0 p1
    go_wp2_with fail
    rw [← hy13]
    clear hy13 p0 p1
    refine (HIU.out _ _ _ F16.out.1 F17.out.1).mono ?_
    rintro e w23 ⟨vu, rfl, hou, hq24⟩
    have F25 := Lib.hid (exC_sinceK F16.out hq24)
    clear F16
    have F26 := Lib.hid (exC_sinceK F17.out hq24)
    clear F17
    have F27 := Lib.hid (F18.out.since hq24)
    clear F18
    have F28 := Lib.hid (F19.out.since hq24)
    clear F19
    have F29 := Lib.hid (F20.out.since hq24)
    clear F20
    have F30 := Lib.hid (exC_sinceK F21.out hq24)
    clear F21
    have F31 := Lib.hid (B15.out.since hq24)
    clear B15
    have hs32 := hs22.trans hq24
    obtain ⟨Us, rfl, Uk, _⟩ := hou
    obtain ⟨Uo, Un, Uc, UN, rfl⟩ := Uk.lenN
    have HU := Lib.hid (OwnX.mk Uk).atC
    clear Uk
    obtain ⟨y33, hy33⟩ : ∃ y, y = w23.alloc (.cells #[.slice Uo Un Uc] 26) := ⟨_, rfl⟩
    have ha34 : Since w23 y33 := by rw [hy33]; exact (Since.refl w23).alloc _
    have B35 : Hid (Blk y33 w23.heap.size 26 #[.slice Uo Un Uc]) := by rw [hy33]; exact Blk.new rfl _ _
    have F36 := Lib.hid (exC_sinceK F25.out ha34)
    clear F25
    have F37 := Lib.hid (exC_sinceK F26.out ha34)
    clear F26
    have F38 := Lib.hid (F27.out.since ha34)
    clear F27
    have F39 := Lib.hid (F28.out.since ha34)
    clear F28
    have F40 := Lib.hid (F29.out.since ha34)
    clear F29
    have F41 := Lib.hid (exC_sinceK F30.out ha34)
    clear F30
    have F42 := Lib.hid (F31.out.since ha34)
    clear F31
    have F43 := Lib.hid (exC_sinceK HU.out ha34)
    clear HU
    have hs44 := hs32.trans ha34
    obtain ⟨p0, _⟩ := F39.out.one
    rw [hy33] at p0
    go_wp2_with fail
    rw [← hy33]
    clear hy33 p0
    refine (HIT.out _ _ F36.out.1).mono ?_
    rintro e w45 ⟨vs, rfl, hos, hq46⟩
    have F47 := Lib.hid (exC_sinceK F36.out hq46)
    clear F36
    have F48 := Lib.hid (exC_sinceK F37.out hq46)
    clear F37
    have F49 := Lib.hid (F38.out.since hq46)
    clear F38
    have F50 := Lib.hid (F39.out.since hq46)
    clear F39
    have F51 := Lib.hid (F40.out.since hq46)
    clear F40
    have F52 := Lib.hid (exC_sinceK F41.out hq46)
    clear F41
    have F53 := Lib.hid (F42.out.since hq46)
    clear F42
    have F54 := Lib.hid (exC_sinceK F43.out hq46)
    clear F43
    have F55 := Lib.hid (B35.out.since hq46)
    clear B35
    have hs56 := hs44.trans hq46
    obtain ⟨Ss, rfl, Sk, _⟩ := hos
    obtain ⟨So, Sn, Sc, SN, rfl⟩ := Sk.lenN
    have HS := Lib.hid (OwnX.mk Sk).atC
    clear Sk
    obtain ⟨y57, hy57⟩ : ∃ y, y = w45.alloc (.cells #[.slice So Sn Sc] 26) := ⟨_, rfl⟩
    have ha58 : Since w45 y57 := by rw [hy57]; exact (Since.refl w45).alloc _
    have B59 : Hid (Blk y57 w45.heap.size 26 #[.slice So Sn Sc]) := by rw [hy57]; exact Blk.new rfl _ _
    have F60 := Lib.hid (exC_sinceK F47.out ha58)
    clear F47
    have F61 := Lib.hid (exC_sinceK F48.out ha58)
    clear F48
    have F62 := Lib.hid (F49.out.since ha58)
    clear F49
    have F63 := Lib.hid (F50.out.since ha58)
    clear F50
    have F64 := Lib.hid (F51.out.since ha58)
    clear F51
    have F65 := Lib.hid (exC_sinceK F52.out ha58)
    clear F52
    have F66 := Lib.hid (F53.out.since ha58)
    clear F53
    have F67 := Lib.hid (exC_sinceK F54.out ha58)
    clear F54
    have F68 := Lib.hid (F55.out.since ha58)
    clear F55
    have F69 := Lib.hid (exC_sinceK HS.out ha58)
    clear HS
    have hs70 := hs56.trans ha58
    go_upto_region 7 with fail
    rw [← hy57]
    clear hy57
    have HKD : Hid (∀ w', Since y57 w' → w'.cell? ⟨w1.heap.size, 0, none⟩ = some (.slice ao an ac) ∧ w'.cell? ⟨(w1.heap.size + 1), 0, none⟩ = some (.slice bo bn bc) ∧ w'.cell? ⟨w5.heap.size, 0, none⟩ = some (.slice Co Cn Cc) ∧ w'.cell? ⟨w23.heap.size, 0, none⟩ = some (.slice Uo Un Uc) ∧ w'.cell? ⟨w45.heap.size, 0, none⟩ = some (.slice So Sn Sc)) := fun w' h => ⟨(F63.out.since h).one.1, (F64.out.since h).one.1, (F66.out.since h).one.1, (F68.out.since h).one.1, (B59.out.since h).one.1⟩
    refine wp_region_held_drew (S := (fun w' => w'.cell? ⟨w1.heap.size, 0, none⟩ = some (.slice ao an ac) ∧ w'.cell? ⟨(w1.heap.size + 1), 0, none⟩ = some (.slice bo bn bc) ∧ w'.cell? ⟨w5.heap.size, 0, none⟩ = some (.slice Co Cn Cc) ∧ w'.cell? ⟨w23.heap.size, 0, none⟩ = some (.slice Uo Un Uc) ∧ w'.cell? ⟨w45.heap.size, 0, none⟩ = some (.slice So Sn Sc))) (by kernel_rfl) (HKD.out _ (Since.refl y57).drew) (fun hHeld => ?_)
    refine take_yes 0 (some 25) (v := ?_) rfl (by kernel_rfl) (by kernel_rfl) (by kernel_rfl) (by kernel_rfl) (fun _ _ _ h => h) (by rfl) (by assumption) ?_ ?_
    rotate_left
    · (intro w' hSw; (try dsimp only at hSw); go_simp; try with_reducible rfl)
    try simp only [Act.put, List.setIfInBounds_toArray, List.set_cons_zero, List.set_cons_succ]
    refine take_yes 1 (some 26) (v := ?_) rfl (by kernel_rfl) (by kernel_rfl) (by kernel_rfl) (by kernel_rfl) (fun _ _ _ h => h) (by rfl) (by assumption) ?_ ?_
    rotate_left
    · (intro w' hSw; (try dsimp only at hSw); go_simp; try with_reducible rfl)
    try simp only [Act.put, List.setIfInBounds_toArray, List.set_cons_zero, List.set_cons_succ]
    refine take_yes 2 (some 27) (v := ?_) rfl (by kernel_rfl) (by kernel_rfl) (by kernel_rfl) (by kernel_rfl) (fun _ _ _ h => h) (by rfl) (by assumption) ?_ ?_
    rotate_left
    · (intro w' hSw; (try dsimp only at hSw); go_simp; try with_reducible rfl)
    try simp only [Act.put, List.setIfInBounds_toArray, List.set_cons_zero, List.set_cons_succ]
    refine take_run 3 rfl (by kernel_rfl) (by rfl) (fun K hK => ?_)
    go_simp
    refine (HSC.out _ _ _ (F60.out.1.since (Since.refl y57).drew) (F61.out.1.since (Since.refl y57).drew)).mono ?_
    rintro en wx71 ⟨zc, rfl, hzc, hsx71⟩
    have cx71 := Since.trans (Since.refl y57).drew hsx71
    refine hK.out _ _ (HKD.out _ cx71) (fun hHeldx71 => ?_)
    clear hK K hHeld
    try simp only [Act.put, List.setIfInBounds_toArray, List.set_cons_zero, List.set_cons_succ]
    refine take_run 4 rfl (by kernel_rfl) (by rfl) (fun K hK => ?_)
    go_simp
    refine (ee_sameS _ _ C _ (F65.out.1.since cx71) (hzc.atC.1) hC1).mono ?_
    rintro en wx72 ⟨rfl, hsx72⟩
    have cx72 := Since.trans cx71 hsx72
    refine hK.out _ _ (HKD.out _ cx72) (fun hHeldx72 => ?_)
    clear hK K hHeldx71
    try simp only [Act.put, List.setIfInBounds_toArray, List.set_cons_zero, List.set_cons_succ]
    refine take_yes 5 (some 30) (v := ?_) rfl (by kernel_rfl) (by kernel_rfl) (by kernel_rfl) (by kernel_rfl) (fun _ _ _ h => h) (by rfl) (by assumption) ?_ ?_
    rotate_left
    · (intro w' hSw; (try dsimp only at hSw); go_simp; try with_reducible rfl)
    try simp only [Act.put, List.setIfInBounds_toArray, List.set_cons_zero, List.set_cons_succ]
    refine take_yes 6 (some 31) (v := ?_) rfl (by kernel_rfl) (by kernel_rfl) (by kernel_rfl) (by kernel_rfl) (fun _ _ _ h => h) (by rfl) (by assumption) ?_ ?_
    rotate_left
    · (intro w' hSw; (try dsimp only at hSw); go_simp; try with_reducible rfl)
    try simp only [Act.put, List.setIfInBounds_toArray, List.set_cons_zero, List.set_cons_succ]
    refine take_yes 7 (some 32) (v := ?_) rfl (by kernel_rfl) (by kernel_rfl) (by kernel_rfl) (by kernel_rfl) (fun _ _ _ h => h) (by rfl) (by assumption) ?_ ?_
    rotate_left
    · (intro w' hSw; (try dsimp only at hSw); go_simp; try with_reducible rfl)
    try simp only [Act.put, List.setIfInBounds_toArray, List.set_cons_zero, List.set_cons_succ]
    refine take_yes 8 (some 33) (v := ?_) rfl (by kernel_rfl) (by kernel_rfl) (by kernel_rfl) (by kernel_rfl) (fun _ _ _ h => h) (by rfl) (by assumption) ?_ ?_
    rotate_left
    · (intro w' hSw; (try dsimp only at hSw); go_simp; try with_reducible rfl)
    try simp only [Act.put, List.setIfInBounds_toArray, List.set_cons_zero, List.set_cons_succ]
    refine take_yes 9 (some 34) (v := ?_) rfl (by kernel_rfl) (by kernel_rfl) (by kernel_rfl) (by kernel_rfl) (fun _ _ _ h => h) (by rfl) (by assumption) ?_ ?_
    rotate_left
    · (intro w' hSw; (try dsimp only at hSw); go_simp; try with_reducible rfl)
    try simp only [Act.put, List.setIfInBounds_toArray, List.set_cons_zero, List.set_cons_succ]
    refine take_run 10 rfl (by kernel_rfl) (by rfl) (fun K hK => ?_)
    go_simp
    refine (HSU.out _ _ _ (F60.out.1.since cx72) (F61.out.1.since cx72)).mono ?_
    rintro en wx73 ⟨zu, rfl, hzu, hsx73⟩
    have cx73 := Since.trans cx72 hsx73
    refine hK.out _ _ (HKD.out _ cx73) (fun hHeldx73 => ?_)
    clear hK K hHeldx72
    try simp only [Act.put, List.setIfInBounds_toArray, List.set_cons_zero, List.set_cons_succ]
    refine take_run 11 rfl (by kernel_rfl) (by rfl) (fun K hK => ?_)
    go_simp
    refine (ee_sameS _ _ U _ (F67.out.1.since cx73) (hzu.atC.1) hU1).mono ?_
    rintro en wx74 ⟨rfl, hsx74⟩
    have cx74 := Since.trans cx73 hsx74
    refine hK.out _ _ (HKD.out _ cx74) (fun hHeldx74 => ?_)
    clear hK K hHeldx73
    try simp only [Act.put, List.setIfInBounds_toArray, List.set_cons_zero, List.set_cons_succ]
    refine take_yes 12 (some 37) (v := ?_) rfl (by kernel_rfl) (by kernel_rfl) (by kernel_rfl) (by kernel_rfl) (fun _ _ _ h => h) (by rfl) (by assumption) ?_ ?_
    rotate_left
    · (intro w' hSw; (try dsimp only at hSw); go_simp; try with_reducible rfl)
    try simp only [Act.put, List.setIfInBounds_toArray, List.set_cons_zero, List.set_cons_succ]
    refine take_yes 13 (some 38) (v := ?_) rfl (by kernel_rfl) (by kernel_rfl) (by kernel_rfl) (by kernel_rfl) (fun _ _ _ h => h) (by rfl) (by assumption) ?_ ?_
    rotate_left
    · (intro w' hSw; (try dsimp only at hSw); go_simp; try with_reducible rfl)
    try simp only [Act.put, List.setIfInBounds_toArray, List.set_cons_zero, List.set_cons_succ]
    refine take_yes 14 (some 39) (v := ?_) rfl (by kernel_rfl) (by kernel_rfl) (by kernel_rfl) (by kernel_rfl) (fun _ _ _ h => h) (by rfl) (by assumption) ?_ ?_
    rotate_left
    · (intro w' hSw; (try dsimp only at hSw); go_simp; try with_reducible rfl)
    try simp only [Act.put, List.setIfInBounds_toArray, List.set_cons_zero, List.set_cons_succ]
    refine take_yes 15 (some 40) (v := ?_) rfl (by kernel_rfl) (by kernel_rfl) (by kernel_rfl) (by kernel_rfl) (fun _ _ _ h => h) (by rfl) (by assumption) ?_ ?_
    rotate_left
    · (intro w' hSw; (try dsimp only at hSw); go_simp; try with_reducible rfl)
    try simp only [Act.put, List.setIfInBounds_toArray, List.set_cons_zero, List.set_cons_succ]
    refine take_yes 16 (some 41) (v := ?_) rfl (by kernel_rfl) (by kernel_rfl) (by kernel_rfl) (by kernel_rfl) (fun _ _ _ h => h) (by rfl) (by assumption) ?_ ?_
    rotate_left
    · (intro w' hSw; (try dsimp only at hSw); go_simp; try with_reducible rfl)
    try simp only [Act.put, List.setIfInBounds_toArray, List.set_cons_zero, List.set_cons_succ]
    refine take_run 17 rfl (by kernel_rfl) (by rfl) (fun K hK => ?_)
    go_simp
    refine (HST.out _ _ (F60.out.1.since cx74)).mono ?_
    rintro en wx75 ⟨zs, rfl, hzs, hsx75⟩
    have cx75 := Since.trans cx74 hsx75
    refine hK.out _ _ (HKD.out _ cx75) (fun hHeldx75 => ?_)
    clear hK K hHeldx74
    try simp only [Act.put, List.setIfInBounds_toArray, List.set_cons_zero, List.set_cons_succ]
    refine take_run 18 rfl (by kernel_rfl) (by rfl) (fun K hK => ?_)
    go_simp
    refine (ee_sameS _ _ S _ (F69.out.1.since cx75) (hzs.atC.1) hS1).mono ?_
    rintro en wx76 ⟨rfl, hsx76⟩
    have cx76 := Since.trans cx75 hsx76
    refine hK.out _ _ (HKD.out _ cx76) (fun hHeldx76 => ?_)
    clear hK K hHeldx75
    try simp only [Act.put, List.setIfInBounds_toArray, List.set_cons_zero, List.set_cons_succ]
    refine take_yes 19 (some 44) (v := ?_) rfl (by kernel_rfl) (by kernel_rfl) (by kernel_rfl) (by kernel_rfl) (fun _ _ _ h => h) (by rfl) (by assumption) ?_ ?_
    rotate_left
    · (intro w' hSw; (try dsimp only at hSw); go_simp; try with_reducible rfl)
    try simp only [Act.put, List.setIfInBounds_toArray, List.set_cons_zero, List.set_cons_succ]
    refine take_yes 20 (some 45) (v := ?_) rfl (by kernel_rfl) (by kernel_rfl) (by kernel_rfl) (by kernel_rfl) (fun _ _ _ h => h) (by rfl) (by assumption) ?_ ?_
    rotate_left
    · (intro w' hSw; (try dsimp only at hSw); go_simp; try with_reducible rfl)
    try simp only [Act.put, List.setIfInBounds_toArray, List.set_cons_zero, List.set_cons_succ]
    refine wpAnyH_done (by kernel_rfl) ?_ _
    clear hHeldx76
    clear HKD HIC HSC HIU HSU HIT HST hzc hzu hzs
    have F77 := Lib.hid (exC_sinceK F60.out cx76)
    clear F60
    have F78 := Lib.hid (exC_sinceK F61.out cx76)
    clear F61
    have F79 := Lib.hid (F62.out.since cx76)
    clear F62
    have F80 := Lib.hid (F63.out.since cx76)
    clear F63
    have F81 := Lib.hid (F64.out.since cx76)
    clear F64
    have F82 := Lib.hid (exC_sinceK F65.out cx76)
    clear F65
    have F83 := Lib.hid (F66.out.since cx76)
    clear F66
    have F84 := Lib.hid (exC_sinceK F67.out cx76)
    clear F67
    have F85 := Lib.hid (F68.out.since cx76)
    clear F68
    have F86 := Lib.hid (exC_sinceK F69.out cx76)
    clear F69
    have F87 := Lib.hid (B59.out.since cx76)
    clear B59
    have hs88 := hs70.trans cx76
    obtain ⟨p0, _⟩ := F80.out.one
    go_wp2_with fail
    clear p0
    refine (HVA.out _ _ hs88 F77.out.1).mono ?_
    rintro e w89 ⟨rfl, hq90⟩
    have F91 := Lib.hid (exC_sinceK F77.out hq90)
    clear F77
    have F92 := Lib.hid (exC_sinceK F78.out hq90)
    clear F78
    have F93 := Lib.hid (F79.out.since hq90)
    clear F79
    have F94 := Lib.hid (F80.out.since hq90)
    clear F80
    have F95 := Lib.hid (F81.out.since hq90)
    clear F81
    have F96 := Lib.hid (exC_sinceK F82.out hq90)
    clear F82
    have F97 := Lib.hid (F83.out.since hq90)
    clear F83
    have F98 := Lib.hid (exC_sinceK F84.out hq90)
    clear F84
    have F99 := Lib.hid (F85.out.since hq90)
    clear F85
    have F100 := Lib.hid (exC_sinceK F86.out hq90)
    clear F86
    have F101 := Lib.hid (F87.out.since hq90)
    clear F87
    have hs102 := hs88.trans hq90
    obtain ⟨p1, _⟩ := F95.out.one
    cases VA with
    | false =>
      go_wp2_with fail
      go_ret
      exact ⟨rfl, hs102⟩
    | true =>
      go_wp2_with fail
      clear p1
      refine (HVB.out _ _ hs102 F92.out.1).mono ?_
      rintro e w103 ⟨rfl, hq104⟩
      have F105 := Lib.hid (exC_sinceK F91.out hq104)
      clear F91
      have F106 := Lib.hid (exC_sinceK F92.out hq104)
      clear F92
      have F107 := Lib.hid (F93.out.since hq104)
      clear F93
      have F108 := Lib.hid (F94.out.since hq104)
      clear F94
      have F109 := Lib.hid (F95.out.since hq104)
      clear F95
      have F110 := Lib.hid (exC_sinceK F96.out hq104)
      clear F96
      have F111 := Lib.hid (F97.out.since hq104)
      clear F97
      have F112 := Lib.hid (exC_sinceK F98.out hq104)
      clear F98
      have F113 := Lib.hid (F99.out.since hq104)
      clear F99
      have F114 := Lib.hid (exC_sinceK F100.out hq104)
      clear F100
      have F115 := Lib.hid (F101.out.since hq104)
      clear F101
      have hs116 := hs102.trans hq104
      obtain ⟨p0, _⟩ := F108.out.one
      obtain ⟨p1, _⟩ := F109.out.one
      obtain ⟨p2, _⟩ := F111.out.one
      obtain ⟨p3, _⟩ := F113.out.one
      cases VB with
      | false =>
        go_wp2_with fail
        go_ret
        exact ⟨rfl, hs116⟩
      | true =>
        obtain ⟨rfl, rfl, rfl, rfl, rfl, rfl⟩ : XC = true ∧ XU = true ∧ XS = true ∧ NC = (NA && NB) ∧ NU = (NA || NB) ∧ NS = true := HMATH.out (by trivial) (by trivial)
        have l1 : Cn ≤ an + bn + 1 := by have h1 := HAN.out; have h2 := HBN.out; have h3 := CN.out; omega
        have l2 : Un ≤ an + bn + 1 := by have h1 := HAN.out; have h2 := HBN.out; have h3 := UN.out; omega
        have l3 : an ≤ 26 := by have h1 := HAN.out; omega
        have l4 : bn ≤ 26 := by have h1 := HBN.out; omega
        have l5 : ¬ ((an : Int) + (bn : Int) + 1 < (Cn : Int)) := by omega
        have l6 : ¬ ((an : Int) + (bn : Int) + 1 < (Un : Int)) := by omega
        have l9 : (Cn : Int) ≤ (an : Int) + (bn : Int) + 1 ∧ (Un : Int) ≤ (an : Int) + (bn : Int) + 1 := by constructor <;> omega
        clear l1 l2 l5 l6
        go_wp2_with fail
        clear p0 p1 p2 p3
        refine (HXC.out _ _ hs116 F110.out.1).mono ?_
        rintro e w117 ⟨rfl, hq118⟩
        have F119 := Lib.hid (exC_sinceK F105.out hq118)
        clear F105
        have F120 := Lib.hid (exC_sinceK F106.out hq118)
        clear F106
        have F121 := Lib.hid (F107.out.since hq118)
        clear F107
        have F122 := Lib.hid (F108.out.since hq118)
        clear F108
        have F123 := Lib.hid (F109.out.since hq118)
        clear F109
        have F124 := Lib.hid (exC_sinceK F110.out hq118)
        clear F110
        have F125 := Lib.hid (F111.out.since hq118)
        clear F111
        have F126 := Lib.hid (exC_sinceK F112.out hq118)
        clear F112
        have F127 := Lib.hid (F113.out.since hq118)
        clear F113
        have F128 := Lib.hid (exC_sinceK F114.out hq118)
        clear F114
        have F129 := Lib.hid (F115.out.since hq118)
        clear F115
        have hs130 := hs116.trans hq118
        obtain ⟨p0, _⟩ := F127.out.one
        go_wp2_with fail
        clear p0
        refine (HXU.out _ _ hs130 F126.out.1).mono ?_
        rintro e w131 ⟨rfl, hq132⟩
        have F133 := Lib.hid (exC_sinceK F119.out hq132)
        clear F119
        have F134 := Lib.hid (exC_sinceK F120.out hq132)
        clear F120
        have F135 := Lib.hid (F121.out.since hq132)
        clear F121
        have F136 := Lib.hid (F122.out.since hq132)
        clear F122
        have F137 := Lib.hid (F123.out.since hq132)
        clear F123
        have F138 := Lib.hid (exC_sinceK F124.out hq132)
        clear F124
        have F139 := Lib.hid (F125.out.since hq132)
        clear F125
        have F140 := Lib.hid (exC_sinceK F126.out hq132)
        clear F126
        have F141 := Lib.hid (F127.out.since hq132)
        clear F127
        have F142 := Lib.hid (exC_sinceK F128.out hq132)
        clear F128
        have F143 := Lib.hid (F129.out.since hq132)
        clear F129
        have hs144 := hs130.trans hq132
        obtain ⟨p0, _⟩ := F143.out.one
        go_wp2_with fail
        clear p0
        refine (HXS.out _ _ hs144 F142.out.1).mono ?_
        rintro e w145 ⟨rfl, hq146⟩
        have F147 := Lib.hid (exC_sinceK F133.out hq146)
        clear F133
        have F148 := Lib.hid (exC_sinceK F134.out hq146)
        clear F134
        have F149 := Lib.hid (F135.out.since hq146)
        clear F135
        have F150 := Lib.hid (F136.out.since hq146)
        clear F136
        have F151 := Lib.hid (F137.out.since hq146)
        clear F137
        have F152 := Lib.hid (exC_sinceK F138.out hq146)
        clear F138
        have F153 := Lib.hid (F139.out.since hq146)
        clear F139
        have F154 := Lib.hid (exC_sinceK F140.out hq146)
        clear F140
        have F155 := Lib.hid (F141.out.since hq146)
        clear F141
        have F156 := Lib.hid (exC_sinceK F142.out hq146)
        clear F142
        have F157 := Lib.hid (F143.out.since hq146)
        clear F143
        have hs158 := hs144.trans hq146
        clear HXC HXU HXS HVA HVB HMATH l3 l4
        go_upto_region 13 with fail
        have HKD : Hid (∀ w', Since w145 w' → w'.cell? ⟨w1.heap.size, 0, none⟩ = some (.slice ao an ac) ∧ w'.cell? ⟨(w1.heap.size + 1), 0, none⟩ = some (.slice bo bn bc) ∧ w'.cell? ⟨w5.heap.size, 0, none⟩ = some (.slice Co Cn Cc) ∧ w'.cell? ⟨w23.heap.size, 0, none⟩ = some (.slice Uo Un Uc) ∧ w'.cell? ⟨w45.heap.size, 0, none⟩ = some (.slice So Sn Sc)) := fun w' h => ⟨(F150.out.since h).one.1, (F151.out.since h).one.1, (F153.out.since h).one.1, (F155.out.since h).one.1, (F157.out.since h).one.1⟩
        clear l9
        go_cut [119] (fun b wx => b = .bool false ∧ Hid (Since w145 wx))
        case first =>
          rcases Bool.eq_false_or_eq_true NA with rfl | rfl <;> rcases Bool.eq_false_or_eq_true NB with rfl | rfl
          · skip
            have HC' : Hid (∀ V Q, Since w Q → ExC Q V C → Calls Tryd.prog 23 #[V] Q fun e w' => e = .returned (.bool true) ∧ Since Q w') := HNC.out
            have HU' : Hid (∀ V Q, Since w Q → ExC Q V U → Calls Tryd.prog 23 #[V] Q fun e w' => e = .returned (.bool true) ∧ Since Q w') := HNU.out
            refine wp_region_held_drew (S := (fun w' => w'.cell? ⟨w1.heap.size, 0, none⟩ = some (.slice ao an ac) ∧ w'.cell? ⟨(w1.heap.size + 1), 0, none⟩ = some (.slice bo bn bc) ∧ w'.cell? ⟨w5.heap.size, 0, none⟩ = some (.slice Co Cn Cc) ∧ w'.cell? ⟨w23.heap.size, 0, none⟩ = some (.slice Uo Un Uc) ∧ w'.cell? ⟨w45.heap.size, 0, none⟩ = some (.slice So Sn Sc))) (by kernel_rfl) (HKD.out _ (Since.refl w145).drew) (fun hHeld => ?_)
            refine take_yes 0 (some 95) (v := ?_) rfl (by kernel_rfl) (by kernel_rfl) (by kernel_rfl) (by kernel_rfl) (fun _ _ _ h => h) (by rfl) (by assumption) ?_ ?_
            rotate_left
            · (intro w' hSw; (try dsimp only at hSw); go_simp; try with_reducible rfl)
            try simp only [Act.put, List.setIfInBounds_toArray, List.set_cons_zero, List.set_cons_succ]
            refine take_yes 2 (some 97) (v := ?_) rfl (by kernel_rfl) (by kernel_rfl) (by kernel_rfl) (by kernel_rfl) (fun _ _ _ h => h) (by rfl) (by assumption) ?_ ?_
            rotate_left
            · (intro w' hSw; (try dsimp only at hSw); go_simp; try with_reducible rfl)
            try simp only [Act.put, List.setIfInBounds_toArray, List.set_cons_zero, List.set_cons_succ]
            refine take_run 1 rfl (by kernel_rfl) (by rfl) (fun K hK => ?_)
            go_simp
            refine (HC'.out _ _ (hs158.trans (Since.refl w145).drew) (exC_sinceK F152.out (Since.refl w145).drew)).mono ?_
            rintro en wx159 ⟨rfl, hsx159⟩
            have cx159 := Since.trans (Since.refl w145).drew hsx159
            refine hK.out _ _ (HKD.out _ cx159) (fun hHeldx159 => ?_)
            clear hK K hHeld
            try simp only [Act.put, List.setIfInBounds_toArray, List.set_cons_zero, List.set_cons_succ]
            refine take_run 3 rfl (by kernel_rfl) (by rfl) (fun K hK => ?_)
            go_simp
            refine (HNA.out _ _ (hs158.trans cx159) (exC_sinceK F147.out cx159)).mono ?_
            rintro en wx160 ⟨rfl, hsx160⟩
            have cx160 := Since.trans cx159 hsx160
            refine hK.out _ _ (HKD.out _ cx160) (fun hHeldx160 => ?_)
            clear hK K hHeldx159
            try simp only [Act.put, List.setIfInBounds_toArray, List.set_cons_zero, List.set_cons_succ]
            refine take_yes 4 (some 99) (v := ?_) rfl (by kernel_rfl) (by kernel_rfl) (by kernel_rfl) (by kernel_rfl) (fun _ _ _ h => h) (by rfl) (by assumption) ?_ ?_
            rotate_left
            · (intro w' hSw; (try dsimp only at hSw); go_simp; try with_reducible rfl)
            try simp only [Act.put, List.setIfInBounds_toArray, List.set_cons_zero, List.set_cons_succ]
            refine take_yes 5 (some 100) (v := ?_) rfl (by kernel_rfl) (by kernel_rfl) (by kernel_rfl) (by kernel_rfl) (fun _ _ _ h => h) (by rfl) (by assumption) ?_ ?_
            rotate_left
            · (intro w' hSw; (try dsimp only at hSw); go_simp; try with_reducible rfl)
            try simp only [Act.put, List.setIfInBounds_toArray, List.set_cons_zero, List.set_cons_succ]
            refine take_run 6 rfl (by kernel_rfl) (by rfl) (fun K hK => ?_)
            go_simp
            refine (HNB.out _ _ (hs158.trans cx160) (exC_sinceK F148.out cx160)).mono ?_
            rintro en wx161 ⟨rfl, hsx161⟩
            have cx161 := Since.trans cx160 hsx161
            refine hK.out _ _ (HKD.out _ cx161) (fun hHeldx161 => ?_)
            clear hK K hHeldx160
            try simp only [Act.put, List.setIfInBounds_toArray, List.set_cons_zero, List.set_cons_succ]
            refine take_yes 7 (some 102) (v := ?_) rfl (by kernel_rfl) (by kernel_rfl) (by kernel_rfl) (by kernel_rfl) (fun _ _ _ h => h) (by rfl) (by assumption) ?_ ?_
            rotate_left
            · (intro w' hSw; (try dsimp only at hSw); go_simp; try with_reducible rfl)
            try simp only [Act.put, List.setIfInBounds_toArray, List.set_cons_zero, List.set_cons_succ]
            refine take_yes 8 (some 103) (v := ?_) rfl (by kernel_rfl) (by kernel_rfl) (by kernel_rfl) (by kernel_rfl) (fun _ _ _ h => h) (by rfl) (by assumption) ?_ ?_
            rotate_left
            · (intro w' hSw; (try dsimp only at hSw); go_simp; try with_reducible rfl)
            try simp only [Act.put, List.setIfInBounds_toArray, List.set_cons_zero, List.set_cons_succ]
            refine take_yes 9 (some 104) (v := ?_) rfl (by kernel_rfl) (by kernel_rfl) (by kernel_rfl) (by kernel_rfl) (fun _ _ _ h => h) (by rfl) (by assumption) ?_ ?_
            rotate_left
            · (intro w' hSw; (try dsimp only at hSw); go_simp; try with_reducible rfl)
            try simp only [Act.put, List.setIfInBounds_toArray, List.set_cons_zero, List.set_cons_succ]
            refine take_yes 10 (some 105) (v := ?_) rfl (by kernel_rfl) (by kernel_rfl) (by kernel_rfl) (by kernel_rfl) (fun _ _ _ h => h) (by rfl) (by assumption) ?_ ?_
            rotate_left
            · (intro w' hSw; (try dsimp only at hSw); go_simp; try with_reducible rfl)
            try simp only [Act.put, List.setIfInBounds_toArray, List.set_cons_zero, List.set_cons_succ]
            refine take_yes 12 (some 107) (v := ?_) rfl (by kernel_rfl) (by kernel_rfl) (by kernel_rfl) (by kernel_rfl) (fun _ _ _ h => h) (by rfl) (by assumption) ?_ ?_
            rotate_left
            · (intro w' hSw; (try dsimp only at hSw); go_simp; try with_reducible rfl)
            try simp only [Act.put, List.setIfInBounds_toArray, List.set_cons_zero, List.set_cons_succ]
            refine take_run 11 rfl (by kernel_rfl) (by rfl) (fun K hK => ?_)
            go_simp
            refine (HU'.out _ _ (hs158.trans cx161) (exC_sinceK F154.out cx161)).mono ?_
            rintro en wx162 ⟨rfl, hsx162⟩
            have cx162 := Since.trans cx161 hsx162
            refine hK.out _ _ (HKD.out _ cx162) (fun hHeldx162 => ?_)
            clear hK K hHeldx161
            try simp only [Act.put, List.setIfInBounds_toArray, List.set_cons_zero, List.set_cons_succ]
            refine take_run 13 rfl (by kernel_rfl) (by rfl) (fun K hK => ?_)
            go_simp
            refine (HNA.out _ _ (hs158.trans cx162) (exC_sinceK F147.out cx162)).mono ?_
            rintro en wx163 ⟨rfl, hsx163⟩
            have cx163 := Since.trans cx162 hsx163
            refine hK.out _ _ (HKD.out _ cx163) (fun hHeldx163 => ?_)
            clear hK K hHeldx162
            try simp only [Act.put, List.setIfInBounds_toArray, List.set_cons_zero, List.set_cons_succ]
            refine take_yes 14 (some 109) (v := ?_) rfl (by kernel_rfl) (by kernel_rfl) (by kernel_rfl) (by kernel_rfl) (fun _ _ _ h => h) (by rfl) (by assumption) ?_ ?_
            rotate_left
            · (intro w' hSw; (try dsimp only at hSw); go_simp; try with_reducible rfl)
            try simp only [Act.put, List.setIfInBounds_toArray, List.set_cons_zero, List.set_cons_succ]
            refine take_no 15 (some 110) rfl (by kernel_rfl) (by kernel_rfl) (by kernel_rfl) (by kernel_rfl) (fun _ _ _ h => h) (by rfl) (by assumption) ?_
            try simp only [Act.put, List.setIfInBounds_toArray, List.set_cons_zero, List.set_cons_succ]
            refine take_no 16 (some 111) rfl (by kernel_rfl) (by kernel_rfl) (by kernel_rfl) (by kernel_rfl) (fun _ _ _ h => h) (by rfl) (by assumption) ?_
            try simp only [Act.put, List.setIfInBounds_toArray, List.set_cons_zero, List.set_cons_succ]
            refine take_yes 17 (some 112) (v := ?_) rfl (by kernel_rfl) (by kernel_rfl) (by kernel_rfl) (by kernel_rfl) (fun _ _ _ h => h) (by rfl) (by assumption) ?_ ?_
            rotate_left
            · (intro w' hSw; (try dsimp only at hSw); go_simp; try with_reducible rfl)
            try simp only [Act.put, List.setIfInBounds_toArray, List.set_cons_zero, List.set_cons_succ]
            refine take_yes 18 (some 113) (v := ?_) rfl (by kernel_rfl) (by kernel_rfl) (by kernel_rfl) (by kernel_rfl) (fun _ _ _ h => h) (by rfl) (by assumption) ?_ ?_
            rotate_left
            · (intro w' hSw; (try dsimp only at hSw); go_simp; try with_reducible rfl)
            try simp only [Act.put, List.setIfInBounds_toArray, List.set_cons_zero, List.set_cons_succ]
            refine take_yes 19 (some 114) (v := ?_) rfl (by kernel_rfl) (by kernel_rfl) (by kernel_rfl) (by kernel_rfl) (fun _ _ _ h => h) (by rfl) (by assumption) ?_ ?_
            rotate_left
            · (intro w' hSw; (try dsimp only at hSw); go_simp; try with_reducible rfl)
            try simp only [Act.put, List.setIfInBounds_toArray, List.set_cons_zero, List.set_cons_succ]
            refine take_yes 20 (some 115) (v := ?_) rfl (by kernel_rfl) (by kernel_rfl) (by kernel_rfl) (by kernel_rfl) (fun _ _ _ h => h) (by rfl) (by assumption) ?_ ?_
            rotate_left
            · (intro w' hSw; (try dsimp only at hSw); go_simp; try with_reducible rfl)
            try simp only [Act.put, List.setIfInBounds_toArray, List.set_cons_zero, List.set_cons_succ]
            refine take_yes 21 (some 116) (v := ?_) rfl (by kernel_rfl) (by kernel_rfl) (by kernel_rfl) (by kernel_rfl) (fun _ _ _ h => h) (by rfl) (by assumption) ?_ ?_
            rotate_left
            · (intro w' hSw; (try dsimp only at hSw); go_simp; try with_reducible rfl)
            try simp only [Act.put, List.setIfInBounds_toArray, List.set_cons_zero, List.set_cons_succ]
            refine take_run 22 rfl (by kernel_rfl) (by rfl) (fun K hK => ?_)
            go_simp
            refine (HNS.out _ _ (hs158.trans cx163) (exC_sinceK F156.out cx163)).mono ?_
            rintro en wx164 ⟨rfl, hsx164⟩
            have cx164 := Since.trans cx163 hsx164
            refine hK.out _ _ (HKD.out _ cx164) (fun hHeldx164 => ?_)
            clear hK K hHeldx163
            try simp only [Act.put, List.setIfInBounds_toArray, List.set_cons_zero, List.set_cons_succ]
            refine take_yes 23 (some 118) (v := ?_) rfl (by kernel_rfl) (by kernel_rfl) (by kernel_rfl) (by kernel_rfl) (fun _ _ _ h => h) (by rfl) (by assumption) ?_ ?_
            rotate_left
            · (intro w' hSw; (try dsimp only at hSw); go_simp; try with_reducible rfl)
            try simp only [Act.put, List.setIfInBounds_toArray, List.set_cons_zero, List.set_cons_succ]
            refine take_yes 24 (some 119) (v := ?_) rfl (by kernel_rfl) (by kernel_rfl) (by kernel_rfl) (by kernel_rfl) (fun _ _ _ h => h) (by rfl) (by assumption) ?_ ?_
            rotate_left
            · (intro w' hSw; (try dsimp only at hSw); go_simp; try with_reducible rfl)
            try simp only [Act.put, List.setIfInBounds_toArray, List.set_cons_zero, List.set_cons_succ]
            refine wpAnyH_done (by kernel_rfl) ?_ _
            clear hHeldx164
            have hcz := Lib.hid (cx164)
            clear HKD
            go_wp2_with fail
            go_meet
            exact ⟨by simp, hcz.out⟩
          · skip
            have HC' : Hid (∀ V Q, Since w Q → ExC Q V C → Calls Tryd.prog 23 #[V] Q fun e w' => e = .returned (.bool false) ∧ Since Q w') := HNC.out
            have HU' : Hid (∀ V Q, Since w Q → ExC Q V U → Calls Tryd.prog 23 #[V] Q fun e w' => e = .returned (.bool true) ∧ Since Q w') := HNU.out
            refine wp_region_held_drew (S := (fun w' => w'.cell? ⟨w1.heap.size, 0, none⟩ = some (.slice ao an ac) ∧ w'.cell? ⟨(w1.heap.size + 1), 0, none⟩ = some (.slice bo bn bc) ∧ w'.cell? ⟨w5.heap.size, 0, none⟩ = some (.slice Co Cn Cc) ∧ w'.cell? ⟨w23.heap.size, 0, none⟩ = some (.slice Uo Un Uc) ∧ w'.cell? ⟨w45.heap.size, 0, none⟩ = some (.slice So Sn Sc))) (by kernel_rfl) (HKD.out _ (Since.refl w145).drew) (fun hHeld => ?_)
            refine take_yes 0 (some 95) (v := ?_) rfl (by kernel_rfl) (by kernel_rfl) (by kernel_rfl) (by kernel_rfl) (fun _ _ _ h => h) (by rfl) (by assumption) ?_ ?_
            rotate_left
            · (intro w' hSw; (try dsimp only at hSw); go_simp; try with_reducible rfl)
            try simp only [Act.put, List.setIfInBounds_toArray, List.set_cons_zero, List.set_cons_succ]
            refine take_yes 2 (some 97) (v := ?_) rfl (by kernel_rfl) (by kernel_rfl) (by kernel_rfl) (by kernel_rfl) (fun _ _ _ h => h) (by rfl) (by assumption) ?_ ?_
            rotate_left
            · (intro w' hSw; (try dsimp only at hSw); go_simp; try with_reducible rfl)
            try simp only [Act.put, List.setIfInBounds_toArray, List.set_cons_zero, List.set_cons_succ]
            refine take_run 1 rfl (by kernel_rfl) (by rfl) (fun K hK => ?_)
            go_simp
            refine (HC'.out _ _ (hs158.trans (Since.refl w145).drew) (exC_sinceK F152.out (Since.refl w145).drew)).mono ?_
            rintro en wx165 ⟨rfl, hsx165⟩
            have cx165 := Since.trans (Since.refl w145).drew hsx165
            refine hK.out _ _ (HKD.out _ cx165) (fun hHeldx165 => ?_)
            clear hK K hHeld
            try simp only [Act.put, List.setIfInBounds_toArray, List.set_cons_zero, List.set_cons_succ]
            refine take_run 3 rfl (by kernel_rfl) (by rfl) (fun K hK => ?_)
            go_simp
            refine (HNA.out _ _ (hs158.trans cx165) (exC_sinceK F147.out cx165)).mono ?_
            rintro en wx166 ⟨rfl, hsx166⟩
            have cx166 := Since.trans cx165 hsx166
            refine hK.out _ _ (HKD.out _ cx166) (fun hHeldx166 => ?_)
            clear hK K hHeldx165
            try simp only [Act.put, List.setIfInBounds_toArray, List.set_cons_zero, List.set_cons_succ]
            refine take_yes 4 (some 99) (v := ?_) rfl (by kernel_rfl) (by kernel_rfl) (by kernel_rfl) (by kernel_rfl) (fun _ _ _ h => h) (by rfl) (by assumption) ?_ ?_
            rotate_left
            · (intro w' hSw; (try dsimp only at hSw); go_simp; try with_reducible rfl)
            try simp only [Act.put, List.setIfInBounds_toArray, List.set_cons_zero, List.set_cons_succ]
            refine take_yes 5 (some 100) (v := ?_) rfl (by kernel_rfl) (by kernel_rfl) (by kernel_rfl) (by kernel_rfl) (fun _ _ _ h => h) (by rfl) (by assumption) ?_ ?_
            rotate_left
            · (intro w' hSw; (try dsimp only at hSw); go_simp; try with_reducible rfl)
            try simp only [Act.put, List.setIfInBounds_toArray, List.set_cons_zero, List.set_cons_succ]
            refine take_run 6 rfl (by kernel_rfl) (by rfl) (fun K hK => ?_)
            go_simp
            refine (HNB.out _ _ (hs158.trans cx166) (exC_sinceK F148.out cx166)).mono ?_
            rintro en wx167 ⟨rfl, hsx167⟩
            have cx167 := Since.trans cx166 hsx167
            refine hK.out _ _ (HKD.out _ cx167) (fun hHeldx167 => ?_)
            clear hK K hHeldx166
            try simp only [Act.put, List.setIfInBounds_toArray, List.set_cons_zero, List.set_cons_succ]
            refine take_yes 7 (some 102) (v := ?_) rfl (by kernel_rfl) (by kernel_rfl) (by kernel_rfl) (by kernel_rfl) (fun _ _ _ h => h) (by rfl) (by assumption) ?_ ?_
            rotate_left
            · (intro w' hSw; (try dsimp only at hSw); go_simp; try with_reducible rfl)
            try simp only [Act.put, List.setIfInBounds_toArray, List.set_cons_zero, List.set_cons_succ]
            refine take_yes 8 (some 103) (v := ?_) rfl (by kernel_rfl) (by kernel_rfl) (by kernel_rfl) (by kernel_rfl) (fun _ _ _ h => h) (by rfl) (by assumption) ?_ ?_
            rotate_left
            · (intro w' hSw; (try dsimp only at hSw); go_simp; try with_reducible rfl)
            try simp only [Act.put, List.setIfInBounds_toArray, List.set_cons_zero, List.set_cons_succ]
            refine take_yes 9 (some 104) (v := ?_) rfl (by kernel_rfl) (by kernel_rfl) (by kernel_rfl) (by kernel_rfl) (fun _ _ _ h => h) (by rfl) (by assumption) ?_ ?_
            rotate_left
            · (intro w' hSw; (try dsimp only at hSw); go_simp; try with_reducible rfl)
            try simp only [Act.put, List.setIfInBounds_toArray, List.set_cons_zero, List.set_cons_succ]
            refine take_yes 10 (some 105) (v := ?_) rfl (by kernel_rfl) (by kernel_rfl) (by kernel_rfl) (by kernel_rfl) (fun _ _ _ h => h) (by rfl) (by assumption) ?_ ?_
            rotate_left
            · (intro w' hSw; (try dsimp only at hSw); go_simp; try with_reducible rfl)
            try simp only [Act.put, List.setIfInBounds_toArray, List.set_cons_zero, List.set_cons_succ]
            refine take_yes 12 (some 107) (v := ?_) rfl (by kernel_rfl) (by kernel_rfl) (by kernel_rfl) (by kernel_rfl) (fun _ _ _ h => h) (by rfl) (by assumption) ?_ ?_
            rotate_left
            · (intro w' hSw; (try dsimp only at hSw); go_simp; try with_reducible rfl)
            try simp only [Act.put, List.setIfInBounds_toArray, List.set_cons_zero, List.set_cons_succ]
            refine take_run 11 rfl (by kernel_rfl) (by rfl) (fun K hK => ?_)
            go_simp
            refine (HU'.out _ _ (hs158.trans cx167) (exC_sinceK F154.out cx167)).mono ?_
            rintro en wx168 ⟨rfl, hsx168⟩
            have cx168 := Since.trans cx167 hsx168
            refine hK.out _ _ (HKD.out _ cx168) (fun hHeldx168 => ?_)
            clear hK K hHeldx167
            try simp only [Act.put, List.setIfInBounds_toArray, List.set_cons_zero, List.set_cons_succ]
            refine take_run 13 rfl (by kernel_rfl) (by rfl) (fun K hK => ?_)
            go_simp
            refine (HNA.out _ _ (hs158.trans cx168) (exC_sinceK F147.out cx168)).mono ?_
            rintro en wx169 ⟨rfl, hsx169⟩
            have cx169 := Since.trans cx168 hsx169
            refine hK.out _ _ (HKD.out _ cx169) (fun hHeldx169 => ?_)
            clear hK K hHeldx168
            try simp only [Act.put, List.setIfInBounds_toArray, List.set_cons_zero, List.set_cons_succ]
            refine take_yes 14 (some 109) (v := ?_) rfl (by kernel_rfl) (by kernel_rfl) (by kernel_rfl) (by kernel_rfl) (fun _ _ _ h => h) (by rfl) (by assumption) ?_ ?_
            rotate_left
            · (intro w' hSw; (try dsimp only at hSw); go_simp; try with_reducible rfl)
            try simp only [Act.put, List.setIfInBounds_toArray, List.set_cons_zero, List.set_cons_succ]
            refine take_no 15 (some 110) rfl (by kernel_rfl) (by kernel_rfl) (by kernel_rfl) (by kernel_rfl) (fun _ _ _ h => h) (by rfl) (by assumption) ?_
            try simp only [Act.put, List.setIfInBounds_toArray, List.set_cons_zero, List.set_cons_succ]
            refine take_no 16 (some 111) rfl (by kernel_rfl) (by kernel_rfl) (by kernel_rfl) (by kernel_rfl) (fun _ _ _ h => h) (by rfl) (by assumption) ?_
            try simp only [Act.put, List.setIfInBounds_toArray, List.set_cons_zero, List.set_cons_succ]
            refine take_yes 17 (some 112) (v := ?_) rfl (by kernel_rfl) (by kernel_rfl) (by kernel_rfl) (by kernel_rfl) (fun _ _ _ h => h) (by rfl) (by assumption) ?_ ?_
            rotate_left
            · (intro w' hSw; (try dsimp only at hSw); go_simp; try with_reducible rfl)
            try simp only [Act.put, List.setIfInBounds_toArray, List.set_cons_zero, List.set_cons_succ]
            refine take_yes 18 (some 113) (v := ?_) rfl (by kernel_rfl) (by kernel_rfl) (by kernel_rfl) (by kernel_rfl) (fun _ _ _ h => h) (by rfl) (by assumption) ?_ ?_
            rotate_left
            · (intro w' hSw; (try dsimp only at hSw); go_simp; try with_reducible rfl)
            try simp only [Act.put, List.setIfInBounds_toArray, List.set_cons_zero, List.set_cons_succ]
            refine take_yes 19 (some 114) (v := ?_) rfl (by kernel_rfl) (by kernel_rfl) (by kernel_rfl) (by kernel_rfl) (fun _ _ _ h => h) (by rfl) (by assumption) ?_ ?_
            rotate_left
            · (intro w' hSw; (try dsimp only at hSw); go_simp; try with_reducible rfl)
            try simp only [Act.put, List.setIfInBounds_toArray, List.set_cons_zero, List.set_cons_succ]
            refine take_yes 20 (some 115) (v := ?_) rfl (by kernel_rfl) (by kernel_rfl) (by kernel_rfl) (by kernel_rfl) (fun _ _ _ h => h) (by rfl) (by assumption) ?_ ?_
            rotate_left
            · (intro w' hSw; (try dsimp only at hSw); go_simp; try with_reducible rfl)
            try simp only [Act.put, List.setIfInBounds_toArray, List.set_cons_zero, List.set_cons_succ]
            refine take_yes 21 (some 116) (v := ?_) rfl (by kernel_rfl) (by kernel_rfl) (by kernel_rfl) (by kernel_rfl) (fun _ _ _ h => h) (by rfl) (by assumption) ?_ ?_
            rotate_left
            · (intro w' hSw; (try dsimp only at hSw); go_simp; try with_reducible rfl)
            try simp only [Act.put, List.setIfInBounds_toArray, List.set_cons_zero, List.set_cons_succ]
            refine take_run 22 rfl (by kernel_rfl) (by rfl) (fun K hK => ?_)
            go_simp
            refine (HNS.out _ _ (hs158.trans cx169) (exC_sinceK F156.out cx169)).mono ?_
            rintro en wx170 ⟨rfl, hsx170⟩
            have cx170 := Since.trans cx169 hsx170
            refine hK.out _ _ (HKD.out _ cx170) (fun hHeldx170 => ?_)
            clear hK K hHeldx169
            try simp only [Act.put, List.setIfInBounds_toArray, List.set_cons_zero, List.set_cons_succ]
            refine take_yes 23 (some 118) (v := ?_) rfl (by kernel_rfl) (by kernel_rfl) (by kernel_rfl) (by kernel_rfl) (fun _ _ _ h => h) (by rfl) (by assumption) ?_ ?_
            rotate_left
            · (intro w' hSw; (try dsimp only at hSw); go_simp; try with_reducible rfl)
            try simp only [Act.put, List.setIfInBounds_toArray, List.set_cons_zero, List.set_cons_succ]
            refine take_yes 24 (some 119) (v := ?_) rfl (by kernel_rfl) (by kernel_rfl) (by kernel_rfl) (by kernel_rfl) (fun _ _ _ h => h) (by rfl) (by assumption) ?_ ?_
            rotate_left
            · (intro w' hSw; (try dsimp only at hSw); go_simp; try with_reducible rfl)
            try simp only [Act.put, List.setIfInBounds_toArray, List.set_cons_zero, List.set_cons_succ]
            refine wpAnyH_done (by kernel_rfl) ?_ _
            clear hHeldx170
            have hcz := Lib.hid (cx170)
            clear HKD
            go_wp2_with fail
            go_meet
            exact ⟨by simp, hcz.out⟩
          · skip
            have HC' : Hid (∀ V Q, Since w Q → ExC Q V C → Calls Tryd.prog 23 #[V] Q fun e w' => e = .returned (.bool false) ∧ Since Q w') := HNC.out
            have HU' : Hid (∀ V Q, Since w Q → ExC Q V U → Calls Tryd.prog 23 #[V] Q fun e w' => e = .returned (.bool true) ∧ Since Q w') := HNU.out
            refine wp_region_held_drew (S := (fun w' => w'.cell? ⟨w1.heap.size, 0, none⟩ = some (.slice ao an ac) ∧ w'.cell? ⟨(w1.heap.size + 1), 0, none⟩ = some (.slice bo bn bc) ∧ w'.cell? ⟨w5.heap.size, 0, none⟩ = some (.slice Co Cn Cc) ∧ w'.cell? ⟨w23.heap.size, 0, none⟩ = some (.slice Uo Un Uc) ∧ w'.cell? ⟨w45.heap.size, 0, none⟩ = some (.slice So Sn Sc))) (by kernel_rfl) (HKD.out _ (Since.refl w145).drew) (fun hHeld => ?_)
            refine take_yes 0 (some 95) (v := ?_) rfl (by kernel_rfl) (by kernel_rfl) (by kernel_rfl) (by kernel_rfl) (fun _ _ _ h => h) (by rfl) (by assumption) ?_ ?_
            rotate_left
            · (intro w' hSw; (try dsimp only at hSw); go_simp; try with_reducible rfl)
            try simp only [Act.put, List.setIfInBounds_toArray, List.set_cons_zero, List.set_cons_succ]
            refine take_yes 2 (some 97) (v := ?_) rfl (by kernel_rfl) (by kernel_rfl) (by kernel_rfl) (by kernel_rfl) (fun _ _ _ h => h) (by rfl) (by assumption) ?_ ?_
            rotate_left
            · (intro w' hSw; (try dsimp only at hSw); go_simp; try with_reducible rfl)
            try simp only [Act.put, List.setIfInBounds_toArray, List.set_cons_zero, List.set_cons_succ]
            refine take_run 1 rfl (by kernel_rfl) (by rfl) (fun K hK => ?_)
            go_simp
            refine (HC'.out _ _ (hs158.trans (Since.refl w145).drew) (exC_sinceK F152.out (Since.refl w145).drew)).mono ?_
            rintro en wx171 ⟨rfl, hsx171⟩
            have cx171 := Since.trans (Since.refl w145).drew hsx171
            refine hK.out _ _ (HKD.out _ cx171) (fun hHeldx171 => ?_)
            clear hK K hHeld
            try simp only [Act.put, List.setIfInBounds_toArray, List.set_cons_zero, List.set_cons_succ]
            refine take_run 3 rfl (by kernel_rfl) (by rfl) (fun K hK => ?_)
            go_simp
            refine (HNA.out _ _ (hs158.trans cx171) (exC_sinceK F147.out cx171)).mono ?_
            rintro en wx172 ⟨rfl, hsx172⟩
            have cx172 := Since.trans cx171 hsx172
            refine hK.out _ _ (HKD.out _ cx172) (fun hHeldx172 => ?_)
            clear hK K hHeldx171
            try simp only [Act.put, List.setIfInBounds_toArray, List.set_cons_zero, List.set_cons_succ]
            refine take_yes 4 (some 99) (v := ?_) rfl (by kernel_rfl) (by kernel_rfl) (by kernel_rfl) (by kernel_rfl) (fun _ _ _ h => h) (by rfl) (by assumption) ?_ ?_
            rotate_left
            · (intro w' hSw; (try dsimp only at hSw); go_simp; try with_reducible rfl)
            try simp only [Act.put, List.setIfInBounds_toArray, List.set_cons_zero, List.set_cons_succ]
            refine take_no 5 (some 100) rfl (by kernel_rfl) (by kernel_rfl) (by kernel_rfl) (by kernel_rfl) (fun _ _ _ h => h) (by rfl) (by assumption) ?_
            try simp only [Act.put, List.setIfInBounds_toArray, List.set_cons_zero, List.set_cons_succ]
            refine take_no 6 (some 101) rfl (by kernel_rfl) (by kernel_rfl) (by kernel_rfl) (by kernel_rfl) (fun _ _ _ h => h) (by rfl) (by assumption) ?_
            try simp only [Act.put, List.setIfInBounds_toArray, List.set_cons_zero, List.set_cons_succ]
            refine take_yes 7 (some 102) (v := ?_) rfl (by kernel_rfl) (by kernel_rfl) (by kernel_rfl) (by kernel_rfl) (fun _ _ _ h => h) (by rfl) (by assumption) ?_ ?_
            rotate_left
            · (intro w' hSw; (try dsimp only at hSw); go_simp; try with_reducible rfl)
            try simp only [Act.put, List.setIfInBounds_toArray, List.set_cons_zero, List.set_cons_succ]
            refine take_yes 8 (some 103) (v := ?_) rfl (by kernel_rfl) (by kernel_rfl) (by kernel_rfl) (by kernel_rfl) (fun _ _ _ h => h) (by rfl) (by assumption) ?_ ?_
            rotate_left
            · (intro w' hSw; (try dsimp only at hSw); go_simp; try with_reducible rfl)
            try simp only [Act.put, List.setIfInBounds_toArray, List.set_cons_zero, List.set_cons_succ]
            refine take_yes 9 (some 104) (v := ?_) rfl (by kernel_rfl) (by kernel_rfl) (by kernel_rfl) (by kernel_rfl) (fun _ _ _ h => h) (by rfl) (by assumption) ?_ ?_
            rotate_left
            · (intro w' hSw; (try dsimp only at hSw); go_simp; try with_reducible rfl)
            try simp only [Act.put, List.setIfInBounds_toArray, List.set_cons_zero, List.set_cons_succ]
            refine take_yes 10 (some 105) (v := ?_) rfl (by kernel_rfl) (by kernel_rfl) (by kernel_rfl) (by kernel_rfl) (fun _ _ _ h => h) (by rfl) (by assumption) ?_ ?_
            rotate_left
            · (intro w' hSw; (try dsimp only at hSw); go_simp; try with_reducible rfl)
            try simp only [Act.put, List.setIfInBounds_toArray, List.set_cons_zero, List.set_cons_succ]
            refine take_yes 12 (some 107) (v := ?_) rfl (by kernel_rfl) (by kernel_rfl) (by kernel_rfl) (by kernel_rfl) (fun _ _ _ h => h) (by rfl) (by assumption) ?_ ?_
            rotate_left
            · (intro w' hSw; (try dsimp only at hSw); go_simp; try with_reducible rfl)
            try simp only [Act.put, List.setIfInBounds_toArray, List.set_cons_zero, List.set_cons_succ]
            refine take_run 11 rfl (by kernel_rfl) (by rfl) (fun K hK => ?_)
            go_simp
            refine (HU'.out _ _ (hs158.trans cx172) (exC_sinceK F154.out cx172)).mono ?_
            rintro en wx173 ⟨rfl, hsx173⟩
            have cx173 := Since.trans cx172 hsx173
            refine hK.out _ _ (HKD.out _ cx173) (fun hHeldx173 => ?_)
            clear hK K hHeldx172
            try simp only [Act.put, List.setIfInBounds_toArray, List.set_cons_zero, List.set_cons_succ]
            refine take_run 13 rfl (by kernel_rfl) (by rfl) (fun K hK => ?_)
            go_simp
            refine (HNA.out _ _ (hs158.trans cx173) (exC_sinceK F147.out cx173)).mono ?_
            rintro en wx174 ⟨rfl, hsx174⟩
            have cx174 := Since.trans cx173 hsx174
            refine hK.out _ _ (HKD.out _ cx174) (fun hHeldx174 => ?_)
            clear hK K hHeldx173
            try simp only [Act.put, List.setIfInBounds_toArray, List.set_cons_zero, List.set_cons_succ]
            refine take_yes 14 (some 109) (v := ?_) rfl (by kernel_rfl) (by kernel_rfl) (by kernel_rfl) (by kernel_rfl) (fun _ _ _ h => h) (by rfl) (by assumption) ?_ ?_
            rotate_left
            · (intro w' hSw; (try dsimp only at hSw); go_simp; try with_reducible rfl)
            try simp only [Act.put, List.setIfInBounds_toArray, List.set_cons_zero, List.set_cons_succ]
            refine take_yes 15 (some 110) (v := ?_) rfl (by kernel_rfl) (by kernel_rfl) (by kernel_rfl) (by kernel_rfl) (fun _ _ _ h => h) (by rfl) (by assumption) ?_ ?_
            rotate_left
            · (intro w' hSw; (try dsimp only at hSw); go_simp; try with_reducible rfl)
            try simp only [Act.put, List.setIfInBounds_toArray, List.set_cons_zero, List.set_cons_succ]
            refine take_run 16 rfl (by kernel_rfl) (by rfl) (fun K hK => ?_)
            go_simp
            refine (HNB.out _ _ (hs158.trans cx174) (exC_sinceK F148.out cx174)).mono ?_
            rintro en wx175 ⟨rfl, hsx175⟩
            have cx175 := Since.trans cx174 hsx175
            refine hK.out _ _ (HKD.out _ cx175) (fun hHeldx175 => ?_)
            clear hK K hHeldx174
            try simp only [Act.put, List.setIfInBounds_toArray, List.set_cons_zero, List.set_cons_succ]
            refine take_yes 17 (some 112) (v := ?_) rfl (by kernel_rfl) (by kernel_rfl) (by kernel_rfl) (by kernel_rfl) (fun _ _ _ h => h) (by rfl) (by assumption) ?_ ?_
            rotate_left
            · (intro w' hSw; (try dsimp only at hSw); go_simp; try with_reducible rfl)
            try simp only [Act.put, List.setIfInBounds_toArray, List.set_cons_zero, List.set_cons_succ]
            refine take_yes 18 (some 113) (v := ?_) rfl (by kernel_rfl) (by kernel_rfl) (by kernel_rfl) (by kernel_rfl) (fun _ _ _ h => h) (by rfl) (by assumption) ?_ ?_
            rotate_left
            · (intro w' hSw; (try dsimp only at hSw); go_simp; try with_reducible rfl)
            try simp only [Act.put, List.setIfInBounds_toArray, List.set_cons_zero, List.set_cons_succ]
            refine take_yes 19 (some 114) (v := ?_) rfl (by kernel_rfl) (by kernel_rfl) (by kernel_rfl) (by kernel_rfl) (fun _ _ _ h => h) (by rfl) (by assumption) ?_ ?_
            rotate_left
            · (intro w' hSw; (try dsimp only at hSw); go_simp; try with_reducible rfl)
            try simp only [Act.put, List.setIfInBounds_toArray, List.set_cons_zero, List.set_cons_succ]
            refine take_yes 20 (some 115) (v := ?_) rfl (by kernel_rfl) (by kernel_rfl) (by kernel_rfl) (by kernel_rfl) (fun _ _ _ h => h) (by rfl) (by assumption) ?_ ?_
            rotate_left
            · (intro w' hSw; (try dsimp only at hSw); go_simp; try with_reducible rfl)
            try simp only [Act.put, List.setIfInBounds_toArray, List.set_cons_zero, List.set_cons_succ]
            refine take_yes 21 (some 116) (v := ?_) rfl (by kernel_rfl) (by kernel_rfl) (by kernel_rfl) (by kernel_rfl) (fun _ _ _ h => h) (by rfl) (by assumption) ?_ ?_
            rotate_left
            · (intro w' hSw; (try dsimp only at hSw); go_simp; try with_reducible rfl)
            try simp only [Act.put, List.setIfInBounds_toArray, List.set_cons_zero, List.set_cons_succ]
            refine take_run 22 rfl (by kernel_rfl) (by rfl) (fun K hK => ?_)
            go_simp
            refine (HNS.out _ _ (hs158.trans cx175) (exC_sinceK F156.out cx175)).mono ?_
            rintro en wx176 ⟨rfl, hsx176⟩
            have cx176 := Since.trans cx175 hsx176
            refine hK.out _ _ (HKD.out _ cx176) (fun hHeldx176 => ?_)
            clear hK K hHeldx175
            try simp only [Act.put, List.setIfInBounds_toArray, List.set_cons_zero, List.set_cons_succ]
            refine take_yes 23 (some 118) (v := ?_) rfl (by kernel_rfl) (by kernel_rfl) (by kernel_rfl) (by kernel_rfl) (fun _ _ _ h => h) (by rfl) (by assumption) ?_ ?_
            rotate_left
            · (intro w' hSw; (try dsimp only at hSw); go_simp; try with_reducible rfl)
            try simp only [Act.put, List.setIfInBounds_toArray, List.set_cons_zero, List.set_cons_succ]
            refine take_yes 24 (some 119) (v := ?_) rfl (by kernel_rfl) (by kernel_rfl) (by kernel_rfl) (by kernel_rfl) (fun _ _ _ h => h) (by rfl) (by assumption) ?_ ?_
            rotate_left
            · (intro w' hSw; (try dsimp only at hSw); go_simp; try with_reducible rfl)
            try simp only [Act.put, List.setIfInBounds_toArray, List.set_cons_zero, List.set_cons_succ]
            refine wpAnyH_done (by kernel_rfl) ?_ _
            clear hHeldx176
            have hcz := Lib.hid (cx176)
            clear HKD
            go_wp2_with fail
            go_meet
            exact ⟨by simp, hcz.out⟩
          · skip
            have HC' : Hid (∀ V Q, Since w Q → ExC Q V C → Calls Tryd.prog 23 #[V] Q fun e w' => e = .returned (.bool false) ∧ Since Q w') := HNC.out
            have HU' : Hid (∀ V Q, Since w Q → ExC Q V U → Calls Tryd.prog 23 #[V] Q fun e w' => e = .returned (.bool false) ∧ Since Q w') := HNU.out
            refine wp_region_held_drew (S := (fun w' => w'.cell? ⟨w1.heap.size, 0, none⟩ = some (.slice ao an ac) ∧ w'.cell? ⟨(w1.heap.size + 1), 0, none⟩ = some (.slice bo bn bc) ∧ w'.cell? ⟨w5.heap.size, 0, none⟩ = some (.slice Co Cn Cc) ∧ w'.cell? ⟨w23.heap.size, 0, none⟩ = some (.slice Uo Un Uc) ∧ w'.cell? ⟨w45.heap.size, 0, none⟩ = some (.slice So Sn Sc))) (by kernel_rfl) (HKD.out _ (Since.refl w145).drew) (fun hHeld => ?_)
            refine take_yes 0 (some 95) (v := ?_) rfl (by kernel_rfl) (by kernel_rfl) (by kernel_rfl) (by kernel_rfl) (fun _ _ _ h => h) (by rfl) (by assumption) ?_ ?_
            rotate_left
            · (intro w' hSw; (try dsimp only at hSw); go_simp; try with_reducible rfl)
            try simp only [Act.put, List.setIfInBounds_toArray, List.set_cons_zero, List.set_cons_succ]
            refine take_yes 2 (some 97) (v := ?_) rfl (by kernel_rfl) (by kernel_rfl) (by kernel_rfl) (by kernel_rfl) (fun _ _ _ h => h) (by rfl) (by assumption) ?_ ?_
            rotate_left
            · (intro w' hSw; (try dsimp only at hSw); go_simp; try with_reducible rfl)
            try simp only [Act.put, List.setIfInBounds_toArray, List.set_cons_zero, List.set_cons_succ]
            refine take_run 1 rfl (by kernel_rfl) (by rfl) (fun K hK => ?_)
            go_simp
            refine (HC'.out _ _ (hs158.trans (Since.refl w145).drew) (exC_sinceK F152.out (Since.refl w145).drew)).mono ?_
            rintro en wx177 ⟨rfl, hsx177⟩
            have cx177 := Since.trans (Since.refl w145).drew hsx177
            refine hK.out _ _ (HKD.out _ cx177) (fun hHeldx177 => ?_)
            clear hK K hHeld
            try simp only [Act.put, List.setIfInBounds_toArray, List.set_cons_zero, List.set_cons_succ]
            refine take_run 3 rfl (by kernel_rfl) (by rfl) (fun K hK => ?_)
            go_simp
            refine (HNA.out _ _ (hs158.trans cx177) (exC_sinceK F147.out cx177)).mono ?_
            rintro en wx178 ⟨rfl, hsx178⟩
            have cx178 := Since.trans cx177 hsx178
            refine hK.out _ _ (HKD.out _ cx178) (fun hHeldx178 => ?_)
            clear hK K hHeldx177
            try simp only [Act.put, List.setIfInBounds_toArray, List.set_cons_zero, List.set_cons_succ]
            refine take_yes 4 (some 99) (v := ?_) rfl (by kernel_rfl) (by kernel_rfl) (by kernel_rfl) (by kernel_rfl) (fun _ _ _ h => h) (by rfl) (by assumption) ?_ ?_
            rotate_left
            · (intro w' hSw; (try dsimp only at hSw); go_simp; try with_reducible rfl)
            try simp only [Act.put, List.setIfInBounds_toArray, List.set_cons_zero, List.set_cons_succ]
            refine take_no 5 (some 100) rfl (by kernel_rfl) (by kernel_rfl) (by kernel_rfl) (by kernel_rfl) (fun _ _ _ h => h) (by rfl) (by assumption) ?_
            try simp only [Act.put, List.setIfInBounds_toArray, List.set_cons_zero, List.set_cons_succ]
            refine take_no 6 (some 101) rfl (by kernel_rfl) (by kernel_rfl) (by kernel_rfl) (by kernel_rfl) (fun _ _ _ h => h) (by rfl) (by assumption) ?_
            try simp only [Act.put, List.setIfInBounds_toArray, List.set_cons_zero, List.set_cons_succ]
            refine take_yes 7 (some 102) (v := ?_) rfl (by kernel_rfl) (by kernel_rfl) (by kernel_rfl) (by kernel_rfl) (fun _ _ _ h => h) (by rfl) (by assumption) ?_ ?_
            rotate_left
            · (intro w' hSw; (try dsimp only at hSw); go_simp; try with_reducible rfl)
            try simp only [Act.put, List.setIfInBounds_toArray, List.set_cons_zero, List.set_cons_succ]
            refine take_yes 8 (some 103) (v := ?_) rfl (by kernel_rfl) (by kernel_rfl) (by kernel_rfl) (by kernel_rfl) (fun _ _ _ h => h) (by rfl) (by assumption) ?_ ?_
            rotate_left
            · (intro w' hSw; (try dsimp only at hSw); go_simp; try with_reducible rfl)
            try simp only [Act.put, List.setIfInBounds_toArray, List.set_cons_zero, List.set_cons_succ]
            refine take_yes 9 (some 104) (v := ?_) rfl (by kernel_rfl) (by kernel_rfl) (by kernel_rfl) (by kernel_rfl) (fun _ _ _ h => h) (by rfl) (by assumption) ?_ ?_
            rotate_left
            · (intro w' hSw; (try dsimp only at hSw); go_simp; try with_reducible rfl)
            try simp only [Act.put, List.setIfInBounds_toArray, List.set_cons_zero, List.set_cons_succ]
            refine take_yes 10 (some 105) (v := ?_) rfl (by kernel_rfl) (by kernel_rfl) (by kernel_rfl) (by kernel_rfl) (fun _ _ _ h => h) (by rfl) (by assumption) ?_ ?_
            rotate_left
            · (intro w' hSw; (try dsimp only at hSw); go_simp; try with_reducible rfl)
            try simp only [Act.put, List.setIfInBounds_toArray, List.set_cons_zero, List.set_cons_succ]
            refine take_yes 12 (some 107) (v := ?_) rfl (by kernel_rfl) (by kernel_rfl) (by kernel_rfl) (by kernel_rfl) (fun _ _ _ h => h) (by rfl) (by assumption) ?_ ?_
            rotate_left
            · (intro w' hSw; (try dsimp only at hSw); go_simp; try with_reducible rfl)
            try simp only [Act.put, List.setIfInBounds_toArray, List.set_cons_zero, List.set_cons_succ]
            refine take_run 11 rfl (by kernel_rfl) (by rfl) (fun K hK => ?_)
            go_simp
            refine (HU'.out _ _ (hs158.trans cx178) (exC_sinceK F154.out cx178)).mono ?_
            rintro en wx179 ⟨rfl, hsx179⟩
            have cx179 := Since.trans cx178 hsx179
            refine hK.out _ _ (HKD.out _ cx179) (fun hHeldx179 => ?_)
            clear hK K hHeldx178
            try simp only [Act.put, List.setIfInBounds_toArray, List.set_cons_zero, List.set_cons_succ]
            refine take_run 13 rfl (by kernel_rfl) (by rfl) (fun K hK => ?_)
            go_simp
            refine (HNA.out _ _ (hs158.trans cx179) (exC_sinceK F147.out cx179)).mono ?_
            rintro en wx180 ⟨rfl, hsx180⟩
            have cx180 := Since.trans cx179 hsx180
            refine hK.out _ _ (HKD.out _ cx180) (fun hHeldx180 => ?_)
            clear hK K hHeldx179
            try simp only [Act.put, List.setIfInBounds_toArray, List.set_cons_zero, List.set_cons_succ]
            refine take_yes 14 (some 109) (v := ?_) rfl (by kernel_rfl) (by kernel_rfl) (by kernel_rfl) (by kernel_rfl) (fun _ _ _ h => h) (by rfl) (by assumption) ?_ ?_
            rotate_left
            · (intro w' hSw; (try dsimp only at hSw); go_simp; try with_reducible rfl)
            try simp only [Act.put, List.setIfInBounds_toArray, List.set_cons_zero, List.set_cons_succ]
            refine take_yes 15 (some 110) (v := ?_) rfl (by kernel_rfl) (by kernel_rfl) (by kernel_rfl) (by kernel_rfl) (fun _ _ _ h => h) (by rfl) (by assumption) ?_ ?_
            rotate_left
            · (intro w' hSw; (try dsimp only at hSw); go_simp; try with_reducible rfl)
            try simp only [Act.put, List.setIfInBounds_toArray, List.set_cons_zero, List.set_cons_succ]
            refine take_run 16 rfl (by kernel_rfl) (by rfl) (fun K hK => ?_)
            go_simp
            refine (HNB.out _ _ (hs158.trans cx180) (exC_sinceK F148.out cx180)).mono ?_
            rintro en wx181 ⟨rfl, hsx181⟩
            have cx181 := Since.trans cx180 hsx181
            refine hK.out _ _ (HKD.out _ cx181) (fun hHeldx181 => ?_)
            clear hK K hHeldx180
            try simp only [Act.put, List.setIfInBounds_toArray, List.set_cons_zero, List.set_cons_succ]
            refine take_yes 17 (some 112) (v := ?_) rfl (by kernel_rfl) (by kernel_rfl) (by kernel_rfl) (by kernel_rfl) (fun _ _ _ h => h) (by rfl) (by assumption) ?_ ?_
            rotate_left
            · (intro w' hSw; (try dsimp only at hSw); go_simp; try with_reducible rfl)
            try simp only [Act.put, List.setIfInBounds_toArray, List.set_cons_zero, List.set_cons_succ]
            refine take_yes 18 (some 113) (v := ?_) rfl (by kernel_rfl) (by kernel_rfl) (by kernel_rfl) (by kernel_rfl) (fun _ _ _ h => h) (by rfl) (by assumption) ?_ ?_
            rotate_left
            · (intro w' hSw; (try dsimp only at hSw); go_simp; try with_reducible rfl)
            try simp only [Act.put, List.setIfInBounds_toArray, List.set_cons_zero, List.set_cons_succ]
            refine take_yes 19 (some 114) (v := ?_) rfl (by kernel_rfl) (by kernel_rfl) (by kernel_rfl) (by kernel_rfl) (fun _ _ _ h => h) (by rfl) (by assumption) ?_ ?_
            rotate_left
            · (intro w' hSw; (try dsimp only at hSw); go_simp; try with_reducible rfl)
            try simp only [Act.put, List.setIfInBounds_toArray, List.set_cons_zero, List.set_cons_succ]
            refine take_yes 20 (some 115) (v := ?_) rfl (by kernel_rfl) (by kernel_rfl) (by kernel_rfl) (by kernel_rfl) (fun _ _ _ h => h) (by rfl) (by assumption) ?_ ?_
            rotate_left
            · (intro w' hSw; (try dsimp only at hSw); go_simp; try with_reducible rfl)
            try simp only [Act.put, List.setIfInBounds_toArray, List.set_cons_zero, List.set_cons_succ]
            refine take_yes 21 (some 116) (v := ?_) rfl (by kernel_rfl) (by kernel_rfl) (by kernel_rfl) (by kernel_rfl) (fun _ _ _ h => h) (by rfl) (by assumption) ?_ ?_
            rotate_left
            · (intro w' hSw; (try dsimp only at hSw); go_simp; try with_reducible rfl)
            try simp only [Act.put, List.setIfInBounds_toArray, List.set_cons_zero, List.set_cons_succ]
            refine take_run 22 rfl (by kernel_rfl) (by rfl) (fun K hK => ?_)
            go_simp
            refine (HNS.out _ _ (hs158.trans cx181) (exC_sinceK F156.out cx181)).mono ?_
            rintro en wx182 ⟨rfl, hsx182⟩
            have cx182 := Since.trans cx181 hsx182
            refine hK.out _ _ (HKD.out _ cx182) (fun hHeldx182 => ?_)
            clear hK K hHeldx181
            try simp only [Act.put, List.setIfInBounds_toArray, List.set_cons_zero, List.set_cons_succ]
            refine take_yes 23 (some 118) (v := ?_) rfl (by kernel_rfl) (by kernel_rfl) (by kernel_rfl) (by kernel_rfl) (fun _ _ _ h => h) (by rfl) (by assumption) ?_ ?_
            rotate_left
            · (intro w' hSw; (try dsimp only at hSw); go_simp; try with_reducible rfl)
            try simp only [Act.put, List.setIfInBounds_toArray, List.set_cons_zero, List.set_cons_succ]
            refine take_yes 24 (some 119) (v := ?_) rfl (by kernel_rfl) (by kernel_rfl) (by kernel_rfl) (by kernel_rfl) (fun _ _ _ h => h) (by rfl) (by assumption) ?_ ?_
            rotate_left
            · (intro w' hSw; (try dsimp only at hSw); go_simp; try with_reducible rfl)
            try simp only [Act.put, List.setIfInBounds_toArray, List.set_cons_zero, List.set_cons_succ]
            refine wpAnyH_done (by kernel_rfl) ?_ _
            clear hHeldx182
            have hcz := Lib.hid (cx182)
            clear HKD
            go_wp2_with fail
            go_meet
            exact ⟨by simp, hcz.out⟩
        case rest =>
          obtain ⟨h119, hw8⟩ := hcut
          subst h119
          have hw8 := hw8.out
          clear HKD HNC HNU HNS HNA HNB
          have F183 := Lib.hid (exC_sinceK F147.out hw8)
          clear F147
          have F184 := Lib.hid (exC_sinceK F148.out hw8)
          clear F148
          have F185 := Lib.hid (F149.out.since hw8)
          clear F149
          have F186 := Lib.hid (F150.out.since hw8)
          clear F150
          have F187 := Lib.hid (F151.out.since hw8)
          clear F151
          have F188 := Lib.hid (exC_sinceK F152.out hw8)
          clear F152
          have F189 := Lib.hid (F153.out.since hw8)
          clear F153
          have F190 := Lib.hid (exC_sinceK F154.out hw8)
          clear F154
          have F191 := Lib.hid (F155.out.since hw8)
          clear F155
          have F192 := Lib.hid (exC_sinceK F156.out hw8)
          clear F156
          have F193 := Lib.hid (F157.out.since hw8)
          clear F157
          have hs194 := hs158.trans hw8
          go_wp2_with fail
          refine (drawMW_any w.heap.size _ _ hs194.size F185.out).mono ?_
          rintro e w195 ⟨vf, vw, ys, W, rfl, hf, hlf, hw, hlW, hq196⟩
          have F197 := Lib.hid (exC_sinceK F183.out hq196)
          clear F183
          have F198 := Lib.hid (exC_sinceK F184.out hq196)
          clear F184
          have F199 := Lib.hid (F185.out.since hq196)
          clear F185
          have F200 := Lib.hid (F186.out.since hq196)
          clear F186
          have F201 := Lib.hid (F187.out.since hq196)
          clear F187
          have F202 := Lib.hid (exC_sinceK F188.out hq196)
          clear F188
          have F203 := Lib.hid (F189.out.since hq196)
          clear F189
          have F204 := Lib.hid (exC_sinceK F190.out hq196)
          clear F190
          have F205 := Lib.hid (F191.out.since hq196)
          clear F191
          have F206 := Lib.hid (exC_sinceK F192.out hq196)
          clear F192
          have F207 := Lib.hid (F193.out.since hq196)
          clear F193
          have hs208 := hs194.trans hq196
          clear F199
          have hW1 : W.length ≤ 1048577 := by omega
          have HWD : Hid (∀ U Q, IntsAt Q U W → Calls Tryd.prog 26 #[U] Q fun e w' => e = .returned (.bool (isWordB W)) ∧ Q = w') := fun U Q h => specIW_any U W Q h hW1
          have HMU1 : Hid (∀ V U' Q, Since w Q → ExC Q V U → IntsAt Q U' W → Calls Tryd.prog 27 #[V, U'] Q fun e w' => e = .returned (.bool (mtX U W)) ∧ Since Q w') := fun V U' Q => HMU.out V U' Q W hW1
          have HMA1 : Hid (∀ V U' Q, Since w Q → ExC Q V A → IntsAt Q U' W → Calls Tryd.prog 28 #[V, U'] Q fun e w' => e = .returned (.bool (mtX A W)) ∧ Since Q w') := fun V U' Q => HMA.out V U' Q W hW1
          have HMB1 : Hid (∀ V U' Q, Since w Q → ExC Q V B → IntsAt Q U' W → Calls Tryd.prog 28 #[V, U'] Q fun e w' => e = .returned (.bool (mtX B W)) ∧ Since Q w') := fun V U' Q => HMB.out V U' Q W hW1
          have HMT1 : Hid (VU = true → isWordB W = true → mtX U W = (mtX A W || mtX B W)) := fun h1 h2 => HMAT.out W (by trivial) (by trivial) h1 h2
          generalize mtX U W = MU at HMU1 HMT1
          generalize mtX A W = MA at HMA1 HMT1
          generalize mtX B W = MB at HMB1 HMT1
          generalize isWordB W = WB at HWD HMT1
          clear HMU HMA HMB HMAT
          obtain ⟨fo, fc, rfl, _, _⟩ := hf.open
          obtain ⟨fn, hfn⟩ : ∃ n, n = ys.length := ⟨_, rfl⟩
          rw [← hfn] at hf ⊢
          obtain ⟨wo, wcc, rfl⟩ := hw.len
          obtain ⟨wn, hwn⟩ : ∃ n, n = W.length := ⟨_, rfl⟩
          rw [← hwn] at hw ⊢
          have HW := Lib.hid hw
          clear hfn hf hlf hwn hw
          obtain ⟨y209, hy209⟩ : ∃ y, y = w195.alloc (.cells #[.slice fo fn fc] 26) := ⟨_, rfl⟩
          have ha210 : Since w195 y209 := by rw [hy209]; exact (Since.refl w195).alloc _
          have B211 : Hid (Blk y209 w195.heap.size 26 #[.slice fo fn fc]) := by rw [hy209]; exact Blk.new rfl _ _
          have F212 := Lib.hid (exC_sinceK F197.out ha210)
          clear F197
          have F213 := Lib.hid (exC_sinceK F198.out ha210)
          clear F198
          have F214 := Lib.hid (F200.out.since ha210)
          clear F200
          have F215 := Lib.hid (F201.out.since ha210)
          clear F201
          have F216 := Lib.hid (exC_sinceK F202.out ha210)
          clear F202
          have F217 := Lib.hid (F203.out.since ha210)
          clear F203
          have F218 := Lib.hid (exC_sinceK F204.out ha210)
          clear F204
          have F219 := Lib.hid (F205.out.since ha210)
          clear F205
          have F220 := Lib.hid (exC_sinceK F206.out ha210)
          clear F206
          have F221 := Lib.hid (F207.out.since ha210)
          clear F207
          have F222 := Lib.hid (HW.out.since ha210)
          clear HW
          have hs223 := hs208.trans ha210
          go_wp2_with fail
          rw [← hy209]
          clear hy209 
          refine (HWD.out _ _ F222.out).mono ?_
          rintro e w224 ⟨rfl, rfl⟩
          obtain ⟨p3, _⟩ := F219.out.one
          cases WB with
          | false =>
            go_wp2_with fail
            go_ret
            exact ⟨rfl, hs223⟩
          | true =>
            go_wp2_with fail
            clear p3
            refine (HVU.out _ _ hs223 F218.out.1).mono ?_
            rintro e w226 ⟨rfl, hq227⟩
            have F228 := Lib.hid (exC_sinceK F212.out hq227)
            clear F212
            have F229 := Lib.hid (exC_sinceK F213.out hq227)
            clear F213
            have F230 := Lib.hid (F214.out.since hq227)
            clear F214
            have F231 := Lib.hid (F215.out.since hq227)
            clear F215
            have F232 := Lib.hid (exC_sinceK F216.out hq227)
            clear F216
            have F233 := Lib.hid (F217.out.since hq227)
            clear F217
            have F234 := Lib.hid (exC_sinceK F218.out hq227)
            clear F218
            have F235 := Lib.hid (F219.out.since hq227)
            clear F219
            have F236 := Lib.hid (exC_sinceK F220.out hq227)
            clear F220
            have F237 := Lib.hid (F221.out.since hq227)
            clear F221
            have F238 := Lib.hid (F222.out.since hq227)
            clear F222
            have F239 := Lib.hid (B211.out.since hq227)
            clear B211
            have hs240 := hs223.trans hq227
            cases VU with
            | false =>
              go_wp2_with fail
              go_ret
              exact ⟨rfl, hs240⟩
            | true =>
              obtain rfl : MU = (MA || MB) := HMT1.out (by trivial) (by trivial)
              clear HMT1 HVU HWD
              go_upto_region 18 with fail
              have HKD : Hid (∀ w', Since w226 w' → w'.cell? ⟨w1.heap.size, 0, none⟩ = some (.slice ao an ac) ∧ w'.cell? ⟨(w1.heap.size + 1), 0, none⟩ = some (.slice bo bn bc) ∧ w'.cell? ⟨w23.heap.size, 0, none⟩ = some (.slice Uo Un Uc)) := fun w' h => ⟨(F230.out.since h).one.1, (F231.out.since h).one.1, (F235.out.since h).one.1⟩
              rcases Bool.eq_false_or_eq_true MA with rfl | rfl <;> rcases Bool.eq_false_or_eq_true MB with rfl | rfl
              · skip
                have HU' : Hid (∀ V U' Q, Since w Q → ExC Q V U → IntsAt Q U' W → Calls Tryd.prog 27 #[V, U'] Q fun e w' => e = .returned (.bool true) ∧ Since Q w') := HMU1.out
                refine wp_region_held_drew (S := (fun w' => w'.cell? ⟨w1.heap.size, 0, none⟩ = some (.slice ao an ac) ∧ w'.cell? ⟨(w1.heap.size + 1), 0, none⟩ = some (.slice bo bn bc) ∧ w'.cell? ⟨w23.heap.size, 0, none⟩ = some (.slice Uo Un Uc))) (by kernel_rfl) (HKD.out _ (Since.refl w226).drew) (fun hHeld => ?_)
                refine take_yes 0 (some 133) (v := ?_) rfl (by kernel_rfl) (by kernel_rfl) (by kernel_rfl) (by kernel_rfl) (fun _ _ _ h => h) (by rfl) (by assumption) ?_ ?_
                rotate_left
                · (intro w' hSw; (try dsimp only at hSw); go_simp; try with_reducible rfl)
                try simp only [Act.put, List.setIfInBounds_toArray, List.set_cons_zero, List.set_cons_succ]
                refine take_yes 1 (some 134) (v := ?_) rfl (by kernel_rfl) (by kernel_rfl) (by kernel_rfl) (by kernel_rfl) (fun _ _ _ h => h) (by rfl) (by assumption) ?_ ?_
                rotate_left
                · (intro w' hSw; (try dsimp only at hSw); go_simp; try with_reducible rfl)
                try simp only [Act.put, List.setIfInBounds_toArray, List.set_cons_zero, List.set_cons_succ]
                refine take_yes 3 (some 136) (v := ?_) rfl (by kernel_rfl) (by kernel_rfl) (by kernel_rfl) (by kernel_rfl) (fun _ _ _ h => h) (by rfl) (by assumption) ?_ ?_
                rotate_left
                · (intro w' hSw; (try dsimp only at hSw); go_simp; try with_reducible rfl)
                try simp only [Act.put, List.setIfInBounds_toArray, List.set_cons_zero, List.set_cons_succ]
                refine take_yes 4 (some 137) (v := ?_) rfl (by kernel_rfl) (by kernel_rfl) (by kernel_rfl) (by kernel_rfl) (fun _ _ _ h => h) (by rfl) (by assumption) ?_ ?_
                rotate_left
                · (intro w' hSw; (try dsimp only at hSw); go_simp; try with_reducible rfl)
                try simp only [Act.put, List.setIfInBounds_toArray, List.set_cons_zero, List.set_cons_succ]
                refine take_run 2 rfl (by kernel_rfl) (by rfl) (fun K hK => ?_)
                go_simp
                refine (HU'.out _ _ _ (hs240.trans (Since.refl w226).drew) (exC_sinceK F234.out (Since.refl w226).drew) (F238.out.since (Since.refl w226).drew)).mono ?_
                rintro en wx241 ⟨rfl, hsx241⟩
                have cx241 := Since.trans (Since.refl w226).drew hsx241
                refine hK.out _ _ (HKD.out _ cx241) (fun hHeldx241 => ?_)
                clear hK K hHeld
                try simp only [Act.put, List.setIfInBounds_toArray, List.set_cons_zero, List.set_cons_succ]
                refine take_run 5 rfl (by kernel_rfl) (by rfl) (fun K hK => ?_)
                go_simp
                refine (HMA1.out _ _ _ (hs240.trans cx241) (exC_sinceK F228.out cx241) (F238.out.since cx241)).mono ?_
                rintro en wx242 ⟨rfl, hsx242⟩
                have cx242 := Since.trans cx241 hsx242
                refine hK.out _ _ (HKD.out _ cx242) (fun hHeldx242 => ?_)
                clear hK K hHeldx241
                try simp only [Act.put, List.setIfInBounds_toArray, List.set_cons_zero, List.set_cons_succ]
                refine take_yes 6 (some 139) (v := ?_) rfl (by kernel_rfl) (by kernel_rfl) (by kernel_rfl) (by kernel_rfl) (fun _ _ _ h => h) (by rfl) (by assumption) ?_ ?_
                rotate_left
                · (intro w' hSw; (try dsimp only at hSw); go_simp; try with_reducible rfl)
                try simp only [Act.put, List.setIfInBounds_toArray, List.set_cons_zero, List.set_cons_succ]
                refine take_no 7 (some 140) rfl (by kernel_rfl) (by kernel_rfl) (by kernel_rfl) (by kernel_rfl) (fun _ _ _ h => h) (by rfl) (by assumption) ?_
                try simp only [Act.put, List.setIfInBounds_toArray, List.set_cons_zero, List.set_cons_succ]
                refine take_no 8 (some 141) rfl (by kernel_rfl) (by kernel_rfl) (by kernel_rfl) (by kernel_rfl) (fun _ _ _ h => h) (by rfl) (by assumption) ?_
                try simp only [Act.put, List.setIfInBounds_toArray, List.set_cons_zero, List.set_cons_succ]
                refine take_no 9 (some 142) rfl (by kernel_rfl) (by kernel_rfl) (by kernel_rfl) (by kernel_rfl) (fun _ _ _ h => h) (by rfl) (by assumption) ?_
                try simp only [Act.put, List.setIfInBounds_toArray, List.set_cons_zero, List.set_cons_succ]
                refine take_yes 10 (some 143) (v := ?_) rfl (by kernel_rfl) (by kernel_rfl) (by kernel_rfl) (by kernel_rfl) (fun _ _ _ h => h) (by rfl) (by assumption) ?_ ?_
                rotate_left
                · (intro w' hSw; (try dsimp only at hSw); go_simp; try with_reducible rfl)
                try simp only [Act.put, List.setIfInBounds_toArray, List.set_cons_zero, List.set_cons_succ]
                refine take_yes 11 (some 144) (v := ?_) rfl (by kernel_rfl) (by kernel_rfl) (by kernel_rfl) (by kernel_rfl) (fun _ _ _ h => h) (by rfl) (by assumption) ?_ ?_
                rotate_left
                · (intro w' hSw; (try dsimp only at hSw); go_simp; try with_reducible rfl)
                try simp only [Act.put, List.setIfInBounds_toArray, List.set_cons_zero, List.set_cons_succ]
                refine take_yes 12 (some 2) (v := ?_) rfl (by kernel_rfl) (by kernel_rfl) (by kernel_rfl) (by kernel_rfl) (fun _ _ _ h => h) (by rfl) (by assumption) ?_ ?_
                rotate_left
                · (intro w' hSw; (try dsimp only at hSw); go_simp; try with_reducible rfl)
                try simp only [Act.put, List.setIfInBounds_toArray, List.set_cons_zero, List.set_cons_succ]
                refine wpAnyH_done (by kernel_rfl) ?_ _
                clear hHeldx242
                have hcz := Lib.hid (hs240.trans cx242)
                clear HKD
                go_wp2_with fail
                go_ret
                exact ⟨by simp, hcz.out⟩
              · skip
                have HU' : Hid (∀ V U' Q, Since w Q → ExC Q V U → IntsAt Q U' W → Calls Tryd.prog 27 #[V, U'] Q fun e w' => e = .returned (.bool true) ∧ Since Q w') := HMU1.out
                refine wp_region_held_drew (S := (fun w' => w'.cell? ⟨w1.heap.size, 0, none⟩ = some (.slice ao an ac) ∧ w'.cell? ⟨(w1.heap.size + 1), 0, none⟩ = some (.slice bo bn bc) ∧ w'.cell? ⟨w23.heap.size, 0, none⟩ = some (.slice Uo Un Uc))) (by kernel_rfl) (HKD.out _ (Since.refl w226).drew) (fun hHeld => ?_)
                refine take_yes 0 (some 133) (v := ?_) rfl (by kernel_rfl) (by kernel_rfl) (by kernel_rfl) (by kernel_rfl) (fun _ _ _ h => h) (by rfl) (by assumption) ?_ ?_
                rotate_left
                · (intro w' hSw; (try dsimp only at hSw); go_simp; try with_reducible rfl)
                try simp only [Act.put, List.setIfInBounds_toArray, List.set_cons_zero, List.set_cons_succ]
                refine take_yes 1 (some 134) (v := ?_) rfl (by kernel_rfl) (by kernel_rfl) (by kernel_rfl) (by kernel_rfl) (fun _ _ _ h => h) (by rfl) (by assumption) ?_ ?_
                rotate_left
                · (intro w' hSw; (try dsimp only at hSw); go_simp; try with_reducible rfl)
                try simp only [Act.put, List.setIfInBounds_toArray, List.set_cons_zero, List.set_cons_succ]
                refine take_yes 3 (some 136) (v := ?_) rfl (by kernel_rfl) (by kernel_rfl) (by kernel_rfl) (by kernel_rfl) (fun _ _ _ h => h) (by rfl) (by assumption) ?_ ?_
                rotate_left
                · (intro w' hSw; (try dsimp only at hSw); go_simp; try with_reducible rfl)
                try simp only [Act.put, List.setIfInBounds_toArray, List.set_cons_zero, List.set_cons_succ]
                refine take_yes 4 (some 137) (v := ?_) rfl (by kernel_rfl) (by kernel_rfl) (by kernel_rfl) (by kernel_rfl) (fun _ _ _ h => h) (by rfl) (by assumption) ?_ ?_
                rotate_left
                · (intro w' hSw; (try dsimp only at hSw); go_simp; try with_reducible rfl)
                try simp only [Act.put, List.setIfInBounds_toArray, List.set_cons_zero, List.set_cons_succ]
                refine take_run 2 rfl (by kernel_rfl) (by rfl) (fun K hK => ?_)
                go_simp
                refine (HU'.out _ _ _ (hs240.trans (Since.refl w226).drew) (exC_sinceK F234.out (Since.refl w226).drew) (F238.out.since (Since.refl w226).drew)).mono ?_
                rintro en wx243 ⟨rfl, hsx243⟩
                have cx243 := Since.trans (Since.refl w226).drew hsx243
                refine hK.out _ _ (HKD.out _ cx243) (fun hHeldx243 => ?_)
                clear hK K hHeld
                try simp only [Act.put, List.setIfInBounds_toArray, List.set_cons_zero, List.set_cons_succ]
                refine take_run 5 rfl (by kernel_rfl) (by rfl) (fun K hK => ?_)
                go_simp
                refine (HMA1.out _ _ _ (hs240.trans cx243) (exC_sinceK F228.out cx243) (F238.out.since cx243)).mono ?_
                rintro en wx244 ⟨rfl, hsx244⟩
                have cx244 := Since.trans cx243 hsx244
                refine hK.out _ _ (HKD.out _ cx244) (fun hHeldx244 => ?_)
                clear hK K hHeldx243
                try simp only [Act.put, List.setIfInBounds_toArray, List.set_cons_zero, List.set_cons_succ]
                refine take_yes 6 (some 139) (v := ?_) rfl (by kernel_rfl) (by kernel_rfl) (by kernel_rfl) (by kernel_rfl) (fun _ _ _ h => h) (by rfl) (by assumption) ?_ ?_
                rotate_left
                · (intro w' hSw; (try dsimp only at hSw); go_simp; try with_reducible rfl)
                try simp only [Act.put, List.setIfInBounds_toArray, List.set_cons_zero, List.set_cons_succ]
                refine take_no 7 (some 140) rfl (by kernel_rfl) (by kernel_rfl) (by kernel_rfl) (by kernel_rfl) (fun _ _ _ h => h) (by rfl) (by assumption) ?_
                try simp only [Act.put, List.setIfInBounds_toArray, List.set_cons_zero, List.set_cons_succ]
                refine take_no 8 (some 141) rfl (by kernel_rfl) (by kernel_rfl) (by kernel_rfl) (by kernel_rfl) (fun _ _ _ h => h) (by rfl) (by assumption) ?_
                try simp only [Act.put, List.setIfInBounds_toArray, List.set_cons_zero, List.set_cons_succ]
                refine take_no 9 (some 142) rfl (by kernel_rfl) (by kernel_rfl) (by kernel_rfl) (by kernel_rfl) (fun _ _ _ h => h) (by rfl) (by assumption) ?_
                try simp only [Act.put, List.setIfInBounds_toArray, List.set_cons_zero, List.set_cons_succ]
                refine take_yes 10 (some 143) (v := ?_) rfl (by kernel_rfl) (by kernel_rfl) (by kernel_rfl) (by kernel_rfl) (fun _ _ _ h => h) (by rfl) (by assumption) ?_ ?_
                rotate_left
                · (intro w' hSw; (try dsimp only at hSw); go_simp; try with_reducible rfl)
                try simp only [Act.put, List.setIfInBounds_toArray, List.set_cons_zero, List.set_cons_succ]
                refine take_yes 11 (some 144) (v := ?_) rfl (by kernel_rfl) (by kernel_rfl) (by kernel_rfl) (by kernel_rfl) (fun _ _ _ h => h) (by rfl) (by assumption) ?_ ?_
                rotate_left
                · (intro w' hSw; (try dsimp only at hSw); go_simp; try with_reducible rfl)
                try simp only [Act.put, List.setIfInBounds_toArray, List.set_cons_zero, List.set_cons_succ]
                refine take_yes 12 (some 2) (v := ?_) rfl (by kernel_rfl) (by kernel_rfl) (by kernel_rfl) (by kernel_rfl) (fun _ _ _ h => h) (by rfl) (by assumption) ?_ ?_
                rotate_left
                · (intro w' hSw; (try dsimp only at hSw); go_simp; try with_reducible rfl)
                try simp only [Act.put, List.setIfInBounds_toArray, List.set_cons_zero, List.set_cons_succ]
                refine wpAnyH_done (by kernel_rfl) ?_ _
                clear hHeldx244
                have hcz := Lib.hid (hs240.trans cx244)
                clear HKD
                go_wp2_with fail
                go_ret
                exact ⟨by simp, hcz.out⟩
              · skip
                have HU' : Hid (∀ V U' Q, Since w Q → ExC Q V U → IntsAt Q U' W → Calls Tryd.prog 27 #[V, U'] Q fun e w' => e = .returned (.bool true) ∧ Since Q w') := HMU1.out
                refine wp_region_held_drew (S := (fun w' => w'.cell? ⟨w1.heap.size, 0, none⟩ = some (.slice ao an ac) ∧ w'.cell? ⟨(w1.heap.size + 1), 0, none⟩ = some (.slice bo bn bc) ∧ w'.cell? ⟨w23.heap.size, 0, none⟩ = some (.slice Uo Un Uc))) (by kernel_rfl) (HKD.out _ (Since.refl w226).drew) (fun hHeld => ?_)
                refine take_yes 0 (some 133) (v := ?_) rfl (by kernel_rfl) (by kernel_rfl) (by kernel_rfl) (by kernel_rfl) (fun _ _ _ h => h) (by rfl) (by assumption) ?_ ?_
                rotate_left
                · (intro w' hSw; (try dsimp only at hSw); go_simp; try with_reducible rfl)
                try simp only [Act.put, List.setIfInBounds_toArray, List.set_cons_zero, List.set_cons_succ]
                refine take_yes 1 (some 134) (v := ?_) rfl (by kernel_rfl) (by kernel_rfl) (by kernel_rfl) (by kernel_rfl) (fun _ _ _ h => h) (by rfl) (by assumption) ?_ ?_
                rotate_left
                · (intro w' hSw; (try dsimp only at hSw); go_simp; try with_reducible rfl)
                try simp only [Act.put, List.setIfInBounds_toArray, List.set_cons_zero, List.set_cons_succ]
                refine take_yes 3 (some 136) (v := ?_) rfl (by kernel_rfl) (by kernel_rfl) (by kernel_rfl) (by kernel_rfl) (fun _ _ _ h => h) (by rfl) (by assumption) ?_ ?_
                rotate_left
                · (intro w' hSw; (try dsimp only at hSw); go_simp; try with_reducible rfl)
                try simp only [Act.put, List.setIfInBounds_toArray, List.set_cons_zero, List.set_cons_succ]
                refine take_yes 4 (some 137) (v := ?_) rfl (by kernel_rfl) (by kernel_rfl) (by kernel_rfl) (by kernel_rfl) (fun _ _ _ h => h) (by rfl) (by assumption) ?_ ?_
                rotate_left
                · (intro w' hSw; (try dsimp only at hSw); go_simp; try with_reducible rfl)
                try simp only [Act.put, List.setIfInBounds_toArray, List.set_cons_zero, List.set_cons_succ]
                refine take_run 2 rfl (by kernel_rfl) (by rfl) (fun K hK => ?_)
                go_simp
                refine (HU'.out _ _ _ (hs240.trans (Since.refl w226).drew) (exC_sinceK F234.out (Since.refl w226).drew) (F238.out.since (Since.refl w226).drew)).mono ?_
                rintro en wx245 ⟨rfl, hsx245⟩
                have cx245 := Since.trans (Since.refl w226).drew hsx245
                refine hK.out _ _ (HKD.out _ cx245) (fun hHeldx245 => ?_)
                clear hK K hHeld
                try simp only [Act.put, List.setIfInBounds_toArray, List.set_cons_zero, List.set_cons_succ]
                refine take_run 5 rfl (by kernel_rfl) (by rfl) (fun K hK => ?_)
                go_simp
                refine (HMA1.out _ _ _ (hs240.trans cx245) (exC_sinceK F228.out cx245) (F238.out.since cx245)).mono ?_
                rintro en wx246 ⟨rfl, hsx246⟩
                have cx246 := Since.trans cx245 hsx246
                refine hK.out _ _ (HKD.out _ cx246) (fun hHeldx246 => ?_)
                clear hK K hHeldx245
                try simp only [Act.put, List.setIfInBounds_toArray, List.set_cons_zero, List.set_cons_succ]
                refine take_yes 6 (some 139) (v := ?_) rfl (by kernel_rfl) (by kernel_rfl) (by kernel_rfl) (by kernel_rfl) (fun _ _ _ h => h) (by rfl) (by assumption) ?_ ?_
                rotate_left
                · (intro w' hSw; (try dsimp only at hSw); go_simp; try with_reducible rfl)
                try simp only [Act.put, List.setIfInBounds_toArray, List.set_cons_zero, List.set_cons_succ]
                refine take_yes 7 (some 140) (v := ?_) rfl (by kernel_rfl) (by kernel_rfl) (by kernel_rfl) (by kernel_rfl) (fun _ _ _ h => h) (by rfl) (by assumption) ?_ ?_
                rotate_left
                · (intro w' hSw; (try dsimp only at hSw); go_simp; try with_reducible rfl)
                try simp only [Act.put, List.setIfInBounds_toArray, List.set_cons_zero, List.set_cons_succ]
                refine take_yes 8 (some 141) (v := ?_) rfl (by kernel_rfl) (by kernel_rfl) (by kernel_rfl) (by kernel_rfl) (fun _ _ _ h => h) (by rfl) (by assumption) ?_ ?_
                rotate_left
                · (intro w' hSw; (try dsimp only at hSw); go_simp; try with_reducible rfl)
                try simp only [Act.put, List.setIfInBounds_toArray, List.set_cons_zero, List.set_cons_succ]
                refine take_run 9 rfl (by kernel_rfl) (by rfl) (fun K hK => ?_)
                go_simp
                refine (HMB1.out _ _ _ (hs240.trans cx246) (exC_sinceK F229.out cx246) (F238.out.since cx246)).mono ?_
                rintro en wx247 ⟨rfl, hsx247⟩
                have cx247 := Since.trans cx246 hsx247
                refine hK.out _ _ (HKD.out _ cx247) (fun hHeldx247 => ?_)
                clear hK K hHeldx246
                try simp only [Act.put, List.setIfInBounds_toArray, List.set_cons_zero, List.set_cons_succ]
                refine take_yes 10 (some 143) (v := ?_) rfl (by kernel_rfl) (by kernel_rfl) (by kernel_rfl) (by kernel_rfl) (fun _ _ _ h => h) (by rfl) (by assumption) ?_ ?_
                rotate_left
                · (intro w' hSw; (try dsimp only at hSw); go_simp; try with_reducible rfl)
                try simp only [Act.put, List.setIfInBounds_toArray, List.set_cons_zero, List.set_cons_succ]
                refine take_yes 11 (some 144) (v := ?_) rfl (by kernel_rfl) (by kernel_rfl) (by kernel_rfl) (by kernel_rfl) (fun _ _ _ h => h) (by rfl) (by assumption) ?_ ?_
                rotate_left
                · (intro w' hSw; (try dsimp only at hSw); go_simp; try with_reducible rfl)
                try simp only [Act.put, List.setIfInBounds_toArray, List.set_cons_zero, List.set_cons_succ]
                refine take_yes 12 (some 2) (v := ?_) rfl (by kernel_rfl) (by kernel_rfl) (by kernel_rfl) (by kernel_rfl) (fun _ _ _ h => h) (by rfl) (by assumption) ?_ ?_
                rotate_left
                · (intro w' hSw; (try dsimp only at hSw); go_simp; try with_reducible rfl)
                try simp only [Act.put, List.setIfInBounds_toArray, List.set_cons_zero, List.set_cons_succ]
                refine wpAnyH_done (by kernel_rfl) ?_ _
                clear hHeldx247
                have hcz := Lib.hid (hs240.trans cx247)
                clear HKD
                go_wp2_with fail
                go_ret
                exact ⟨by simp, hcz.out⟩
              · skip
                have HU' : Hid (∀ V U' Q, Since w Q → ExC Q V U → IntsAt Q U' W → Calls Tryd.prog 27 #[V, U'] Q fun e w' => e = .returned (.bool false) ∧ Since Q w') := HMU1.out
                refine wp_region_held_drew (S := (fun w' => w'.cell? ⟨w1.heap.size, 0, none⟩ = some (.slice ao an ac) ∧ w'.cell? ⟨(w1.heap.size + 1), 0, none⟩ = some (.slice bo bn bc) ∧ w'.cell? ⟨w23.heap.size, 0, none⟩ = some (.slice Uo Un Uc))) (by kernel_rfl) (HKD.out _ (Since.refl w226).drew) (fun hHeld => ?_)
                refine take_yes 0 (some 133) (v := ?_) rfl (by kernel_rfl) (by kernel_rfl) (by kernel_rfl) (by kernel_rfl) (fun _ _ _ h => h) (by rfl) (by assumption) ?_ ?_
                rotate_left
                · (intro w' hSw; (try dsimp only at hSw); go_simp; try with_reducible rfl)
                try simp only [Act.put, List.setIfInBounds_toArray, List.set_cons_zero, List.set_cons_succ]
                refine take_yes 1 (some 134) (v := ?_) rfl (by kernel_rfl) (by kernel_rfl) (by kernel_rfl) (by kernel_rfl) (fun _ _ _ h => h) (by rfl) (by assumption) ?_ ?_
                rotate_left
                · (intro w' hSw; (try dsimp only at hSw); go_simp; try with_reducible rfl)
                try simp only [Act.put, List.setIfInBounds_toArray, List.set_cons_zero, List.set_cons_succ]
                refine take_yes 3 (some 136) (v := ?_) rfl (by kernel_rfl) (by kernel_rfl) (by kernel_rfl) (by kernel_rfl) (fun _ _ _ h => h) (by rfl) (by assumption) ?_ ?_
                rotate_left
                · (intro w' hSw; (try dsimp only at hSw); go_simp; try with_reducible rfl)
                try simp only [Act.put, List.setIfInBounds_toArray, List.set_cons_zero, List.set_cons_succ]
                refine take_yes 4 (some 137) (v := ?_) rfl (by kernel_rfl) (by kernel_rfl) (by kernel_rfl) (by kernel_rfl) (fun _ _ _ h => h) (by rfl) (by assumption) ?_ ?_
                rotate_left
                · (intro w' hSw; (try dsimp only at hSw); go_simp; try with_reducible rfl)
                try simp only [Act.put, List.setIfInBounds_toArray, List.set_cons_zero, List.set_cons_succ]
                refine take_run 2 rfl (by kernel_rfl) (by rfl) (fun K hK => ?_)
                go_simp
                refine (HU'.out _ _ _ (hs240.trans (Since.refl w226).drew) (exC_sinceK F234.out (Since.refl w226).drew) (F238.out.since (Since.refl w226).drew)).mono ?_
                rintro en wx248 ⟨rfl, hsx248⟩
                have cx248 := Since.trans (Since.refl w226).drew hsx248
                refine hK.out _ _ (HKD.out _ cx248) (fun hHeldx248 => ?_)
                clear hK K hHeld
                try simp only [Act.put, List.setIfInBounds_toArray, List.set_cons_zero, List.set_cons_succ]
                refine take_run 5 rfl (by kernel_rfl) (by rfl) (fun K hK => ?_)
                go_simp
                refine (HMA1.out _ _ _ (hs240.trans cx248) (exC_sinceK F228.out cx248) (F238.out.since cx248)).mono ?_
                rintro en wx249 ⟨rfl, hsx249⟩
                have cx249 := Since.trans cx248 hsx249
                refine hK.out _ _ (HKD.out _ cx249) (fun hHeldx249 => ?_)
                clear hK K hHeldx248
                try simp only [Act.put, List.setIfInBounds_toArray, List.set_cons_zero, List.set_cons_succ]
                refine take_yes 6 (some 139) (v := ?_) rfl (by kernel_rfl) (by kernel_rfl) (by kernel_rfl) (by kernel_rfl) (fun _ _ _ h => h) (by rfl) (by assumption) ?_ ?_
                rotate_left
                · (intro w' hSw; (try dsimp only at hSw); go_simp; try with_reducible rfl)
                try simp only [Act.put, List.setIfInBounds_toArray, List.set_cons_zero, List.set_cons_succ]
                refine take_yes 7 (some 140) (v := ?_) rfl (by kernel_rfl) (by kernel_rfl) (by kernel_rfl) (by kernel_rfl) (fun _ _ _ h => h) (by rfl) (by assumption) ?_ ?_
                rotate_left
                · (intro w' hSw; (try dsimp only at hSw); go_simp; try with_reducible rfl)
                try simp only [Act.put, List.setIfInBounds_toArray, List.set_cons_zero, List.set_cons_succ]
                refine take_yes 8 (some 141) (v := ?_) rfl (by kernel_rfl) (by kernel_rfl) (by kernel_rfl) (by kernel_rfl) (fun _ _ _ h => h) (by rfl) (by assumption) ?_ ?_
                rotate_left
                · (intro w' hSw; (try dsimp only at hSw); go_simp; try with_reducible rfl)
                try simp only [Act.put, List.setIfInBounds_toArray, List.set_cons_zero, List.set_cons_succ]
                refine take_run 9 rfl (by kernel_rfl) (by rfl) (fun K hK => ?_)
                go_simp
                refine (HMB1.out _ _ _ (hs240.trans cx249) (exC_sinceK F229.out cx249) (F238.out.since cx249)).mono ?_
                rintro en wx250 ⟨rfl, hsx250⟩
                have cx250 := Since.trans cx249 hsx250
                refine hK.out _ _ (HKD.out _ cx250) (fun hHeldx250 => ?_)
                clear hK K hHeldx249
                try simp only [Act.put, List.setIfInBounds_toArray, List.set_cons_zero, List.set_cons_succ]
                refine take_yes 10 (some 143) (v := ?_) rfl (by kernel_rfl) (by kernel_rfl) (by kernel_rfl) (by kernel_rfl) (fun _ _ _ h => h) (by rfl) (by assumption) ?_ ?_
                rotate_left
                · (intro w' hSw; (try dsimp only at hSw); go_simp; try with_reducible rfl)
                try simp only [Act.put, List.setIfInBounds_toArray, List.set_cons_zero, List.set_cons_succ]
                refine take_yes 11 (some 144) (v := ?_) rfl (by kernel_rfl) (by kernel_rfl) (by kernel_rfl) (by kernel_rfl) (fun _ _ _ h => h) (by rfl) (by assumption) ?_ ?_
                rotate_left
                · (intro w' hSw; (try dsimp only at hSw); go_simp; try with_reducible rfl)
                try simp only [Act.put, List.setIfInBounds_toArray, List.set_cons_zero, List.set_cons_succ]
                refine take_yes 12 (some 2) (v := ?_) rfl (by kernel_rfl) (by kernel_rfl) (by kernel_rfl) (by kernel_rfl) (fun _ _ _ h => h) (by rfl) (by assumption) ?_ ?_
                rotate_left
                · (intro w' hSw; (try dsimp only at hSw); go_simp; try with_reducible rfl)
                try simp only [Act.put, List.setIfInBounds_toArray, List.set_cons_zero, List.set_cons_succ]
                refine wpAnyH_done (by kernel_rfl) ?_ _
                clear hHeldx250
                have hcz := Lib.hid (hs240.trans cx250)
                clear HKD
                go_wp2_with fail
                go_ret
                exact ⟨by simp, hcz.out⟩
end Go.Proofs.YtiojgahjfndmdaaDoor
