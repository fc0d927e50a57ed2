/- The building of positions, the program's: parts without letters. -/
import Derived.Test.YtblmiocjhbpklaaDoorBpF
import Derived.Test.YtblmiocjhbpklaaDoorEpM
namespace Go.Proofs.YtblmiocjhbpklaaDoor
set_option maxRecDepth 100000
open Go.ChangeShapes Go.WideShapes Go.ChangeAt Go.RowKit
set_option linter.unusedVariables false
set_option linter.unusedSimpArgs false

def AddOut (G : Nat) (w : World) (g : (List Int × List Nat) × Frg) (e : Ending) (w' : World) : Prop :=
  ∃ lv' fv', e = .returned (FrgW g.2) ∧ BP G w' lv' fv' g.1.1 g.1.2 ∧ KI G w w'
/-- What is shown of the program's building, by trees. -/
def BldI (T : Tr) : Prop := ∀ (G : Nat) (ls : List Int) (fo : List Nat) (lv fv : Value) (a0 b0 : Nat) (v : Value) (w : World), BP G w lv fv ls fo → TreeAt w T a0 b0 v → T.ok → noRep T →
    fo.length = ls.length → (∀ f ∈ fo, f < 2 ^ 20) → ls.length + ltrN T ≤ 20 →
    Calls Tryd.prog 62 #[.pointer (some ⟨G, 0, none⟩), v] w (AddOut G w (glu T ls fo))
theorem addOut_box {G X : Nat} {w w2 : World} {lv fv : Value} {ls : List Int} {fo : List Nat} {cs : Array Value} {f : Frg} (h : BP G w2 lv fv ls fo) (k : KI G w w2) (hb : Blk w2 X 87 cs) (hX : w.heap.size ≤ X) (hG : G < w.heap.size) (u0 u1 u2 : Value) :
    AddOut G w ((ls, fo), f) (.returned (FrgW f)) (((w2.setCell ⟨X, 0, none⟩ u0).setCell ⟨X, 1, none⟩ u1).setCell ⟨X, 2, none⟩ u2) :=
  ⟨lv, fv, rfl, ((h.setT hb (by decide) (by decide) u0).setT (hb.set 0 u0) (by decide) (by decide) u1).setT ((hb.set 0 u0).set 1 u1) (by decide) (by decide) u2, ((k.setNew hX hG u0).setNew hX hG u1).setNew hX hG u2⟩
set_option maxHeartbeats 2000000 in
set_option maxRecDepth 100000 in
theorem bldI_none (lr lo hi : Int) (l r : Tr) (hl : BldI l) (hr : BldI r) : BldI (.node ⟨1, lr, lo, hi⟩ l r) := by
    intro G ls fo lv fv a0 b0 v w hbp hv hok hno hfl hfs hlt
    obtain ⟨htok, hcase⟩ := hok
    obtain ⟨htin, g, lv0, rv0, a, b, c0, d, rfl, hg, hB, _, _, _, _, hL, hR⟩ := hv
    have HTI := Lib.hid htin
    have HL := Lib.hid hL
    have HR := Lib.hid hR
    obtain ⟨pl, rfl⟩ := hL.isPtr
    obtain ⟨pr, rfl⟩ := hR.isPtr
    have BX := Lib.hid hB
    rw [opN_of] at hcase
    unfold ncells at BX
    dsimp only at BX
    have HBP := Lib.hid hbp
    have hGw := hbp.blk.lt
    clear hL hR hB hbp htin
    obtain ⟨y, hy⟩ : ∃ y, y = w.alloc (.cells #[.int .i64 0, .int .i64 0, .bool false] 87) := ⟨_, rfl⟩
    have hsy : Since w y := by rw [hy]; exact (Since.refl w).alloc _
    have BR : Hid (Blk y w.heap.size 87 #[.int .i64 0, .int .i64 0, .bool false]) := by rw [hy]; exact Blk.new rfl _ _
    have HY := Lib.hid hy
    have hgl : g < w.heap.size := BX.out.lt
    obtain ⟨⟨x0, x1, x2, x3, x4, x5⟩, _⟩ := (BX.out.since hsy).all6
    rw [hy] at x0 x1 x2 x3 x4 x5
    clear hy
    have HD : Hid (glu (Tr.node ⟨1, lr, lo, hi⟩ l r) ls fo = ((ls, fo), ⟨false, 0, 0⟩)) := by unfold Hid; simp [glu]
    clear hcase
    go_enter Tryd.func62, Tryd.ntmps62
    go_wp2_with fail
    refine bodyPost_ret (v := .agg #[.int .i64 0, .int .i64 0, .bool false]) (by simp [results, Tryd.results62, go_sem, *]) rfl ?_
    rw [HD.out]
    exact ⟨_, _, rfl, HBP.out.since ((Since.refl w).alloc _), KI.of_since ((Since.refl w).alloc _)⟩
set_option maxHeartbeats 2000000 in
set_option maxRecDepth 100000 in
theorem bldI_empty (lr lo hi : Int) (l r : Tr) (hl : BldI l) (hr : BldI r) : BldI (.node ⟨2, lr, lo, hi⟩ l r) := by
    intro G ls fo lv fv a0 b0 v w hbp hv hok hno hfl hfs hlt
    obtain ⟨htok, hcase⟩ := hok
    obtain ⟨htin, g, lv0, rv0, a, b, c0, d, rfl, hg, hB, _, _, _, _, hL, hR⟩ := hv
    have HTI := Lib.hid htin
    have HL := Lib.hid hL
    have HR := Lib.hid hR
    obtain ⟨pl, rfl⟩ := hL.isPtr
    obtain ⟨pr, rfl⟩ := hR.isPtr
    have BX := Lib.hid hB
    rw [opN_of] at hcase
    unfold ncells at BX
    dsimp only at BX
    have HBP := Lib.hid hbp
    have hGw := hbp.blk.lt
    clear hL hR hB hbp htin
    obtain ⟨y, hy⟩ : ∃ y, y = w.alloc (.cells #[.int .i64 0, .int .i64 0, .bool false] 87) := ⟨_, rfl⟩
    have hsy : Since w y := by rw [hy]; exact (Since.refl w).alloc _
    have BR : Hid (Blk y w.heap.size 87 #[.int .i64 0, .int .i64 0, .bool false]) := by rw [hy]; exact Blk.new rfl _ _
    have HY := Lib.hid hy
    have hgl : g < w.heap.size := BX.out.lt
    obtain ⟨⟨x0, x1, x2, x3, x4, x5⟩, _⟩ := (BX.out.since hsy).all6
    rw [hy] at x0 x1 x2 x3 x4 x5
    clear hy
    have HD : Hid (glu (Tr.node ⟨2, lr, lo, hi⟩ l r) ls fo = ((ls, fo), ⟨true, 0, 0⟩)) := by unfold Hid; simp [glu]
    clear hcase
    go_enter Tryd.func62, Tryd.ntmps62
    go_wp2_with fail
    refine bodyPost_ret (v := .agg #[.int .i64 0, .int .i64 0, .bool true]) (by simp [results, Tryd.results62, go_sem, *]) rfl ?_
    rw [HD.out]
    exact ⟨_, _, rfl, HBP.out.since ((Since.refl w).alloc _), KI.of_since ((Since.refl w).alloc _)⟩
set_option maxHeartbeats 2000000 in
set_option maxRecDepth 100000 in
theorem bldI_cat (lr lo hi : Int) (l r : Tr) (hl : BldI l) (hr : BldI r) : BldI (.node ⟨4, lr, lo, hi⟩ l r) := by
    intro G ls fo lv fv a0 b0 v w hbp hv hok hno hfl hfs hlt
    obtain ⟨htok, hcase⟩ := hok
    obtain ⟨htin, g, lv0, rv0, a, b, c0, d, rfl, hg, hB, _, _, _, _, hL, hR⟩ := hv
    have HTI := Lib.hid htin
    have HL := Lib.hid hL
    have HR := Lib.hid hR
    obtain ⟨pl, rfl⟩ := hL.isPtr
    obtain ⟨pr, rfl⟩ := hR.isPtr
    have BX := Lib.hid hB
    rw [opN_of] at hcase
    unfold ncells at BX
    dsimp only at BX
    have HBP := Lib.hid hbp
    have hGw := hbp.blk.lt
    clear hL hR hB hbp htin
    obtain ⟨y, hy⟩ : ∃ y, y = w.alloc (.cells #[.int .i64 0, .int .i64 0, .bool false] 87) := ⟨_, rfl⟩
    have hsy : Since w y := by rw [hy]; exact (Since.refl w).alloc _
    have BR : Hid (Blk y w.heap.size 87 #[.int .i64 0, .int .i64 0, .bool false]) := by rw [hy]; exact Blk.new rfl _ _
    have HY := Lib.hid hy
    have hgl : g < w.heap.size := BX.out.lt
    obtain ⟨⟨x0, x1, x2, x3, x4, x5⟩, _⟩ := (BX.out.since hsy).all6
    rw [hy] at x0 x1 x2 x3 x4 x5
    clear hy
    obtain ⟨hlo, hro⟩ : l.ok ∧ r.ok := by
      rcases hcase with ⟨h0, _⟩ | ⟨h1, _⟩ | ⟨_, a, b⟩
      · simp at h0
      · simp at h1
      · exact ⟨a, b⟩
    clear hcase
    have hln : ltrN l + ltrN r ≤ 20 - ls.length ∧ ls.length ≤ 20 := by
      have e : ltrN (Tr.node ⟨4, lr, lo, hi⟩ l r) = ltrN l + ltrN r := by simp [ltrN]
      rw [e] at hlt
      omega
    obtain ⟨g1, g2, g3, g4, g5⟩ := glu_all l 20 ls fo hfl hfs (by omega) (.inr hlo)
    have hnl : noRep l := hno.2.1
    have HLC : Hid (∀ W lv fv, BP G W lv fv ls fo → TreeAt W l a b (.pointer pl) → Calls Tryd.prog 62 #[.pointer (some ⟨G, 0, none⟩), .pointer pl] W (AddOut G W (glu l ls fo))) := fun W lv fv h1 h2 => hl G ls fo lv fv a b _ W h1 h2 hlo hnl hfl hfs (by omega)
    obtain ⟨⟨⟨l1, f1⟩, ⟨n1, fi1, la1⟩⟩, hg1⟩ : ∃ g, g = glu l ls fo := ⟨_, rfl⟩
    rw [← hg1] at g1 g2 g3 g4 g5 HLC
    dsimp only at g1 g2 g3 g4 g5
    obtain ⟨k1, k2, k3, k4, k5⟩ := glu_all r 20 l1 f1 g2 g3 (by omega) (.inr hro)
    have hnr : noRep r := hno.2.2
    have HRC : Hid (∀ W lv fv, BP G W lv fv l1 f1 → TreeAt W r c0 d (.pointer pr) → Calls Tryd.prog 62 #[.pointer (some ⟨G, 0, none⟩), .pointer pr] W (AddOut G W (glu r l1 f1))) := fun W lv fv h1 h2 => hr G l1 f1 lv fv c0 d _ W h1 h2 hro hnr g2 g3 (by omega)
    obtain ⟨⟨⟨l2, f2⟩, ⟨n2, fi2, la2⟩⟩, hg2⟩ : ∃ g, g = glu r l1 f1 := ⟨_, rfl⟩
    rw [← hg2] at k1 k2 k3 k4 k5 HRC
    dsimp only at k1 k2 k3 k4 k5

    have HD : Hid (glu (Tr.node ⟨4, lr, lo, hi⟩ l r) ls fo = ((l2, linkN f2 la1 fi2), ⟨n1 && n2, if n1 = true then fi1 ||| fi2 else fi1, if n2 = true then la1 ||| la2 else la2⟩)) := by
      unfold Hid
      have e1 : (glu l ls fo).1.1 = l1 := by rw [← hg1]
      have e2 : (glu l ls fo).1.2 = f1 := by rw [← hg1]
      simp only [glu, e1, e2, ← hg2, ← hg1]
      simp
    have HLK : Hid (∀ W lv fv, BP G W lv fv l2 f2 → Calls Tryd.prog 112 #[.pointer (some ⟨G, 0, none⟩), .int .i64 (la1 : Int), .int .i64 (fi2 : Int)] W (LinkOut G W lv fv l2 (linkN f2 la1 fi2))) := fun W lv fv h => connect_any G la1 fi2 lv fv l2 f2 W h (by omega) (by omega) g5 k4 k3
    have HFC : Hid (∀ W, Calls Tryd.prog 113 #[.agg #[.int .i64 (fi1 : Int), .int .i64 (la1 : Int), .bool n1], .agg #[.int .i64 (fi2 : Int), .int .i64 (la2 : Int), .bool n2]] W fun e w' => e = .returned (FrgW ⟨n1 && n2, if n1 = true then fi1 ||| fi2 else fi1, if n2 = true then la1 ||| la2 else la2⟩) ∧ Since W w') := fun W => frag_concat n1 n2 fi1 la1 fi2 la2 W g4 g5 k4 k5
    obtain ⟨FR, hFR⟩ : ∃ FR : Frg, FR = ⟨n1 && n2, if n1 = true then fi1 ||| fi2 else fi1, if n2 = true then la1 ||| la2 else la2⟩ := ⟨_, rfl⟩
    rw [← hFR] at HD HFC
    obtain ⟨nR, fiR, laR⟩ := FR
    clear hFR hg1 hg2 hl hr hlt hln hfs g4 g5 k4 k5
    go_enter Tryd.func62, Tryd.ntmps62
    go_wp2_with fail
    rw [← HY.out]
    clear x0 x1 x2 x3 x4 x5
    have K2 : Hid (KI G w y) := KI.of_since hsy
    have B2 := Lib.hid (HBP.out.since hsy)
    refine (HLC.out _ _ _ B2.out (tree_ki HL.out K2.out)).mono ?_
    rintro e w3 ⟨lv3, fv3, rfl, hb3, hk3⟩
    rw [frgW]
    have K3 := Lib.hid (K2.out.trans hk3)
    have R3 := Lib.hid (hk3.typed _ _ _ BR.out (by decide) (by decide))
    obtain ⟨w4, hw4⟩ : ∃ w4, w4 = w3.alloc (.cells #[.int .i64 (fi1 : Int), .int .i64 (la1 : Int), .bool n1] 87) := ⟨_, rfl⟩
    have hs4 : Since w3 w4 := by rw [hw4]; exact (Since.refl w3).alloc _
    have A4 : Hid (Blk w4 w3.heap.size 87 #[.int .i64 (fi1 : Int), .int .i64 (la1 : Int), .bool n1]) := by rw [hw4]; exact Blk.new rfl _ _
    have B4 := Lib.hid (hb3.since hs4)
    have K4 := Lib.hid (K3.out.trans (KI.of_since hs4))
    have R4 := Lib.hid (R3.out.since hs4)
    have N4 := Lib.hid (K4.out.typed _ _ _ BX.out (by decide) (by decide))
    have HW4 := Lib.hid hw4
    have zA : w.heap.size < w3.heap.size := R3.out.lt
    clear hw4 hb3 hk3 K3 R3 K2 B2 BR
    obtain ⟨⟨a0', a1', a2'⟩, _⟩ := A4.out.threeP
    obtain ⟨⟨x0, x1, x2, x3, x4, x5⟩, _⟩ := N4.out.all6
    rw [HW4.out] at a0' a1' a2' x0 x1 x2 x3 x4 x5
    go_wp2_with fail
    rw [← HW4.out]
    clear a0' a1' a2' x0 x1 x2 x3 x4 x5
    refine (HRC.out _ _ _ B4.out (tree_ki HR.out K4.out)).mono ?_
    rintro e w5 ⟨lv5, fv5, rfl, hb5, hk5⟩
    rw [frgW]
    have K5 := Lib.hid (K4.out.trans hk5)
    have R5 := Lib.hid (hk5.typed _ _ _ R4.out (by decide) (by decide))
    have A5 := Lib.hid (hk5.typed _ _ _ A4.out (by decide) (by decide))
    clear B4 K4 R4 A4 N4
    obtain ⟨w6, hw6⟩ : ∃ w6, w6 = w5.alloc (.cells #[.int .i64 (fi2 : Int), .int .i64 (la2 : Int), .bool n2] 87) := ⟨_, rfl⟩
    have hs6 : Since w5 w6 := by rw [hw6]; exact (Since.refl w5).alloc _
    have D6 : Hid (Blk w6 w5.heap.size 87 #[.int .i64 (fi2 : Int), .int .i64 (la2 : Int), .bool n2]) := by rw [hw6]; exact Blk.new rfl _ _
    have B6 := Lib.hid (hb5.since hs6)
    have K6 := Lib.hid (K5.out.trans (KI.of_since hs6))
    have R6 := Lib.hid (R5.out.since hs6)
    have A6 := Lib.hid (A5.out.since hs6)
    have HW6 := Lib.hid hw6
    clear hw6 hb5 hk5 K5 R5 A5
    obtain ⟨⟨a0', a1', a2'⟩, _⟩ := A6.out.threeP
    obtain ⟨⟨d0', d1', d2'⟩, _⟩ := D6.out.threeP
    rw [HW6.out] at a0' a1' a2' d0' d1' d2'
    go_wp2_with fail
    rw [← HW6.out]
    clear a0' a1' a2' d0' d1' d2'
    refine (HLK.out _ _ _ B6.out).mono ?_
    rintro e w7 ⟨rfl, hb7, hk7⟩
    have B7 := Lib.hid hb7
    have K7 := Lib.hid (K6.out.trans hk7)
    have R7 := Lib.hid (hk7.typed _ _ _ R6.out (by decide) (by decide))
    have A7 := Lib.hid (hk7.typed _ _ _ A6.out (by decide) (by decide))
    have D7 := Lib.hid (hk7.typed _ _ _ D6.out (by decide) (by decide))
    clear hb7 hk7 R6 A6 D6 B6 K6
    obtain ⟨⟨a0', a1', a2'⟩, _⟩ := A7.out.threeP
    obtain ⟨⟨d0', d1', d2'⟩, _⟩ := D7.out.threeP
    go_wp2_with fail
    refine (HFC.out _).mono ?_
    rintro e w8 ⟨rfl, hs8⟩
    rw [frgW]
    have B8 := Lib.hid (B7.out.since hs8)
    have K8 := Lib.hid (K7.out.trans (KI.of_since hs8))
    have R8 := Lib.hid (R7.out.since hs8)
    clear a0' a1' a2' d0' d1' d2'
    obtain ⟨⟨e0, e1, e2⟩, r0, r1, r2⟩ := R8.out.threeP
    go_wp2_with fail
    refine bodyPost_ret (v := .agg #[.int .i64 (fiR : Int), .int .i64 (laR : Int), .bool nR]) (by simp [results, Tryd.results62, go_sem, *]) rfl ?_
    rw [HD.out]
    exact addOut_box (f := ⟨nR, fiR, laR⟩) B8.out K8.out R8.out (Nat.le_refl _) hGw (.int .i64 (fiR : Int)) (.int .i64 (laR : Int)) (.bool nR)
set_option maxHeartbeats 2000000 in
set_option maxRecDepth 100000 in
theorem bldI_uni (lr lo hi : Int) (l r : Tr) (hl : BldI l) (hr : BldI r) : BldI (.node ⟨5, lr, lo, hi⟩ l r) := by
    intro G ls fo lv fv a0 b0 v w hbp hv hok hno hfl hfs hlt
    obtain ⟨htok, hcase⟩ := hok
    obtain ⟨htin, g, lv0, rv0, a, b, c0, d, rfl, hg, hB, _, _, _, _, hL, hR⟩ := hv
    have HTI := Lib.hid htin
    have HL := Lib.hid hL
    have HR := Lib.hid hR
    obtain ⟨pl, rfl⟩ := hL.isPtr
    obtain ⟨pr, rfl⟩ := hR.isPtr
    have BX := Lib.hid hB
    rw [opN_of] at hcase
    unfold ncells at BX
    dsimp only at BX
    have HBP := Lib.hid hbp
    have hGw := hbp.blk.lt
    clear hL hR hB hbp htin
    obtain ⟨y, hy⟩ : ∃ y, y = w.alloc (.cells #[.int .i64 0, .int .i64 0, .bool false] 87) := ⟨_, rfl⟩
    have hsy : Since w y := by rw [hy]; exact (Since.refl w).alloc _
    have BR : Hid (Blk y w.heap.size 87 #[.int .i64 0, .int .i64 0, .bool false]) := by rw [hy]; exact Blk.new rfl _ _
    have HY := Lib.hid hy
    have hgl : g < w.heap.size := BX.out.lt
    obtain ⟨⟨x0, x1, x2, x3, x4, x5⟩, _⟩ := (BX.out.since hsy).all6
    rw [hy] at x0 x1 x2 x3 x4 x5
    clear hy
    obtain ⟨hlo, hro⟩ : l.ok ∧ r.ok := by
      rcases hcase with ⟨h0, _⟩ | ⟨h1, _⟩ | ⟨_, a, b⟩
      · simp at h0
      · simp at h1
      · exact ⟨a, b⟩
    clear hcase
    have hln : ltrN l + ltrN r ≤ 20 - ls.length ∧ ls.length ≤ 20 := by
      have e : ltrN (Tr.node ⟨5, lr, lo, hi⟩ l r) = ltrN l + ltrN r := by simp [ltrN]
      rw [e] at hlt
      omega
    obtain ⟨g1, g2, g3, g4, g5⟩ := glu_all l 20 ls fo hfl hfs (by omega) (.inr hlo)
    have hnl : noRep l := hno.2.1
    have HLC : Hid (∀ W lv fv, BP G W lv fv ls fo → TreeAt W l a b (.pointer pl) → Calls Tryd.prog 62 #[.pointer (some ⟨G, 0, none⟩), .pointer pl] W (AddOut G W (glu l ls fo))) := fun W lv fv h1 h2 => hl G ls fo lv fv a b _ W h1 h2 hlo hnl hfl hfs (by omega)
    obtain ⟨⟨⟨l1, f1⟩, ⟨n1, fi1, la1⟩⟩, hg1⟩ : ∃ g, g = glu l ls fo := ⟨_, rfl⟩
    rw [← hg1] at g1 g2 g3 g4 g5 HLC
    dsimp only at g1 g2 g3 g4 g5
    obtain ⟨k1, k2, k3, k4, k5⟩ := glu_all r 20 l1 f1 g2 g3 (by omega) (.inr hro)
    have hnr : noRep r := hno.2.2
    have HRC : Hid (∀ W lv fv, BP G W lv fv l1 f1 → TreeAt W r c0 d (.pointer pr) → Calls Tryd.prog 62 #[.pointer (some ⟨G, 0, none⟩), .pointer pr] W (AddOut G W (glu r l1 f1))) := fun W lv fv h1 h2 => hr G l1 f1 lv fv c0 d _ W h1 h2 hro hnr g2 g3 (by omega)
    obtain ⟨⟨⟨l2, f2⟩, ⟨n2, fi2, la2⟩⟩, hg2⟩ : ∃ g, g = glu r l1 f1 := ⟨_, rfl⟩
    rw [← hg2] at k1 k2 k3 k4 k5 HRC
    dsimp only at k1 k2 k3 k4 k5

    have HD : Hid (glu (Tr.node ⟨5, lr, lo, hi⟩ l r) ls fo = ((l2, f2), ⟨n1 || n2, fi1 ||| fi2, la1 ||| la2⟩)) := by
      unfold Hid
      have e1 : (glu l ls fo).1.1 = l1 := by rw [← hg1]
      have e2 : (glu l ls fo).1.2 = f1 := by rw [← hg1]
      simp only [glu, e1, e2, ← hg2, ← hg1]
      simp
    have HFC : Hid (∀ W, Calls Tryd.prog 114 #[.agg #[.int .i64 (fi1 : Int), .int .i64 (la1 : Int), .bool n1], .agg #[.int .i64 (fi2 : Int), .int .i64 (la2 : Int), .bool n2]] W fun e w' => e = .returned (FrgW ⟨n1 || n2, fi1 ||| fi2, la1 ||| la2⟩) ∧ Since W w') := fun W => frag_union n1 n2 fi1 la1 fi2 la2 W g4 g5 k4 k5
    clear hg1 hg2 hl hr hlt hln hfs g4 g5 k4 k5
    go_enter Tryd.func62, Tryd.ntmps62
    go_wp2_with fail
    rw [← HY.out]
    clear x0 x1 x2 x3 x4 x5
    have K2 : Hid (KI G w y) := KI.of_since hsy
    have B2 := Lib.hid (HBP.out.since hsy)
    refine (HLC.out _ _ _ B2.out (tree_ki HL.out K2.out)).mono ?_
    rintro e w3 ⟨lv3, fv3, rfl, hb3, hk3⟩
    rw [frgW]
    have K3 := Lib.hid (K2.out.trans hk3)
    have R3 := Lib.hid (hk3.typed _ _ _ BR.out (by decide) (by decide))
    obtain ⟨w4, hw4⟩ : ∃ w4, w4 = w3.alloc (.cells #[.int .i64 (fi1 : Int), .int .i64 (la1 : Int), .bool n1] 87) := ⟨_, rfl⟩
    have hs4 : Since w3 w4 := by rw [hw4]; exact (Since.refl w3).alloc _
    have A4 : Hid (Blk w4 w3.heap.size 87 #[.int .i64 (fi1 : Int), .int .i64 (la1 : Int), .bool n1]) := by rw [hw4]; exact Blk.new rfl _ _
    have B4 := Lib.hid (hb3.since hs4)
    have K4 := Lib.hid (K3.out.trans (KI.of_since hs4))
    have R4 := Lib.hid (R3.out.since hs4)
    have N4 := Lib.hid (K4.out.typed _ _ _ BX.out (by decide) (by decide))
    have HW4 := Lib.hid hw4
    have zA : w.heap.size < w3.heap.size := R3.out.lt
    clear hw4 hb3 hk3 K3 R3 K2 B2 BR
    obtain ⟨⟨a0', a1', a2'⟩, _⟩ := A4.out.threeP
    obtain ⟨⟨x0, x1, x2, x3, x4, x5⟩, _⟩ := N4.out.all6
    rw [HW4.out] at a0' a1' a2' x0 x1 x2 x3 x4 x5
    go_wp2_with fail
    rw [← HW4.out]
    clear a0' a1' a2' x0 x1 x2 x3 x4 x5
    refine (HRC.out _ _ _ B4.out (tree_ki HR.out K4.out)).mono ?_
    rintro e w5 ⟨lv5, fv5, rfl, hb5, hk5⟩
    rw [frgW]
    have K5 := Lib.hid (K4.out.trans hk5)
    have R5 := Lib.hid (hk5.typed _ _ _ R4.out (by decide) (by decide))
    have A5 := Lib.hid (hk5.typed _ _ _ A4.out (by decide) (by decide))
    clear B4 K4 R4 A4 N4
    obtain ⟨w6, hw6⟩ : ∃ w6, w6 = w5.alloc (.cells #[.int .i64 (fi2 : Int), .int .i64 (la2 : Int), .bool n2] 87) := ⟨_, rfl⟩
    have hs6 : Since w5 w6 := by rw [hw6]; exact (Since.refl w5).alloc _
    have D6 : Hid (Blk w6 w5.heap.size 87 #[.int .i64 (fi2 : Int), .int .i64 (la2 : Int), .bool n2]) := by rw [hw6]; exact Blk.new rfl _ _
    have B6 := Lib.hid (hb5.since hs6)
    have K6 := Lib.hid (K5.out.trans (KI.of_since hs6))
    have R6 := Lib.hid (R5.out.since hs6)
    have A6 := Lib.hid (A5.out.since hs6)
    have HW6 := Lib.hid hw6
    clear hw6 hb5 hk5 K5 R5 A5
    obtain ⟨⟨a0', a1', a2'⟩, _⟩ := A6.out.threeP
    obtain ⟨⟨d0', d1', d2'⟩, _⟩ := D6.out.threeP
    rw [HW6.out] at a0' a1' a2' d0' d1' d2'
    go_wp2_with fail
    rw [← HW6.out]
    clear a0' a1' a2' d0' d1' d2'
    refine (HFC.out _).mono ?_
    rintro e w8 ⟨rfl, hs8⟩
    rw [frgW]
    have B8 := Lib.hid (B6.out.since hs8)
    have K8 := Lib.hid (K6.out.trans (KI.of_since hs8))
    have R8 := Lib.hid (R6.out.since hs8)
    obtain ⟨⟨e0, e1, e2⟩, r0, r1, r2⟩ := R8.out.threeP
    go_wp2_with fail
    refine bodyPost_ret (v := .agg #[.int .i64 ((fi1 ||| fi2 : Nat) : Int), .int .i64 ((la1 ||| la2 : Nat) : Int), .bool (n1 || n2)]) (by simp [results, Tryd.results62, go_sem, *]) rfl ?_
    rw [HD.out]
    exact addOut_box (f := ⟨n1 || n2, fi1 ||| fi2, la1 ||| la2⟩) B8.out K8.out R8.out (Nat.le_refl _) hGw (.int .i64 ((fi1 ||| fi2 : Nat) : Int)) (.int .i64 ((la1 ||| la2 : Nat) : Int)) (.bool (n1 || n2))
set_option maxHeartbeats 2000000 in
set_option maxRecDepth 100000 in
theorem bldI_star (lr lo hi : Int) (l r : Tr) (hl : BldI l) (hr : BldI r) : BldI (.node ⟨6, lr, lo, hi⟩ l r) := by
    intro G ls fo lv fv a0 b0 v w hbp hv hok hno hfl hfs hlt
    obtain ⟨htok, hcase⟩ := hok
    obtain ⟨htin, g, lv0, rv0, a, b, c0, d, rfl, hg, hB, _, _, _, _, hL, hR⟩ := hv
    have HTI := Lib.hid htin
    have HL := Lib.hid hL
    have HR := Lib.hid hR
    obtain ⟨pl, rfl⟩ := hL.isPtr
    obtain ⟨pr, rfl⟩ := hR.isPtr
    have BX := Lib.hid hB
    rw [opN_of] at hcase
    unfold ncells at BX
    dsimp only at BX
    have HBP := Lib.hid hbp
    have hGw := hbp.blk.lt
    clear hL hR hB hbp htin
    obtain ⟨y, hy⟩ : ∃ y, y = w.alloc (.cells #[.int .i64 0, .int .i64 0, .bool false] 87) := ⟨_, rfl⟩
    have hsy : Since w y := by rw [hy]; exact (Since.refl w).alloc _
    have BR : Hid (Blk y w.heap.size 87 #[.int .i64 0, .int .i64 0, .bool false]) := by rw [hy]; exact Blk.new rfl _ _
    have HY := Lib.hid hy
    have hgl : g < w.heap.size := BX.out.lt
    obtain ⟨⟨x0, x1, x2, x3, x4, x5⟩, _⟩ := (BX.out.since hsy).all6
    rw [hy] at x0 x1 x2 x3 x4 x5
    clear hy
    obtain ⟨hlo, rfl⟩ : l.ok ∧ r = .nil := by
      rcases hcase with ⟨h0, _⟩ | ⟨_, a, b⟩ | ⟨h2, _⟩
      · simp at h0
      · exact ⟨a, b⟩
      · simp at h2
    clear hcase
    have hln : ltrN l ≤ 20 - ls.length ∧ ls.length ≤ 20 := by
      have e : ltrN (Tr.node ⟨6, lr, lo, hi⟩ l .nil) = ltrN l := by simp [ltrN]
      rw [e] at hlt
      omega
    obtain ⟨g1, g2, g3, g4, g5⟩ := glu_all l 20 ls fo hfl hfs (by omega) (.inr hlo)
    have hnl : noRep l := hno.2.1
    have HLC : Hid (∀ W lv fv, BP G W lv fv ls fo → TreeAt W l a b (.pointer pl) → Calls Tryd.prog 62 #[.pointer (some ⟨G, 0, none⟩), .pointer pl] W (AddOut G W (glu l ls fo))) := fun W lv fv h1 h2 => hl G ls fo lv fv a b _ W h1 h2 hlo hnl hfl hfs (by omega)
    obtain ⟨⟨⟨l1, f1⟩, ⟨n1, fi1, la1⟩⟩, hg1⟩ : ∃ g, g = glu l ls fo := ⟨_, rfl⟩
    rw [← hg1] at g1 g2 g3 g4 g5 HLC
    dsimp only at g1 g2 g3 g4 g5

    have HD : Hid (glu (Tr.node ⟨6, lr, lo, hi⟩ l .nil) ls fo = ((l1, linkN f1 la1 fi1), ⟨true, fi1, la1⟩)) := by
      unfold Hid
      simp only [glu, ← hg1]
      simp
    have HLK : Hid (∀ W lv fv, BP G W lv fv l1 f1 → Calls Tryd.prog 112 #[.pointer (some ⟨G, 0, none⟩), .int .i64 (la1 : Int), .int .i64 (fi1 : Int)] W (LinkOut G W lv fv l1 (linkN f1 la1 fi1))) := fun W lv fv h => connect_any G la1 fi1 lv fv l1 f1 W h (by omega) (by omega) g5 g4 g3
    clear hg1 hl hr hlt hln hfs g4 g5
    go_enter Tryd.func62, Tryd.ntmps62
    go_wp2_with fail
    rw [← HY.out]
    clear x0 x1 x2 x3 x4 x5
    have K2 : Hid (KI G w y) := KI.of_since hsy
    have B2 := Lib.hid (HBP.out.since hsy)
    refine (HLC.out _ _ _ B2.out (tree_ki HL.out K2.out)).mono ?_
    rintro e w3 ⟨lv3, fv3, rfl, hb3, hk3⟩
    rw [frgW]
    have K3 := Lib.hid (K2.out.trans hk3)
    have R3 := Lib.hid (hk3.typed _ _ _ BR.out (by decide) (by decide))
    obtain ⟨w4, hw4⟩ : ∃ w4, w4 = w3.alloc (.cells #[.int .i64 (fi1 : Int), .int .i64 (la1 : Int), .bool n1] 87) := ⟨_, rfl⟩
    have hs4 : Since w3 w4 := by rw [hw4]; exact (Since.refl w3).alloc _
    have A4 : Hid (Blk w4 w3.heap.size 87 #[.int .i64 (fi1 : Int), .int .i64 (la1 : Int), .bool n1]) := by rw [hw4]; exact Blk.new rfl _ _
    have B4 := Lib.hid (hb3.since hs4)
    have K4 := Lib.hid (K3.out.trans (KI.of_since hs4))
    have R4 := Lib.hid (R3.out.since hs4)
    have N4 := Lib.hid (K4.out.typed _ _ _ BX.out (by decide) (by decide))
    have HW4 := Lib.hid hw4
    have zA : w.heap.size < w3.heap.size := R3.out.lt
    clear hw4 hb3 hk3 K3 R3 K2 B2 BR
    obtain ⟨⟨a0', a1', a2'⟩, _⟩ := A4.out.threeP
    obtain ⟨⟨x0, x1, x2, x3, x4, x5⟩, _⟩ := N4.out.all6
    rw [HW4.out] at a0' a1' a2' x0 x1 x2 x3 x4 x5
    go_wp2_with fail
    rw [← HW4.out]
    clear a0' a1' a2' x0 x1 x2 x3 x4 x5
    refine (HLK.out _ _ _ B4.out).mono ?_
    rintro e w7 ⟨rfl, hb7, hk7⟩
    have B7 := Lib.hid hb7
    have K7 := Lib.hid (K4.out.trans hk7)
    have R7 := Lib.hid (hk7.typed _ _ _ R4.out (by decide) (by decide))
    have A7 := Lib.hid (hk7.typed _ _ _ A4.out (by decide) (by decide))
    clear hb7 hk7
    obtain ⟨⟨a0', a1', a2'⟩, s0, s1, s2⟩ := A7.out.threeP
    obtain ⟨⟨e0, e1, e2⟩, r0, r1, r2⟩ := R7.out.threeP
    go_wp2_with fail
    have B8 := Lib.hid (B7.out.setT (i := 2) A7.out (by decide) (by decide) (.bool true))
    have K8 := Lib.hid (K7.out.setNew (X := w3.heap.size) (i := 2) (by omega) hGw (.bool true))
    have R8 := Lib.hid (R7.out.far (p := ⟨w3.heap.size, 2, none⟩) (by show w.heap.size ≠ w3.heap.size; omega) (.bool true))
    refine bodyPost_ret (v := .agg #[.int .i64 (fi1 : Int), .int .i64 (la1 : Int), .bool true]) (by simp [results, Tryd.results62, go_sem, *]) rfl ?_
    rw [HD.out]
    exact addOut_box (f := ⟨true, fi1, la1⟩) B8.out K8.out R8.out (Nat.le_refl _) hGw (.int .i64 (fi1 : Int)) (.int .i64 (la1 : Int)) (.bool true)
end Go.Proofs.YtblmiocjhbpklaaDoor
