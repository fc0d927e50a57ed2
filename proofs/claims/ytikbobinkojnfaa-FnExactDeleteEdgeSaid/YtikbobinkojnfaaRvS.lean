/- ReverseGraph, the model's. -/
import Derived.Test.YtikbobinkojnfaaCopyS
import Derived.Test.YtikbobinkojnfaaVgWalk
namespace Go.Proofs.Ytikbobinkojnfaa
open Go.ChangeShapes Go.WideShapes Go.ChangeAt Go.RowKit
set_option linter.unusedVariables false
set_option linter.unusedSimpArgs false

theorem revE_in {e : Edg} (h : e.In) : (revE e).In := ⟨h.1, h.2.2.1, h.2.1, h.2.2.2⟩
theorem map_snocE (f : Edg → Edg) {xs : List Edg} {k : Nat} (h : k < xs.length) : (xs.take (k + 1)).map f = (xs.take k).map f ++ [f xs[k]] := by
  rw [List.take_succ_eq_append_getElem h, List.map_append]; rfl
theorem Blk.grown {w w' : World} {g : Nat} {t : TypeId} {cs : Array Value} {row : Option Nat} (h : Blk w g t cs) (k : w.grownBy w' row) (hd : some g ≠ row) : Blk w' g t cs := (k.block g h.lt hd).trans h
theorem OwnE.len' {base : Nat} {w : World} {v : Value} {xs : List Edg} (h : OwnE base w v xs) (n : Nat) (hn : xs.length = n) : ∃ ao cap, v = .slice ao n cap := by
  obtain ⟨ao, cap, e⟩ := h.len; exact ⟨ao, cap, by rw [e, hn]⟩
theorem EdgesAt.mem {w : World} {v : Value} {xs : List Edg} (h : EdgesAt w v xs) {k : Nat} (hk : k < xs.length) : (xs[k]).In := h.1 _ (List.getElem_mem hk)

set_option maxHeartbeats 1000000 in
set_option maxRecDepth 100000 in
theorem specRV_any (v : Value) (g : Grf) (w : World) (h : GrfAt w v g) (h1 : g.vs.length ≤ 1048577) (h2 : g.es.length ≤ 1048577) :
    Calls Try.prog 26 #[v] w (GrfOut w (revG g)) := by
  obtain ⟨a, b, rfl, ha, hb⟩ := h
  have HA := Lib.hid ha
  have HB := Lib.hid hb
  obtain ⟨ao, ac, rfl, _⟩ := ha.row
  obtain ⟨bo, bc, rfl, HE⟩ := hb.row
  clear ha hb
  obtain ⟨n, hn⟩ : ∃ n, n = g.vs.length := ⟨_, rfl⟩
  obtain ⟨m, hm⟩ : ∃ m, m = g.es.length := ⟨_, rfl⟩
  rw [← hn] at HA
  rw [← hm] at HB
  rw [← hn, ← hm]
  have hm9 : m ≤ 1048577 := by omega
  have HM := Lib.hid hm
  clear hn hm
  have hs0 : Since w ((w.alloc (.cells #[.slice ao n ac, .slice bo m bc] 30)).alloc (.cells #[.slice none 0 0, .slice none 0 0] 30)) := ((Since.refl w).alloc _).alloc _
  have b0 : Hid (Blk ((w.alloc (.cells #[.slice ao n ac, .slice bo m bc] 30)).alloc (.cells #[.slice none 0 0, .slice none 0 0] 30)) w.heap.size 30 #[.slice ao n ac, .slice bo m bc]) := (Blk.new rfl _ _).alloc _
  have r0 : Hid (Blk ((w.alloc (.cells #[.slice ao n ac, .slice bo m bc] 30)).alloc (.cells #[.slice none 0 0, .slice none 0 0] 30)) (w.heap.size + 1) 30 #[.slice none 0 0, .slice none 0 0]) := Blk.new (by simp) _ _
  have hz : Hid (w.heap.size + 2 = ((w.alloc (.cells #[.slice ao n ac, .slice bo m bc] 30)).alloc (.cells #[.slice none 0 0, .slice none 0 0] 30)).heap.size) := by unfold Hid; simp
  go_enter Try.func26, Try.ntmps26
  go_upto_region 1 with fail
  generalize ((w.alloc (.cells #[.slice ao n ac, .slice bo m bc] 30)).alloc (.cells #[.slice none 0 0, .slice none 0 0] 30)) = WR at hs0 b0 r0 hz ⊢
  have hzz : w.heap.size + 2 ≤ WR.heap.size := by have := hz.out; omega
  obtain ⟨p0, p1, _, _⟩ := (b0.out.alloc (.cells #[] 3)).two
  have F0 := own_lit WR WR (Since.refl _) WR.heap.size rfl
  go_wp2_with (at_builtin; go_must (refine wpList_append_ints rfl (.tmp 6) (.tmp 8) rfl WR.heap.size (.slice (some ⟨WR.heap.size, 0, none⟩) 0 0) [] rfl F0 ao n ac rfl g.vs (HA.out.since (hs0.alloc _)) (by simp; omega) (by simp) ?_); intro v1 w1 ho1 hg1 hb1; rw [List.nil_append] at ho1; obtain ⟨o1, c1, rfl⟩ := ho1.len)
  clear p0 p1
  have hs1 : Since WR w1 := ((Since.refl WR).alloc _).grown hg1 (fun j hj => (F0.2.lt j hj).1)
  have HO1 := Lib.hid ho1
  have b1 := Lib.hid (b0.out.since hs1)
  have r1 := Lib.hid (r0.out.since hs1)
  have hs01 := hs0.trans hs1
  have z1 := hs1.size
  have X1 : Hid (Blk (w1.alloc (.cells #[.slice o1 g.vs.length c1, .slice none 0 0] 30)) w1.heap.size 30 #[.slice o1 g.vs.length c1, .slice none 0 0]) := Blk.new rfl _ _
  clear F0 ho1 hg1 b0 r0 hs0 hs1
  go_loopw [4] (fun i wr => ∃ k : Nat, k ≤ m ∧ i = .int .i64 k ∧ Hid (∃ o2 c2, Blk wr w1.heap.size 30 #[.slice o1 g.vs.length c1, .slice o2 k c2] ∧ OwnE (w1.heap.size + 1) wr (.slice o2 k c2) ((g.es.take k).map revE)) ∧ Hid (Since w1 wr) ∧ w1.heap.size + 1 ≤ wr.heap.size) (fun i _ => m - (intOf i).toNat)
  case atStart => exact ⟨0, Nat.zero_le _, rfl, ⟨none, 0, X1.out, ⟨fun x hx => by simp at hx, by simp [ecells]; exact World.ownsRow_nil _ _ _ _⟩⟩, (Since.refl w1).alloc _, by simp⟩
  case round =>
    obtain ⟨k, hk, rfl, HK, HS, hzr⟩ := hrel
    obtain ⟨o2, c2, hbx, hoe⟩ := HK.out
    have BX := Lib.hid hbx
    have OE := Lib.hid hoe
    have b2 := Lib.hid (b1.out.since HS.out)
    clear HK hbx hoe
    obtain ⟨p0, p1, _, _⟩ := b2.out.two
    by_cases hlt : k < m
    · have hx : k < g.es.length := by have := HM.out; omega
      have hei := HB.out.mem hx
      obtain ⟨be, oe, rfl, hbe, d0, d1, d2, d3⟩ := HE.out k hx
      have s1 := since_cells (hs01.trans HS.out) hbe
      rw [← s1] at d0 d1 d2 d3
      clear s1
      obtain ⟨e, he⟩ : ∃ e : Edg, e = g.es[k] := ⟨_, rfl⟩
      rw [← he] at d0 d1 d2 d3 hei
      have BX1 := Lib.hid ((BX.out.alloc (.cells #[.int .i64 e.id, .int .i64 e.fr, .int .i64 e.to, .int .i64 e.lb] 40)))
      have BX2 := Lib.hid (BX1.out.alloc (.cells #[.int .i64 e.id, .int .i64 e.to, .int .i64 e.fr, .int .i64 e.lb] 40))
      have OE2 := Lib.hid ((OE.out.since ((Since.refl wr).alloc (.cells #[.int .i64 e.id, .int .i64 e.fr, .int .i64 e.to, .int .i64 e.lb] 40))).since ((Since.refl _).alloc (.cells #[.int .i64 e.id, .int .i64 e.to, .int .i64 e.fr, .int .i64 e.lb] 40)))
      have E1 : Hid (EdgesAt ((wr.alloc (.cells #[.int .i64 e.id, .int .i64 e.fr, .int .i64 e.to, .int .i64 e.lb] 40)).alloc (.cells #[.int .i64 e.id, .int .i64 e.to, .int .i64 e.fr, .int .i64 e.lb] 40)) (.slice (some ⟨wr.heap.size + 1, 0, none⟩) 1 1) [revE e]) :=
        (ownE_one _ (wr.alloc (.cells #[.int .i64 e.id, .int .i64 e.fr, .int .i64 e.to, .int .i64 e.lb] 40)) (Since.refl _) (revE e) (revE_in hei) (wr.heap.size + 1) (by simp)).at
      have HSN := Lib.hid (map_snocE revE hx)
      rw [← he] at HSN
      have hlk : Hid ((List.map revE (List.take k g.es)).length = k) := by unfold Hid; simp; omega
      clear he hei
      obtain ⟨q0, q1, _, _⟩ := BX1.out.two
      have hne : ∀ j, (Value.slice o2 k c2).ownBlock = some j → w1.heap.size + 1 ≤ j := fun j hj => (OE.out.2.lt j hj).1
      go_wp2_with (at_builtin; go_must (refine wpList_append_edges rfl (.tmp 24) (.tmp 34) rfl (w1.heap.size + 1) (.slice o2 k c2) ((g.es.take k).map revE) rfl OE2.out (some ⟨wr.heap.size + 1, 0, none⟩) 1 1 rfl [revE e] E1.out (by rw [hlk.out]; simp; omega) (by simp; omega) ?_); intro v3 w3 ho3 hg3 hb3; obtain ⟨o3, c3, rfl⟩ := ho3.len' (k + 1) (by rw [List.length_append, hlk.out]; rfl); have BX3 := Lib.hid (BX2.out.grown hg3 (fun e => by have := hne _ e.symm; omega)); obtain ⟨x0, x1, x2, x3⟩ := BX3.out.two)
      have hs3 : Since w1 w3 := ((HS.out.alloc _).alloc _).grown hg3 (fun j hj => by have := hne j hj; omega)
      have HO3 := Lib.hid ho3
      have HR : Hid (∃ o2 c2, Blk (w3.setCell ⟨w1.heap.size, 1, none⟩ (.slice o3 (k + 1) c3)) w1.heap.size 30 #[.slice o1 g.vs.length c1, .slice o2 (k + 1) c2] ∧ OwnE (w1.heap.size + 1) (w3.setCell ⟨w1.heap.size, 1, none⟩ (.slice o3 (k + 1) c3)) (.slice o2 (k + 1) c2) ((g.es.take (k + 1)).map revE)) :=
        ⟨o3, c3, BX3.out.set 1 _, by rw [HSN.out]; exact HO3.out.far (by simp) _⟩
      have hs4 := hs3.setCell (a := ⟨w1.heap.size, 1, none⟩) (by simp) (.slice o3 (k + 1) c3)
      have hz4 : w1.heap.size + 1 ≤ w3.heap.size := BX3.out.lt
      clear ho3 hg3 hb3 x0 x1 x2 x3
      go_wp2
      go_roundw
      case rel => exact ⟨k + 1, by omega, by go_num, HR, hs4, by simpa using hz4⟩
      case measure => simp [intOf]; omega
    · obtain rfl : k = m := by omega
      have HOE : Hid (OwnE (w1.heap.size + 1) wr (.slice o2 k c2) (g.es.map revE)) := by
        have := OE.out
        rw [List.take_of_length_le (by have := HM.out; omega)] at this
        exact this
      have HOA := Lib.hid (HO1.out.since HS.out)
      have RX := Lib.hid (r1.out.since HS.out)
      have hsw := Lib.hid (hs01.trans HS.out)
      obtain ⟨q0, q1, _, _⟩ := BX.out.two
      obtain ⟨y0, y1, y2, y3⟩ := RX.out.two
      go_wp2
      refine bodyPost_ret (v := .agg #[.slice o1 g.vs.length c1, .slice o2 k c2]) (by simp [results, Try.results26, go_sem, *]) rfl ?_
      refine grfOut_mk (g := revG g) (((HOA.out.far (by simp; omega) _).far (by simp; omega) _).mono (by omega)) (((HOE.out.far (by simp; omega) _).far (by simp; omega) _).mono (by omega)) ?_
      exact (hsw.out.setCell (by simp) _).setCell (by simp) _
end Go.Proofs.Ytikbobinkojnfaa
