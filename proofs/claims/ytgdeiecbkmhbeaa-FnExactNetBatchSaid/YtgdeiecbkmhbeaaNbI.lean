/- The program's NetBatch. -/
import Derived.Test.YtgdeiecbkmhbeaaNetI
import Derived.Test.YtgdeiecbkmhbeaaCon
namespace Go.Proofs.Ytgdeiecbkmhbeaa
set_option maxRecDepth 100000
open Go.ChangeShapes Go.WideShapes Go.ChangeAt Go.RowKit
set_option linter.unusedVariables false
set_option linter.unusedSimpArgs false

set_option maxHeartbeats 4000000 in
set_option maxRecDepth 100000 in
theorem implNB_any (v : Value) (xs : List Chg) (w : World) (h : BchAt w v xs) (h1 : xs.length ≤ 1048577) :
    Calls Try.prog 32 #[v] w (BOut w (netB xs)) := by
  obtain ⟨b, rfl, hb⟩ := h
  have HB := Lib.hid hb
  obtain ⟨bo, bc, rfl⟩ := hb.len
  clear hb
  have HNL : Hid ((netL xs).length ≤ xs.length) := by
    have := netL_len xs xs.length
    rw [List.take_length] at this; exact this
  have HNB : Hid (netB xs = (netL xs).filter (fun c => !c.ins) ++ (netL xs).filter (fun c => c.ins)) := rfl
  obtain ⟨n, hn⟩ : ∃ n, n = xs.length := ⟨_, rfl⟩
  have hn9 : n ≤ 1048577 := by omega
  have HN := Lib.hid hn
  rw [← hn] at HB ⊢
  clear hn h1
  obtain ⟨y, hy⟩ : ∃ y, y = (w.alloc (.cells #[.slice bo n bc] 29)).alloc (.cells #[.slice none 0 0] 29) := ⟨_, rfl⟩
  have hs0 : Since w y := by rw [hy]; exact ((Since.refl w).alloc _).alloc _
  have hz : w.heap.size + 1 + 1 = y.heap.size := by rw [hy]; simp
  have BB : Hid (Blk y w.heap.size 29 #[.slice bo n bc]) := by rw [hy]; exact (Blk.new rfl _ _).alloc _
  have BR : Hid (Blk y (w.heap.size + 1) 29 #[.slice none 0 0]) := by rw [hy]; exact Blk.new (by simp) _ _
  obtain ⟨p0, _⟩ := BB.out.one
  rw [hy] at p0
  go_enter Try.func32, Try.ntmps32
  go_wp2_with fail
  rw [← hy]
  clear hy p0
  refine (uncancelled_any _ xs _ (HB.out.since hs0) (by have := HN.out; omega)).mono ?_
  rintro en w1 ⟨v1, rfl, ho1, hs1⟩
  have hc1 := ho1.at
  clear ho1
  generalize netL xs = L at HNL HNB hc1
  obtain ⟨hLI, ro, rc, rfl, HC⟩ := hc1
  have HLIN := Lib.hid hLI
  clear hLI
  obtain ⟨m, hm⟩ : ∃ m, m = L.length := ⟨_, rfl⟩
  have hm9 : m ≤ 1048577 := by have := HNL.out; have := HN.out; omega
  have HM := Lib.hid hm
  rw [← hm]
  clear hm
  have hz1 := hs1.size
  go_wp2_with fail
  go_loopw [3, 4, 11] (fun d e i wr => ∃ k : Nat, k ≤ m ∧ i = .int .i64 k ∧ Hid (OwnC w1.heap.size wr d ((L.take k).filter (fun c => !c.ins))) ∧ Hid (OwnC w1.heap.size wr e ((L.take k).filter (fun c => c.ins))) ∧ Hid (d.ownBlock = none ∨ d.ownBlock ≠ e.ownBlock) ∧ Since w1 wr) (fun _ _ i _ => m - (intOf i).toNat)
  case atStart => exact ⟨0, Nat.zero_le _, rfl, ⟨fun x hx => by simp at hx, World.ownsRow_nil _ _ _ _⟩, ⟨fun x hx => by simp at hx, World.ownsRow_nil _ _ _ _⟩, .inl rfl, Since.refl _⟩
  case round =>
    obtain ⟨k, hk, rfl, HD, HE, HSEP, hsw⟩ := hrel
    obtain ⟨dO, dc, rfl⟩ := HD.out.len
    obtain ⟨eo, ec, rfl⟩ := HE.out.len
    by_cases hlt : k < m
    · have hx : k < L.length := by have := HM.out; omega
      obtain ⟨be, oe, rfl, hbe, d0, d1, d2, d3, d4⟩ := HC.out k hx
      have s1 := since_cells hsw hbe
      have d0 := (s1 _).trans d0
      have d1 := (s1 _).trans d1
      have d2 := (s1 _).trans d2
      have d3 := (s1 _).trans d3
      have d4 := (s1 _).trans d4
      have HCI : Hid (L[k].ed.In) := HLIN.out _ (List.getElem_mem hx)
      have hkt : L.take (k + 1) = L.take k ++ [L[k]] := List.take_succ_eq_append_getElem hx
      have kk0 : (0 : Int) ≤ (k : Int) := by omega
      have kk1 : (k : Int) < (m : Int) := by omega
      clear s1
      generalize L[k] = c at d0 d1 d2 d3 d4 hkt HCI
      obtain ⟨ci, ce⟩ := c
      dsimp only at d0 d1 d2 d3 d4 HCI
      cases ci
      · skip
        have hkm : (L.take (k + 1)).filter (fun c => !c.ins) = (L.take k).filter (fun c => !c.ins) ++ [⟨false, ce⟩] := by rw [hkt, List.filter_append]; rfl
        have hko : (L.take (k + 1)).filter (fun c => c.ins) = (L.take k).filter (fun c => c.ins) := by rw [hkt, List.filter_append]; exact List.append_nil _
        have HKM := Lib.hid hkm
        have HKO := Lib.hid hko
        clear hkm hko hkt
        have hsb : Since wr (wr.alloc (.cells #[.bool false, .int .i64 ce.id, .int .i64 ce.fr, .int .i64 (Edg.to ce), .int .i64 ce.lb] 98)) := (Since.refl wr).alloc _
        obtain ⟨⟨p0, p1, p2, p3, p4⟩, _⟩ := (Blk.new (w := wr) rfl (t := 98) #[.bool false, .int .i64 ce.id, .int .i64 ce.fr, .int .i64 (Edg.to ce), .int .i64 ce.lb]).fiveC
        have HLI : Hid (ChgsAt ((wr.alloc (.cells #[.bool false, .int .i64 ce.id, .int .i64 ce.fr, .int .i64 (Edg.to ce), .int .i64 ce.lb] 98)).alloc (.cells #[.bool false, .int .i64 ce.id, .int .i64 ce.fr, .int .i64 (Edg.to ce), .int .i64 ce.lb] 98)) (.slice (some ⟨wr.heap.size + 1, 0, none⟩) 1 1) [⟨false, ce⟩]) := by
          have h1 := chg_lit (wr.alloc (.cells #[.bool false, .int .i64 ce.id, .int .i64 ce.fr, .int .i64 (Edg.to ce), .int .i64 ce.lb] 98)) ⟨false, ce⟩ HCI.out
          rw [show (wr.alloc (.cells #[.bool false, .int .i64 ce.id, .int .i64 ce.fr, .int .i64 (Edg.to ce), .int .i64 ce.lb] 98)).heap.size = wr.heap.size + 1 from by simp] at h1
          exact h1
        have hLN : ((L.take k).filter (fun c => !c.ins)).length + [(⟨false, ce⟩ : Chg)].length ≤ 4194304 := by
          have h1 := List.length_filter_le (fun c => !c.ins) (L.take k)
          rw [List.length_take] at h1
          simp only [List.length_cons, List.length_nil]; omega
        have HMa : Hid (OwnC w1.heap.size ((wr.alloc (.cells #[.bool false, .int .i64 ce.id, .int .i64 ce.fr, .int .i64 (Edg.to ce), .int .i64 ce.lb] 98)).alloc (.cells #[.bool false, .int .i64 ce.id, .int .i64 ce.fr, .int .i64 (Edg.to ce), .int .i64 ce.lb] 98)) (.slice dO ((L.take k).filter (fun c => !c.ins)).length dc) ((L.take k).filter (fun c => !c.ins))) := HD.out.since (hsb.alloc _)
        have HOa : Hid (OwnC w1.heap.size ((wr.alloc (.cells #[.bool false, .int .i64 ce.id, .int .i64 ce.fr, .int .i64 (Edg.to ce), .int .i64 ce.lb] 98)).alloc (.cells #[.bool false, .int .i64 ce.id, .int .i64 ce.fr, .int .i64 (Edg.to ce), .int .i64 ce.lb] 98)) (.slice eo ((L.take k).filter (fun c => c.ins)).length ec) ((L.take k).filter (fun c => c.ins))) := HE.out.since (hsb.alloc _)
        go_wp2_with (refine wpList_append_chgs (o := ⟨some 24, _, _, _, _, _⟩) rfl (.tmp 21) (.tmp 23) rfl w1.heap.size (.slice dO ((L.take k).filter (fun c => !c.ins)).length dc) ((L.take k).filter (fun c => !c.ins)) rfl HMa.out _ 1 1 rfl [⟨false, ce⟩] HLI.out hLN (by have := hsw.size; simp; omega) ?_; intro v3 w3 ho3 hg3 hb3)
        have HM3 : Hid (OwnC w1.heap.size w3 v3 ((L.take (k + 1)).filter (fun c => !c.ins))) := by unfold Hid; rw [HKM.out]; exact ho3
        have HO3 : Hid (OwnC w1.heap.size w3 (.slice eo ((L.take k).filter (fun c => c.ins)).length ec) ((L.take (k + 1)).filter (fun c => c.ins))) := by
          unfold Hid; rw [HKO.out]
          refine ⟨HOa.out.1, row_keep HOa.out.2 (fun q hq => hg3.block q (HOa.out.2.lt q hq).2 (fun e => ?_))⟩
          rcases HSEP.out with h0 | h0
          · first | (rw [h0] at hq; cases hq) | (rw [h0] at e; cases e)
          · first | exact h0 (hq.trans e) | exact h0 (e.symm.trans hq.symm)
        have HS3 : Hid (v3.ownBlock = none ∨ v3.ownBlock ≠ (Value.slice eo ((L.take k).filter (fun c => c.ins)).length ec).ownBlock) := by
          unfold Hid
          rcases hb3 with hb3 | hb3
          · rw [hb3]; exact HSEP.out
          · rw [hb3]
            cases hq : (Value.slice eo ((L.take k).filter (fun c => c.ins)).length ec).ownBlock with
            | none => exact .inr (by simp)
            | some q =>
              have := (HE.out.2.lt q hq).2
              exact .inr (fun e => by injection e with e; simp at e; omega)
        have hs3 : Since w1 w3 := ((hsw.trans hsb).alloc _).grown hg3 (fun q hq => (HD.out.2.lt q hq).1)
        clear ho3 hg3 hb3 p0 p1 p2 p3 p4 d0 d1 d2 d3 d4 HD HE HMa HOa HSEP HLI
        generalize ((L.take k).filter (fun c => c.ins)).length = q at HO3 HS3 ⊢
        go_wp2
        go_roundw
        case rel => exact ⟨k + 1, by omega, by go_num, HM3.out, HO3.out, HS3, hs3⟩
        case measure => simp [intOf]; omega
      · skip
        have hkm : (L.take (k + 1)).filter (fun c => c.ins) = (L.take k).filter (fun c => c.ins) ++ [⟨true, ce⟩] := by rw [hkt, List.filter_append]; rfl
        have hko : (L.take (k + 1)).filter (fun c => !c.ins) = (L.take k).filter (fun c => !c.ins) := by rw [hkt, List.filter_append]; exact List.append_nil _
        have HKM := Lib.hid hkm
        have HKO := Lib.hid hko
        clear hkm hko hkt
        have hsb : Since wr (wr.alloc (.cells #[.bool true, .int .i64 ce.id, .int .i64 ce.fr, .int .i64 (Edg.to ce), .int .i64 ce.lb] 98)) := (Since.refl wr).alloc _
        obtain ⟨⟨p0, p1, p2, p3, p4⟩, _⟩ := (Blk.new (w := wr) rfl (t := 98) #[.bool true, .int .i64 ce.id, .int .i64 ce.fr, .int .i64 (Edg.to ce), .int .i64 ce.lb]).fiveC
        have HLI : Hid (ChgsAt ((wr.alloc (.cells #[.bool true, .int .i64 ce.id, .int .i64 ce.fr, .int .i64 (Edg.to ce), .int .i64 ce.lb] 98)).alloc (.cells #[.bool true, .int .i64 ce.id, .int .i64 ce.fr, .int .i64 (Edg.to ce), .int .i64 ce.lb] 98)) (.slice (some ⟨wr.heap.size + 1, 0, none⟩) 1 1) [⟨true, ce⟩]) := by
          have h1 := chg_lit (wr.alloc (.cells #[.bool true, .int .i64 ce.id, .int .i64 ce.fr, .int .i64 (Edg.to ce), .int .i64 ce.lb] 98)) ⟨true, ce⟩ HCI.out
          rw [show (wr.alloc (.cells #[.bool true, .int .i64 ce.id, .int .i64 ce.fr, .int .i64 (Edg.to ce), .int .i64 ce.lb] 98)).heap.size = wr.heap.size + 1 from by simp] at h1
          exact h1
        have hLN : ((L.take k).filter (fun c => c.ins)).length + [(⟨true, ce⟩ : Chg)].length ≤ 4194304 := by
          have h1 := List.length_filter_le (fun c => c.ins) (L.take k)
          rw [List.length_take] at h1
          simp only [List.length_cons, List.length_nil]; omega
        have HMa : Hid (OwnC w1.heap.size ((wr.alloc (.cells #[.bool true, .int .i64 ce.id, .int .i64 ce.fr, .int .i64 (Edg.to ce), .int .i64 ce.lb] 98)).alloc (.cells #[.bool true, .int .i64 ce.id, .int .i64 ce.fr, .int .i64 (Edg.to ce), .int .i64 ce.lb] 98)) (.slice eo ((L.take k).filter (fun c => c.ins)).length ec) ((L.take k).filter (fun c => c.ins))) := HE.out.since (hsb.alloc _)
        have HOa : Hid (OwnC w1.heap.size ((wr.alloc (.cells #[.bool true, .int .i64 ce.id, .int .i64 ce.fr, .int .i64 (Edg.to ce), .int .i64 ce.lb] 98)).alloc (.cells #[.bool true, .int .i64 ce.id, .int .i64 ce.fr, .int .i64 (Edg.to ce), .int .i64 ce.lb] 98)) (.slice dO ((L.take k).filter (fun c => !c.ins)).length dc) ((L.take k).filter (fun c => !c.ins))) := HD.out.since (hsb.alloc _)
        go_wp2_with (refine wpList_append_chgs (o := ⟨some 20, _, _, _, _, _⟩) rfl (.tmp 17) (.tmp 19) rfl w1.heap.size (.slice eo ((L.take k).filter (fun c => c.ins)).length ec) ((L.take k).filter (fun c => c.ins)) rfl HMa.out _ 1 1 rfl [⟨true, ce⟩] HLI.out hLN (by have := hsw.size; simp; omega) ?_; intro v3 w3 ho3 hg3 hb3)
        have HM3 : Hid (OwnC w1.heap.size w3 v3 ((L.take (k + 1)).filter (fun c => c.ins))) := by unfold Hid; rw [HKM.out]; exact ho3
        have HO3 : Hid (OwnC w1.heap.size w3 (.slice dO ((L.take k).filter (fun c => !c.ins)).length dc) ((L.take (k + 1)).filter (fun c => !c.ins))) := by
          unfold Hid; rw [HKO.out]
          refine ⟨HOa.out.1, row_keep HOa.out.2 (fun q hq => hg3.block q (HOa.out.2.lt q hq).2 (fun e => ?_))⟩
          rcases HSEP.out with h0 | h0
          · first | (rw [h0] at hq; cases hq) | (rw [h0] at e; cases e)
          · first | exact h0 (hq.trans e) | exact h0 (e.symm.trans hq.symm)
        have HS3 : Hid ((Value.slice dO ((L.take k).filter (fun c => !c.ins)).length dc).ownBlock = none ∨ (Value.slice dO ((L.take k).filter (fun c => !c.ins)).length dc).ownBlock ≠ v3.ownBlock) := by
          unfold Hid
          rcases hb3 with hb3 | hb3
          · rw [hb3]; exact HSEP.out
          · rw [hb3]
            cases hq : (Value.slice dO ((L.take k).filter (fun c => !c.ins)).length dc).ownBlock with
            | none => exact .inl rfl
            | some q =>
              have := (HD.out.2.lt q hq).2
              exact .inr (fun e => by injection e with e; simp at e; omega)
        have hs3 : Since w1 w3 := ((hsw.trans hsb).alloc _).grown hg3 (fun q hq => (HE.out.2.lt q hq).1)
        clear ho3 hg3 hb3 p0 p1 p2 p3 p4 d0 d1 d2 d3 d4 HD HE HMa HOa HSEP HLI
        generalize ((L.take k).filter (fun c => !c.ins)).length = q at HO3 HS3 ⊢
        go_wp2
        go_roundw
        case rel => exact ⟨k + 1, by omega, by go_num, HO3.out, HM3.out, HS3, hs3⟩
        case measure => simp [intOf]; omega
    · obtain rfl : k = m := by omega
      have hf1 : (L.take k) = L := List.take_of_length_le (by have := HM.out; omega)
      rw [hf1] at HD HE HSEP ⊢
      clear hf1
      have HL1 := Lib.hid (List.length_filter_le (fun c : Chg => !c.ins) L)
      have HL2 := Lib.hid (List.length_filter_le (fun c : Chg => c.ins) L)
      generalize L.filter (fun c => !c.ins) = D at HD HNB HL1 HSEP ⊢
      generalize L.filter (fun c => c.ins) = I at HE HNB HL2 HSEP ⊢
      clear HSEP
      have hal : Since wr (wr.alloc (.cells #[.slice dO D.length dc, .slice eo I.length ec] 27)) := (Since.refl wr).alloc _
      go_wp2_with fail
      refine (concat_any wr.heap.size _ _ D I _ (Blk.new rfl _ _) (HD.out.at.since hal) (HE.out.at.since hal) (by have := HL1.out; have := HM.out; omega) (by have := HL2.out; have := HM.out; omega)).mono ?_
      rintro en w6 ⟨v6, rfl, ho6, hs6⟩
      have HO6 := Lib.hid ho6
      obtain ⟨oo, oc, rfl⟩ := ho6.len
      clear ho6
      have hs16 := ((hs1.trans hsw).trans hal).trans hs6
      have hs06 := hs0.trans hs16
      have hz6 := hal.size
      have hz7 := hsw.size
      obtain ⟨r0, r1⟩ := (BR.out.since hs16).one
      rw [← HNB.out] at HO6 ⊢
      go_wp2_with fail
      refine bodyPost_ret (v := .agg #[.slice oo (netB xs).length oc]) (by simp [results, Try.results32, go_sem, *]) rfl ?_
      have HOZ := (HO6.out.far (p := ⟨w.heap.size + 1, 0, none⟩) (by show w.heap.size + 1 < _; omega) (.slice oo (netB xs).length oc)).mono (by omega : w.heap.size ≤ _)
      exact ⟨_, rfl, OwnB.mk HOZ, hs06.setCell (by simp) _⟩
end Go.Proofs.Ytgdeiecbkmhbeaa
