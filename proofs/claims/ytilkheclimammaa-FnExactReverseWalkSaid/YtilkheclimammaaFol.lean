/- The program's follow: the traversals of a walk's steps, one after the other. -/
import Derived.Test.YtilkheclimammaaWkM
namespace Go.Proofs.Ytilkheclimammaa
set_option maxRecDepth 100000
open Go.ChangeShapes Go.WideShapes Go.ChangeAt Go.RowKit
set_option linter.unusedVariables false
set_option linter.unusedSimpArgs false

theorem ownT_not {base : Nat} {w : World} {v : Value} {xs : List Trv} (h : OwnT base w v xs) {p : Addr} (hp : v.ownBlock ≠ some p.block) (u : Value) : OwnT base (w.setCell p u) v xs := by
  obtain ⟨h2, h3⟩ := h
  refine ⟨h2, ?_⟩
  rcases h3 with h3 | ⟨g, cap, cur, rfl, b, c, d⟩
  · exact .inl h3
  · refine .inr ⟨g, cap, cur, rfl, b, (Below.heap_setCell w p u g (fun e => hp (by rw [e]; rfl))).trans c, d⟩
theorem Blk.grw {w w' : World} {g : Nat} {t : TypeId} {cs : Array Value} {row : Option Nat} (h : Blk w g t cs) (k : w.grownBy w' row) (hd : some g ≠ row) : Blk w' g t cs := (k.block g h.lt hd).trans h
/-- append of one traversal onto traversals of the call's own. -/
theorem wpList_append_trv {base : Nat} {wr : World} {ops : Array Oper} {rest : List Oper} {o : Oper} {a : Act} {Q : Exit → Act → World → Prop} (hgd : o.guard = none) (s x : Operand)
    (ho : o.op = .call { callee := .builtin .append, args := #[s, x], argTypes := #[73, 73] }) (v : Value) (xs : List Trv) (hs : a.eval s = v) (hown : OwnT base wr v xs)
    (t : Trv) (hx : a.eval x = .slice (some ⟨wr.heap.size, 0, none⟩) 1 1) (hlen : xs.length ≤ 1048577) (hb : base ≤ wr.heap.size)
    (h : ∀ v' w', OwnT base w' v' (xs ++ [t]) → (wr.alloc (.cells #[.int .i64 t.id, .bool t.inv, .int .i64 t.fr, .int .i64 t.dst, .int .i64 t.le] 77)).grownBy w' v.ownBlock → wpList Try.prog ops Q rest (a.put o.dst v') w') :
    wpList Try.prog ops Q (o :: rest) a (wr.alloc (.cells #[.int .i64 t.id, .bool t.inv, .int .i64 t.fr, .int .i64 t.dst, .int .i64 t.le] 77)) := by
  obtain ⟨i0, hi, hz0, hz1, hz2⟩ := info_parts info_trv
  have hown' : OwnT base (wr.alloc (.cells #[.int .i64 t.id, .bool t.inv, .int .i64 t.fr, .int .i64 t.dst, .int .i64 t.le] 77)) v xs := hown.since ((Since.refl wr).alloc _)
  have hB : Blk (wr.alloc (.cells #[.int .i64 t.id, .bool t.inv, .int .i64 t.fr, .int .i64 t.dst, .int .i64 t.le] 77)) wr.heap.size 77 #[.int .i64 t.id, .bool t.inv, .int .i64 t.fr, .int .i64 t.dst, .int .i64 t.le] := Blk.new rfl _ _
  refine wpList_append_own _ hgd s x 73 ho base 77 i0 (tv zeroT) 5 40 Try.underlying73 hi hz0 hz1 hz2 rfl (by decide) v xs.length (tcells xs) hs hown' ⟨wr.heap.size, 0, none⟩ 1 1 (tcells [t]) hx rfl ?_ (tcells_oneCell _) (by unfold maxLen; omega) (by omega) (Nat.le_trans hb ((Since.refl wr).alloc _).size) ?_
  · intro j u hj
    rw [add_plain, Nat.zero_add, hB.cell, ← hj, ← Array.getElem?_toList]; rfl
  · intro v' w' h1 h2 _
    refine h v' w' ?_ h2
    show w'.ownsRow _ _ _ _ (xs ++ [t]).length (tcells (xs ++ [t]))
    rw [List.length_append, tcells_append]
    exact h1
theorem folC_any (t : Trv) (s : Stp) (x : Int) (BS BN : Nat) (w : World) (hS : Blk w BS 33 #[.int .i64 s.id, .bool s.inv]) (hN : Blk w BN 3 #[.int .i64 x]) :
    Calls Try.prog 108 #[.agg #[.int .i64 t.id, .bool t.inv, .int .i64 t.fr, .int .i64 t.dst, .int .i64 t.le], .pointer (some ⟨BS, 0, none⟩), .pointer (some ⟨BN, 0, none⟩)] w fun en w' => en = .returned (.bool (!kpN x s t)) ∧ Since w w' := by
  have hs0 : Since w (w.alloc (.cells #[.int .i64 t.id, .bool t.inv, .int .i64 t.fr, .int .i64 t.dst, .int .i64 t.le] 77)) := (Since.refl w).alloc _
  have hge := guard_step
  obtain ⟨p0, p1, _, _⟩ := (hS.alloc (.cells #[.int .i64 t.id, .bool t.inv, .int .i64 t.fr, .int .i64 t.dst, .int .i64 t.le] 77)).two
  obtain ⟨q0, _⟩ := (hN.alloc (.cells #[.int .i64 t.id, .bool t.inv, .int .i64 t.fr, .int .i64 t.dst, .int .i64 t.le] 77)).one
  clear hS hN
  by_cases he : t.st = s
  · have hnq : ∀ W : World, (binOp .eql 33 (sv t.st) (sv s)).run Try.prog W = .ok (.bool true) W := fun W => by rw [eql_step, decide_eq_true he]
    unfold sv Trv.st at hnq
    have HK : Hid ((t.fr == x) = !kpN x s t) := by unfold Hid kpN; simp [he]
    clear he
    go_enter Try.func108, Try.ntmps108
    go_wp2
    go_ret
    exact ⟨ret_bool HK.out, hs0⟩
  · have hnq : ∀ W : World, (binOp .eql 33 (sv t.st) (sv s)).run Try.prog W = .ok (.bool false) W := fun W => by rw [eql_step, decide_eq_false he]
    unfold sv Trv.st at hnq
    have HK : Hid (false = !kpN x s t) := by unfold Hid kpN; simp [he]
    clear he
    go_enter Try.func108, Try.ntmps108
    go_wp2
    go_ret
    exact ⟨ret_bool HK.out, hs0⟩
set_option maxRecDepth 100000 in
theorem indexN_any (v : Value) (xs : List Trv) (s : Stp) (x : Int) (BS BN : Nat) (w : World) (h : TrvsAt w v xs) (hS : Blk w BS 33 #[.int .i64 s.id, .bool s.inv]) (hN : Blk w BN 3 #[.int .i64 x]) (h2 : xs.length ≤ 2097154) :
    Calls Try.prog 107 #[v, .func (.func 108) #[] #[.pointer (some ⟨BS, 0, none⟩), .pointer (some ⟨BN, 0, none⟩)]] w fun e w' => e = .returned (.int .i64 (idxP (kpN x s) xs)) ∧ Since w w' := by
  obtain ⟨bo, bc, rfl, HE⟩ := h
  obtain ⟨m, hm⟩ : ∃ m, m = xs.length := ⟨_, rfl⟩
  rw [← hm]
  have hm9 : m ≤ 2097154 := by omega
  have HM := Lib.hid hm
  have HS := Lib.hid hS
  have HN := Lib.hid hN
  clear hm h2 hS hN
  go_enter Try.func107, Try.ntmps107
  go_wp2
  go_loopw [8] (fun i wr => ∃ k : Nat, k ≤ m ∧ i = .int .i64 k ∧ Hid (allTo (kpN x s) xs k) ∧ Since w wr) (fun i _ => m - (intOf i).toNat)
  case atStart => exact ⟨0, Nat.zero_le _, rfl, allTo_zero _ _, Since.refl _⟩
  case round =>
    obtain ⟨k, hk, rfl, HT, hs⟩ := hrel
    by_cases hlt : k < m
    · have hx : k < xs.length := by have := HM.out; omega
      obtain ⟨be, oe, rfl, hbe, d0, d1, d2, d3, d4⟩ := HE.out k hx
      have s1 := since_cells hs hbe
      rw [← s1] at d0 d1 d2 d3 d4
      clear s1
      rcases Bool.eq_false_or_eq_true (kpN x s xs[k]) with he | he
      · have HX := Lib.hid (allTo_step hx HT.out he)
        have hb0 : (!kpN x s xs[k]) = false := by rw [he]; rfl
        clear he
        go_wp2_with fail
        refine (folC_any xs[k] s x BS BN _ (HS.out.since hs) (HN.out.since hs)).mono ?_
        rintro e w1 ⟨rfl, hs1⟩
        rw [hb0]
        have hs2 := hs.trans hs1
        go_wp2
        go_roundw
        case rel => exact ⟨k + 1, by omega, by go_num, HX, hs2⟩
        case measure => simp [intOf]; omega
      · have HX := Lib.hid (idxP_at hx HT.out he)
        have hb0 : (!kpN x s xs[k]) = true := by rw [he]; rfl
        clear he
        go_wp2_with fail
        refine (folC_any xs[k] s x BS BN _ (HS.out.since hs) (HN.out.since hs)).mono ?_
        rintro e w1 ⟨rfl, hs1⟩
        rw [hb0]
        have hs2 := hs.trans hs1
        go_wp2
        go_ret
        exact ⟨ret_int HX.out.symm, hs2⟩
    · obtain rfl : k = m := by omega
      have HX : Hid (idxP (kpN x s) xs = -1) := idxP_none (by rw [← HM.out]; exact HT.out)
      go_wp2
      go_ret
      exact ⟨ret_int HX.out.symm, hs⟩
def FolOut (w : World) (o : Option (List Trv)) (e : Ending) (w' : World) : Prop := ∃ b, e = .returned (.tuple #[b, .bool o.isSome]) ∧ OwnT w.heap.size w' b (o.getD []) ∧ Since w w'
theorem folOut_none {w w' : World} {o : Option (List Trv)} (h : o = none) (hs : Since w w') : FolOut w o (.returned (.tuple #[.slice none 0 0, .bool false])) w' := by
  subst h; exact ⟨_, rfl, World.ownsRow_nil _ _ _ _, hs⟩
set_option maxHeartbeats 2000000 in
set_option maxRecDepth 100000 in
theorem follow_any (v u : Value) (g : Grf) (x : Wlk) (w : World) (h : GrfAt w v g) (hu : WlkAt w u x) (h1 : g.vs.length ≤ 1048577) (h2 : g.es.length ≤ 1048577) (h3 : x.ss.length ≤ 1048577) :
    Calls Try.prog 77 #[v, u] w (FolOut w (folG g x)) := by
  have HG := Lib.hid h
  obtain ⟨a, b, rfl, ha, hb⟩ := h
  obtain ⟨ao, ac, rfl, _⟩ := ha.row
  obtain ⟨bo, bc, rfl⟩ := hb.len
  obtain ⟨so, rfl, hss⟩ := hu
  obtain ⟨sao, sac, rfl, HS⟩ := hss
  clear ha hb
  obtain ⟨n, hn⟩ : ∃ n, n = g.vs.length := ⟨_, rfl⟩
  obtain ⟨m, hm⟩ : ∃ m, m = g.es.length := ⟨_, rfl⟩
  obtain ⟨q, hq⟩ : ∃ q, q = x.ss.length := ⟨_, rfl⟩
  rw [← hn, ← hm] at HG ⊢
  rw [← hq]
  have HNV := Lib.hid hn
  have HQ := Lib.hid hq
  have hq9 : q ≤ 1048577 := by omega
  clear hn hm hq h3
  have hs0 : Since w ((w.alloc (.cells #[.slice ao n ac, .slice bo m bc] 27)).alloc (.cells #[.int .i64 x.st, .slice sao q sac] 53)) := ((Since.refl w).alloc _).alloc _
  have BG : Hid (Blk ((w.alloc (.cells #[.slice ao n ac, .slice bo m bc] 27)).alloc (.cells #[.int .i64 x.st, .slice sao q sac] 53)) w.heap.size 27 #[.slice ao n ac, .slice bo m bc]) := (Blk.new rfl _ _).alloc _
  have BW : Hid (Blk ((w.alloc (.cells #[.slice ao n ac, .slice bo m bc] 27)).alloc (.cells #[.int .i64 x.st, .slice sao q sac] 53)) (w.heap.size + 1) 53 #[.int .i64 x.st, .slice sao q sac]) := Blk.new (by simp) _ _
  rcases Bool.eq_false_or_eq_true (validB g) with hv | hv
  · have HV := Lib.hid hv
    rcases Bool.eq_false_or_eq_true (inB x.st 0 ((n : Int) - 1)) with hb | hb
    · have HB := Lib.hid hb
      by_cases hl : q ≤ 60
      · have HF : Hid (folG g x = fol (trvF g.es) x.st x.ss) := folG_in hv (by rw [← HNV.out]; exact hb) (by rw [← HQ.out]; exact hl)
        have HT : Hid (travG g = travL g.es) := by unfold Hid travG; rw [if_pos hv]
        have HTL : Hid ((travL g.es).length ≤ 2097154) := by unfold Hid; rw [travL_length]; omega
        obtain ⟨i0, hi, hz0, hz1, hz2⟩ := info_parts info_trv
        have HZ2 := Lib.hid hz2
        clear hz2 hv hb
        go_enter Try.func77, Try.ntmps77
        go_wp2_with fail
        refine (implVG_any _ g _ (HG.out.since hs0) h1 h2).mono ?_
        rintro en w1 ⟨rfl, hs1⟩
        rw [HV.out]
        have hs01 := hs0.trans hs1
        have bg1 := Lib.hid (BG.out.since hs1)
        have bw1 := Lib.hid (BW.out.since hs1)
        obtain ⟨p0, p1, _, _⟩ := bg1.out.two
        obtain ⟨r0, r1, _, _⟩ := bw1.out.two
        go_wp2_with fail
        refine (isNode_any _ n _).mono ?_
        rintro en w1' ⟨rfl, rfl⟩
        rw [HB.out]
        go_wp2_with fail
        clear p0 p1 r0 r1
        refine (trav_any _ g _ (HG.out.since hs01) h1 h2).mono ?_
        rintro en w2 ⟨v2, rfl, ho2, hs2⟩
        rw [HT.out] at ho2
        have hs02 := hs01.trans hs2
        have HTR := Lib.hid ho2.at
        obtain ⟨xo, xc, rfl, HX⟩ := ho2.at
        have bw2 := Lib.hid (bw1.out.since hs2)
        obtain ⟨r0, r1, _, _⟩ := bw2.out.two
        obtain ⟨tl, htl⟩ : ∃ tl, tl = (travL g.es).length := ⟨_, rfl⟩
        rw [← htl] at HTR HTL ⊢
        have HTLE := Lib.hid htl
        have htl9 : tl ≤ 2097154 := HTL.out
        clear htl ho2 BG BW bg1 bw1
        go_wp2_with (at_make; go_must (refine wpList_make_own _ rfl _ _ 73 rfl w2.heap.size 77 i0 (tv zeroT) 5 Try.underlying73 hi hz0 hz1 .i64 .i64 _ q rfl rfl (by omega) (by rw [HZ2.out]; omega) (by unfold maxLen; omega) (Nat.le_refl _) ?_); intro w3 hown hgrow; have hs3 : Since w2 w3 := (Since.refl w2).grown hgrow (fun _ h => by simp at h); obtain ⟨r2, r3, _, _⟩ := (bw2.out.since hs3).two; obtain ⟨r4, r5, _, _⟩ := ((bw2.out.since hs3).alloc (.cells #[.int .i64 x.st] 3)).two)
        have hown0 : OwnT w2.heap.size w3 _ [] := hown
        have HON := Lib.hid (hown0.since ((Since.refl w3).alloc (.cells #[.int .i64 x.st] 3)))
        have BN : Hid (Blk (w3.alloc (.cells #[.int .i64 x.st] 3)) w3.heap.size 3 #[.int .i64 x.st]) := Blk.new rfl _ _
        have hsy := hs3.alloc (.cells #[.int .i64 x.st] 3)
        have hNB := hs3.size
        clear r0 r1 r2 r3 r4 r5 hown hown0 hgrow
        go_loopw [7, 41] (fun fo i wr => ∃ (k : Nat) (ts : List Trv), k ≤ q ∧ i = .int .i64 k ∧ Hid (fol (trvF g.es) x.st (x.ss.take k) = some ts) ∧ Hid (OwnT w2.heap.size wr fo ts) ∧ Hid (Blk wr w3.heap.size 3 #[.int .i64 (endT x.st ts)]) ∧ Since w2 wr) (fun _ i _ => q - (intOf i).toNat)
        case atStart => exact ⟨0, [], Nat.zero_le _, rfl, rfl, HON.out, BN.out, hsy⟩
        case round =>
          obtain ⟨k, ts, hk, rfl, HFO, HOw, HBN, hsw⟩ := hrel
          have hs0w := hs02.trans hsw
          by_cases hlt : k < q
          · have hx : k < x.ss.length := by have := HQ.out; omega
            obtain ⟨be, oe, rfl, hbe, d0, d1⟩ := HS.out k hx
            have s1 := since_cells hs0w hbe
            rw [← s1] at d0 d1
            clear s1
            have HS0 : Hid (Blk (wr.alloc (.cells #[.int .i64 x.ss[k].id, .bool x.ss[k].inv] 33)) wr.heap.size 33 #[.int .i64 x.ss[k].id, .bool x.ss[k].inv]) := Blk.new rfl _ _
            have hsa : Since wr (wr.alloc (.cells #[.int .i64 x.ss[k].id, .bool x.ss[k].inv] 33)) := (Since.refl wr).alloc _
            have HNL : Hid (ts.length ≤ 1048577) := by have := fol_ends _ HFO.out (by omega); unfold Hid; omega
            rcases idxP_cases (kpN (endT x.st ts) x.ss[k]) (travL g.es) with ⟨hi0, _⟩ | ⟨j, hj, hi0, _, _⟩
            · have HI0 := Lib.hid hi0
              have HFN : Hid (folG g x = none) := HF.out.trans (fol_stop _ hx HFO.out (trvF_miss hi0))
              clear hi0
              go_wp2_with fail
              refine (indexN_any _ (travL g.es) x.ss[k] (endT x.st ts) wr.heap.size w3.heap.size _ (HTR.out.since (hsw.trans hsa)) HS0.out (HBN.out.since hsa) (by rw [← HTLE.out]; exact htl9)).mono ?_
              rintro en w5 ⟨rfl, hs5⟩
              rw [HI0.out]
              have hs05 := (hs0w.trans hsa).trans hs5
              go_wp2
              go_ret2
              exact folOut_none HFN.out hs05
            · have HI0 := Lib.hid hi0
              have HHIT := Lib.hid (trvF_hit hj hi0)
              have hjt : j < tl := by have := HTLE.out; omega
              obtain ⟨bx, ox, rfl, hbx, c0, c1, c2, c3, c4⟩ := HX.out j hj
              obtain ⟨t, ht⟩ : ∃ t, t = (travL g.es)[j] := ⟨_, rfl⟩
              rw [← ht] at c0 c1 c2 c3 c4 HHIT
              have HFS := Lib.hid (fol_step _ hx HFO.out HHIT.out)
              have HXC : Hid (∀ W, Since w2 W → W.cell? ⟨bx, ox + j * 5, none⟩ = some (.int .i64 t.id) ∧ W.cell? ⟨bx, ox + j * 5 + 1, none⟩ = some (.bool t.inv) ∧ W.cell? ⟨bx, ox + j * 5 + 2, none⟩ = some (.int .i64 t.fr) ∧ W.cell? ⟨bx, ox + j * 5 + 3, none⟩ = some (.int .i64 t.dst) ∧ W.cell? ⟨bx, ox + j * 5 + 4, none⟩ = some (.int .i64 t.le)) := fun W hW => by
                have s1 := since_cells hW hbx
                rw [s1, s1, s1, s1, s1]; exact ⟨c0, c1, c2, c3, c4⟩
              have jj0 : (0 : Int) ≤ (j : Int) := by omega
              have jj1 : (j : Int) < (tl : Int) := by omega
              clear hi0 ht c0 c1 c2 c3 c4
              go_wp2_with fail
              refine (indexN_any _ (travL g.es) x.ss[k] (endT x.st ts) wr.heap.size w3.heap.size _ (HTR.out.since (hsw.trans hsa)) HS0.out (HBN.out.since hsa) (by rw [← HTLE.out]; exact htl9)).mono ?_
              rintro en w5 ⟨rfl, hs5⟩
              rw [HI0.out]
              have hsa5 := hsa.trans hs5
              have hs25 := hsw.trans hsa5
              have hz5 : w2.heap.size ≤ w5.heap.size := hs25.size
              have HO5 := Lib.hid (HOw.out.since hsa5)
              have BN5 := Lib.hid ((HBN.out.since hsa5).alloc (.cells #[.int .i64 t.id, .bool t.inv, .int .i64 t.fr, .int .i64 t.dst, .int .i64 t.le] 77))
              have HNE : Hid (some w3.heap.size ≠ u7.ownBlock) := fun e => other_type HO5.out (HBN.out.since hsa5) (by decide) e.symm
              obtain ⟨c0, c1, c2, c3, c4⟩ := HXC.out w5 hs25
              clear d0 d1
              go_wp2_with (at_builtin; (with_reducible refine wpList_append_trv (o := ⟨some 56, _, _, _, _, _⟩) rfl (.tmp 50) (.tmp 55) rfl _ ts (by first | rfl | simp [Act.eval]) HO5.out t (by first | rfl | simp [Act.eval]) HNL.out hz5 ?_); intro v6 w6 ho6 hg6; have hs26 := (hs25.alloc (.cells #[.int .i64 t.id, .bool t.inv, .int .i64 t.fr, .int .i64 t.dst, .int .i64 t.le] 77)).grown hg6 (fun k hk => (HO5.out.lt k hk).1); have BN6 := Lib.hid (BN5.out.grw hg6 HNE.out); have HO6 := Lib.hid ho6; obtain ⟨e0, e1, e2, e3, e4⟩ := HXC.out w6 hs26; obtain ⟨f0, f1⟩ := BN6.out.one; clear ho6 hg6)
              have HO7 := Lib.hid (ownT_not HO6.out (p := ⟨w3.heap.size, 0, none⟩) (other_type HO6.out BN6.out (by decide)) (.int .i64 t.dst))
              have BN7 : Hid (Blk (w6.setCell ⟨w3.heap.size, 0, none⟩ (.int .i64 t.dst)) w3.heap.size 3 #[.int .i64 (endT x.st (ts ++ [t]))]) := by
                unfold Hid
                rw [endT_snoc]
                exact BN6.out.set 0 (.int .i64 t.dst)
              go_roundw
              case rel => exact ⟨k + 1, ts ++ [t], by omega, by go_num, HFS.out, HO7.out, BN7.out, hs26.setCell hNB _⟩
              case measure => simp [intOf]; omega
          · obtain rfl : k = q := by omega
            have HFE : Hid (folG g x = some ts) := HF.out.trans (fol_done _ HQ.out HFO.out)
            go_wp2
            go_ret2
            exact ⟨_, by rw [HFE.out]; rfl, by rw [HFE.out]; exact HOw.out.mono hs02.size, hs0w⟩
      · have HF := Lib.hid (folG_long (g := g) (x := x) (by rw [← HQ.out]; omega))
        clear hv hb
        go_enter Try.func77, Try.ntmps77
        go_wp2_with fail
        refine (implVG_any _ g _ (HG.out.since hs0) h1 h2).mono ?_
        rintro en w1 ⟨rfl, hs1⟩
        rw [HV.out]
        have hs01 := hs0.trans hs1
        obtain ⟨p0, p1, _, _⟩ := (BG.out.since hs1).two
        obtain ⟨r0, r1, _, _⟩ := (BW.out.since hs1).two
        go_wp2_with fail
        refine (isNode_any _ n _).mono ?_
        rintro en w1' ⟨rfl, rfl⟩
        rw [HB.out]
        go_wp2
        go_ret2
        exact folOut_none HF.out hs01
    · have HB := Lib.hid hb
      have HF := Lib.hid (folG_out (g := g) (x := x) (by rw [← HNV.out]; exact hb))
      clear hv hb
      go_enter Try.func77, Try.ntmps77
      go_wp2_with fail
      refine (implVG_any _ g _ (HG.out.since hs0) h1 h2).mono ?_
      rintro en w1 ⟨rfl, hs1⟩
      rw [HV.out]
      have hs01 := hs0.trans hs1
      obtain ⟨p0, p1, _, _⟩ := (BG.out.since hs1).two
      obtain ⟨r0, r1, _, _⟩ := (BW.out.since hs1).two
      go_wp2_with fail
      refine (isNode_any _ n _).mono ?_
      rintro en w1' ⟨rfl, rfl⟩
      rw [HB.out]
      go_wp2
      go_ret2
      exact folOut_none HF.out hs01
  · have HV := Lib.hid hv
    have HF := Lib.hid (folG_inval (x := x) hv)
    clear hv
    go_enter Try.func77, Try.ntmps77
    go_wp2_with fail
    refine (implVG_any _ g _ (HG.out.since hs0) h1 h2).mono ?_
    rintro en w1 ⟨rfl, hs1⟩
    rw [HV.out]
    have hs01 := hs0.trans hs1
    go_wp2
    go_ret2
    exact folOut_none HF.out hs01
end Go.Proofs.Ytilkheclimammaa
