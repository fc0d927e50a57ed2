/- ParseGraph, the program's. -/
import Derived.Test.YtpmkpeclfhmhlaaDoorPgN
namespace Go.Proofs.YtpmkpeclfhmhlaaDoor
set_option maxRecDepth 100000
open Go.ChangeShapes Go.WideShapes Go.ChangeAt Go.RowKit
set_option linter.unusedVariables false
set_option linter.unusedSimpArgs false

set_option maxHeartbeats 4000000 in
set_option maxRecDepth 100000 in
theorem implPG_any (s p : ByteArray) (t : List ByteArray) (hpr : Lib.splitB sp 0 (min 14 (s.size + 1) - 1) s = p :: t) (w : World) (hs : s.size ≤ 1048576) (htab : Tab w) (hfm : Fmts w) (hml : MaxL w) :
    Calls Tryd.prog 19 #[.string s] w (GBOut w (pgG p t) (pgB p t)) := by
  have hs0 : Since w (w.alloc (.cells #[.slice none 0 0, .slice none 0 0] 40)) := (Since.refl w).alloc _
  have r0 : Hid (Blk (w.alloc (.cells #[.slice none 0 0, .slice none 0 0] 40)) w.heap.size 40 #[.slice none 0 0, .slice none 0 0]) := Blk.new rfl _ _
  have hps : p.size ≤ 1048576 := by have := (splitB_part (min 14 (s.size + 1) - 1) s).1 p (by rw [hpr]; simp); omega
  have HRS : Hid (∀ k (hk : k < t.length), t[k].size ≤ 1048576) := fun k hk => by have := (splitB_part (min 14 (s.size + 1) - 1) s).1 t[k] (by rw [hpr]; exact List.mem_cons_of_mem _ (List.getElem_mem hk)); omega
  have htl : t.length ≤ 13 := by
    have := Lib.splitB_length_le sp 0 (min 14 (s.size + 1) - 1) s
    rw [hpr, List.length_cons] at this; omega
  have HPE0 : Hid (∀ k (hk : k < t.length) W, Since w W → Calls Tryd.prog 11 #[.string t[k]] W fun en w' => en = .returned (.tuple #[ev (peO t[k]).1, .bool (peO t[k]).2]) ∧ Since W w') := fun k hk W hW => implPE_any t[k] W (HRS.out k hk) (htab.since hW) (hfm.since hW) (hml.since hW)
  obtain ⟨T, hT⟩ : ∃ T, T = t.length := ⟨_, rfl⟩
  rw [← hT] at htl
  have HC := Lib.hid (fun W (hW : Since w W) => splitN_at hpr T hT W hs (hml.since hW))
  have HT := Lib.hid hT
  clear hT hpr HRS htab hfm hml
  by_cases h5 : 5 < p.size
  · have HB := Lib.hid (pg_long (p := p) (r := t) (.inr h5))
    have h5i : (5 : Int) < (p.size : Int) := by omega
    go_enter Tryd.func19, Tryd.ntmps19
    go_wp2_with fail
    refine (HC.out _ hs0).mono ?_
    rintro en w1 ⟨g, cap, rfl, hcap, hs1, HG⟩
    have hs01 := hs0.trans hs1
    obtain ⟨g0, _⟩ := HG.out _ (Since.refl _)
    obtain ⟨a0, a1, a2, a3⟩ := (r0.out.since hs1).two
    have h0 : (0 : Int) < (T : Int) + 1 := by omega
    go_wp2_with fail
    refine bodyPost_ret (v := .tuple #[.agg #[.slice none 0 0, .slice none 0 0], .bool false]) (by simp [results, Tryd.results19, go_sem, *]) rfl ?_
    refine gbOut_mk HB.out (pg_no HB.out) ⟨fun x hx => by simp at hx, World.ownsRow_nil _ _ _ _⟩ ⟨fun x hx => by simp at hx, World.ownsRow_nil _ _ _ _⟩ ?_
    iterate 2 (with_reducible refine Since.setCell ?_ (by simp) _)
    exact hs01
  · have h5i : ¬ (5 : Int) < (p.size : Int) := by omega
    go_enter Tryd.func19, Tryd.ntmps19
    go_wp2_with fail
    refine (HC.out _ hs0).mono ?_
    rintro en w1 ⟨g, cap, rfl, hcap, hs1, HG⟩
    have hs01 := hs0.trans hs1
    obtain ⟨g0, _⟩ := HG.out _ (Since.refl _)
    have gy := (HG.out _ (((Since.refl w1).alloc (.cells #[.slice none 0 0, .slice none 0 0] 40)))).1
    have h0 : (0 : Int) < (T : Int) + 1 := by omega
    have r1 : Hid (Blk ((w1.alloc (.cells #[.slice none 0 0, .slice none 0 0] 40)).iter p 0) w.heap.size 40 #[.slice none 0 0, .slice none 0 0]) := ((r0.out.since hs1).alloc (.cells #[.slice none 0 0, .slice none 0 0] 40)).alloc (.stringIter p 0)
    have B1 : Hid (Blk ((w1.alloc (.cells #[.slice none 0 0, .slice none 0 0] 40)).iter p 0) w1.heap.size 40 #[.slice none 0 0, .slice none 0 0]) := (Blk.new rfl _ _).alloc _
    have hsy : Since w1 ((w1.alloc (.cells #[.slice none 0 0, .slice none 0 0] 40)).iter p 0) := ((Since.refl w1).alloc _).alloc _
    have hit0 : ((w1.alloc (.cells #[.slice none 0 0, .slice none 0 0] 40)).iter p 0).heap[w1.heap.size + 1]? = some (.stringIter p 0) := by
      have e : (w1.alloc (.cells #[.slice none 0 0, .slice none 0 0] 40)).heap.size = w1.heap.size + 1 := by simp
      rw [← e]; exact World.iter_heap _ p 0
    have hsz : ((w1.alloc (.cells #[.slice none 0 0, .slice none 0 0] 40)).iter p 0).heap.size = w1.heap.size + 2 := by
      show ((w1.alloc (.cells #[.slice none 0 0, .slice none 0 0] 40)).alloc (.stringIter p 0)).heap.size = w1.heap.size + 2
      simp
    have hRG := (r0.out.since hs1).lt
    obtain ⟨G, hG⟩ : ∃ G, G = w1.heap.size := ⟨_, rfl⟩
    have hwG : Hid (w.heap.size < G) := by unfold Hid; rw [hG]; exact hRG
    have hGG : Hid (w1.heap.size ≤ G) := by unfold Hid; omega
    rw [← hG] at B1 hsz hit0
    clear r0 hs0 hRG
    go_wp2_with fail
    rw [← hG]
    clear hG gy g0
    generalize ((w1.alloc (.cells #[.slice none 0 0, .slice none 0 0] 40)).iter p 0) = y at r1 B1 hsy hsz hit0 ⊢
    have hs0y := hs01.trans hsy
    have HKW : Hid (∀ W, Within G (G + 2) y W → Since w1 W) := fun W hW => Since.within hsy hGG.out hW
    have HRW : Hid (∀ W, Within G (G + 2) y W → Blk W w.heap.size 40 #[.slice none 0 0, .slice none 0 0]) := fun W hW => r1.out.within hW (.inl hwG.out)
    have HSW : Hid (∀ W, Within G (G + 2) y W → Since w W) := fun W hW => Since.within hs0y (by have := hwG.out; omega) hW
    have HG1 : Hid (∀ W, Within G (G + 2) y W → ∀ k (hk : k < t.length), W.cell? ⟨g, k + 1, none⟩ = some (.string t[k])) := fun W hW => (HG.out W (HKW.out W hW)).2
    clear HG HKW r1 hsy hs1 hs01 hs0y
    go_loopw [7] (fun rn wr => ∃ (k : Nat) (v : Value) (xs : List Int), xs.length ≤ k ∧ xs.length ≤ p.size ∧ wr.heap[G + 1]? = some (.stringIter p k) ∧ Hid (Own (G + 2) wr v xs) ∧ Hid (Blk wr G 40 #[v, .slice none 0 0]) ∧ Hid (Within G (G + 2) y wr) ∧ Hid (RunOk p k xs)) (fun _ wr => p.size - wr.iterPos (G + 1))
    case atStart => exact ⟨0, .slice none 0 0, [], Nat.le_refl _, Nat.zero_le _, hit0, ⟨fun x hx => by simp at hx, World.ownsRow_nil _ _ _ _⟩, B1.out, Within.refl _ _ _, .inl ⟨Nat.zero_le _, rfl⟩⟩
    case round =>
      obtain ⟨k, v, xs, hxk, hxp, hit, HO, HB, HW, HR⟩ := hrel
      by_cases hlt : k < p.size
      · obtain ⟨k', ru, hnx, hk', hru0, hru9, HR2⟩ : ∃ (k' : Nat) (ru : Int), (∀ ty, (Instr.next (.pointer (some ⟨G + 1, 0, none⟩)) true ty).run Tryd.prog wr = .ok (.tuple #[.bool true, .int .i64 k, .int .i32 ru]) (wr.iterAt (G + 1) p k')) ∧ k + 1 ≤ k' ∧ 0 ≤ ru ∧ ru ≤ 2147483647 ∧ Hid (RunOk p k' (xs ++ [ru - 48])) := by
          by_cases ha : p[k].toNat < 128
          · exact ⟨k + 1, (p[k].toNat : Int), fun ty => Lib.run_next_ascii_at wr (G + 1) p k ty hit hlt ha, Nat.le_refl _, by omega, by omega, run_ascii hlt HR.out⟩
          · have hdh := decode_high p k hlt (by omega)
            have hdl := decode_le p k
            exact ⟨k + (Utf8.decode p k).2, ((Utf8.decode p k).1 : Int), fun ty => Lib.run_next_any_at wr (G + 1) p k ty hit hlt, by omega, by omega, by omega, run_high hlt ha (by omega)⟩
        have HIT0 := Lib.hid hit
        have HIT1 := Lib.hid (Lib.iterAt_heap wr (G + 1) p k k' hit)
        have hwi := HW.out.iterAt (k := G + 1) (by omega) p k'
        have hbi := HB.out.iterAt (k := G + 1) (by omega) p k'
        have hoi := HO.out.iterAt (k := G + 1) (by omega) p k'
        have x32 : IntKind.i32.wrap (ru - 48) = ru - 48 := by rw [IntKind.wrap_i32]; omega
        have x64 : IntKind.i64.wrap (ru - 48) = ru - 48 := by rw [IntKind.wrap_i64]; omega
        have hxin : InI (ru - 48) := by unfold InI; omega
        obtain ⟨x, hx⟩ : ∃ x, ru - 48 = x := ⟨_, rfl⟩
        rw [hx] at x32 x64 hxin HR2
        generalize (wr.iterAt (G + 1) p k') = wi at hnx HIT1 hwi hbi hoi
        have hsb : Since wi (wi.alloc (.cells #[.int .i64 x] 3)) := (Since.refl wi).alloc _
        have HO5 := Lib.hid (hoi.since hsb)
        have HB5 := Lib.hid (hbi.since hsb)
        have HW5 := Lib.hid (hwi.trans (Within.of_since hsb))
        have HIB := Lib.hid (ints_one wi x hxin)
        have HI5 : Hid ((wi.alloc (.cells #[.int .i64 x] 3)).heap[G + 1]? = some (.stringIter p k')) := (hsb.block (G + 1) (heap_lt HIT1.out)).trans HIT1.out
        obtain ⟨q0, q1, q2, q3⟩ := hbi.two
        clear hit HO HB HW HR hwi hbi hoi hsb hxin
        go_wp2_with (at_builtin; go_must (refine wpList_append_ints rfl (.tmp 29) (.tmp 33) rfl (G + 2) v xs rfl HO5.out _ _ _ rfl [x] HIB.out (by simp; omega) (by have := HW5.out.size; omega) ?_); intro v3 w5 ho5 hg5 hb5; obtain ⟨n5, hn5⟩ : ∃ n, (xs ++ [x]).length = n := ⟨_, rfl⟩; obtain ⟨o5, c5, hv5⟩ := ho5.len; rw [hn5] at hv5; subst hv5; clear hn5; have hB6 := Lib.hid (Blk.grownP HB5.out hg5 (own_not HO5.out (by omega))); obtain ⟨z0, z1, z2, z3⟩ := hB6.out.two)
        have HB7 : Hid (Blk (w5.setCell ⟨G, 0, none⟩ (.slice o5 n5 c5)) G 40 #[.slice o5 n5 c5, .slice none 0 0]) := hB6.out.set 0 (.slice o5 n5 c5)
        have HW6 := within_grown HW5.out hg5 (fun i hi => by have := HO5.out.2.lt i hi; omega)
        have HW7 := Lib.hid (HW6.trans ((Within.cellP w5 ⟨G, 0, none⟩ (.slice o5 n5 c5)).mono (Nat.le_refl _) (by simp)))
        have HO7 := Lib.hid (ho5.far (p := ⟨G, 0, none⟩) (by simp) (.slice o5 n5 c5))
        have HI7 : Hid ((w5.setCell ⟨G, 0, none⟩ (.slice o5 n5 c5)).heap[G + 1]? = some (.stringIter p k')) := by
          refine (Below.heap_setCell w5 ⟨G, 0, none⟩ _ (G + 1) (by simp)).trans ((hg5.block (G + 1) (heap_lt HI5.out) (fun e => ?_)).trans HI5.out)
          have := HO5.out.2.lt (G + 1) e.symm; omega
        clear HW6 ho5 hg5 hb5 z0 z1 z2 z3
        go_roundw
        case rel => exact ⟨k', .slice o5 n5 c5, xs ++ [x], by simp; omega, by simp; omega, HI7.out, HO7.out, HB7.out, HW7.out, HR2.out⟩
        case measure => rw [iterPos_of HI7.out, iterPos_of HIT0.out]; omega
      · have hnx : ∀ ty, (Instr.next (.pointer (some ⟨G + 1, 0, none⟩)) true ty).run Tryd.prog wr = _ := fun ty => Lib.run_next_end_at wr (G + 1) p k ty hit hlt
        have HX := Lib.hid (run_end hlt HR.out)
        have HIT0 := Lib.hid hit
        have h1T : (1 : Int) ≤ (T : Int) + 1 := by omega
        have h1c : (1 : Int) ≤ (cap : Int) := by omega
        have h1d : 1 ≤ cap := by omega
        have hTc : T + 1 ≤ cap := hcap
        have hTci : (T : Int) + 1 ≤ (cap : Int) := by omega
        obtain ⟨A, hA⟩ : ∃ A, (if cap = 1 then (some ⟨g, 0, none⟩ : Option Addr) else some ⟨g, 1, none⟩) = A := ⟨_, rfl⟩
        have HAA := Lib.hid hA
        clear hit hlt hcap
        go_wp2_with fail
        clear hA hnx HR HIT0 hxk
        go_loopw [39] (fun i wr => ∃ (j : Nat) (v2 : Value), j ≤ T ∧ i = .int .i64 j ∧ Hid (OwnE (G + 2) wr v2 ((esOf t).take j)) ∧ Hid (Own (G + 2) wr v xs) ∧ Hid (Blk wr G 40 #[v, v2]) ∧ Hid (Within G (G + 2) y wr) ∧ Hid (okE (t.take j) = true)) (fun i _ => T - (intOf i).toNat)
        case atStart => exact ⟨0, .slice none 0 0, Nat.zero_le _, rfl, ⟨fun x hx => by simp at hx, World.ownsRow_nil _ _ _ _⟩, HO.out, HB.out, HW.out, rfl⟩
        case round =>
          clear HO HB HW
          obtain ⟨j, v2, hj, rfl, HE, HO, HB, HW, HOK⟩ := hrel
          by_cases hlt : j < T
          · have hjr : j < t.length := by have := HT.out; omega
            obtain rfl : A = some ⟨g, 1, none⟩ := by rw [← HAA.out]; exact if_neg (by omega)
            have hcell1 : wr.cell? ⟨g, j + 1, none⟩ = some (.string t[j]) := HG1.out wr HW.out j hjr
            have hcell2 : wr.cell? ⟨g, 1 + j, none⟩ = some (.string t[j]) := by rw [Nat.add_comm]; exact hcell1
            have HPE : Hid (∀ W, Since w W → Calls Tryd.prog 11 #[.string t[j]] W fun en w' => en = .returned (.tuple #[ev (peO t[j]).1, .bool (peO t[j]).2]) ∧ Since W w') := HPE0.out j hjr
            have HTK := Lib.hid (esOf_take j hjr)
            have HIN := Lib.hid (peO_in t[j])
            have HBD : Hid ((peO t[j]).2 = false → pgB p t = false) := fun h => pg_bad _ hjr h
            have HOK2 : Hid ((peO t[j]).2 = true → okE (t.take (j + 1)) = true) := fun h => okE_take _ hjr HOK.out h
            generalize (peO t[j]).2 = c at HPE HBD HOK2
            generalize (peO t[j]).1 = e at HPE HTK HIN
            unfold ev at HPE
            generalize t[j] = qq at HPE hcell1 hcell2
            have HSw := Lib.hid (HSW.out _ HW.out)
            clear HAA
            go_wp2_with fail
            refine (HPE.out _ HSw.out).mono ?_
            rintro en w3 ⟨rfl, hs3⟩
            have hE3 := HE.out.since (hs3.alloc (.cells #[.int .i64 e.id, .int .i64 e.fr, .int .i64 e.to, .int .i64 e.lb] 25))
            have hO3 := HO.out.since (hs3.alloc (.cells #[.int .i64 e.id, .int .i64 e.fr, .int .i64 e.to, .int .i64 e.lb] 25))
            have hB3 := HB.out.since (hs3.alloc (.cells #[.int .i64 e.id, .int .i64 e.fr, .int .i64 e.to, .int .i64 e.lb] 25))
            have hW3 := HW.out.trans (Within.of_since (hs3.alloc (.cells #[.int .i64 e.id, .int .i64 e.fr, .int .i64 e.to, .int .i64 e.lb] 25)))
            have hX3 : Blk (w3.alloc (.cells #[.int .i64 e.id, .int .i64 e.fr, .int .i64 e.to, .int .i64 e.lb] 25)) w3.heap.size 25 #[.int .i64 e.id, .int .i64 e.fr, .int .i64 e.to, .int .i64 e.lb] := Blk.new rfl _ _
            have HR3 := Lib.hid (HRW.out _ hW3)
            have HS3 := Lib.hid (HSW.out _ hW3)
            clear hcell1 hcell2 HE HO HB HW hs3
            rcases Bool.eq_false_or_eq_true c with rfl | rfl
            · obtain ⟨d0, d1, d2, d3, f0, f1, f2, f3⟩ := hX3.four
              obtain ⟨q0, q1, q2, q3⟩ := hB3.two
              have hibh := Lib.hid (edges_one (w3.alloc (.cells #[.int .i64 e.id, .int .i64 e.fr, .int .i64 e.to, .int .i64 e.lb] 25)) e HIN.out (w3.heap.size + 1) (by simp))
              have hE4h := Lib.hid (hE3.since ((Since.refl _).alloc (.cells #[.int .i64 e.id, .int .i64 e.fr, .int .i64 e.to, .int .i64 e.lb] 25)))
              have HOK6 := Lib.hid (HOK2.out rfl)
              have hO4 := Lib.hid (hO3.since ((Since.refl _).alloc (.cells #[.int .i64 e.id, .int .i64 e.fr, .int .i64 e.to, .int .i64 e.lb] 25)))
              have hB4 := Lib.hid (hB3.alloc (.cells #[.int .i64 e.id, .int .i64 e.fr, .int .i64 e.to, .int .i64 e.lb] 25))
              have hW4 := Lib.hid (hW3.trans (Within.of_since ((Since.refl _).alloc (.cells #[.int .i64 e.id, .int .i64 e.fr, .int .i64 e.to, .int .i64 e.lb] 25))))
              clear hX3 hE3 hO3 hB3 hW3
              go_wp2_with (at_builtin; go_must (refine wpList_append_edges rfl (.tmp 52) (.tmp 54) rfl (G + 2) v2 ((esOf t).take j) rfl hE4h.out _ _ _ rfl [e] hibh.out (by simp; omega) (by have := hW4.out.size; omega) ?_); intro v3 w5 ho5 hg5 hb5; rw [← HTK.out] at ho5; obtain ⟨n5, hn5⟩ : ∃ n, ((esOf t).take (j + 1)).length = n := ⟨_, rfl⟩; obtain ⟨o5, c5, hv5⟩ := ho5.len; rw [hn5] at hv5; subst hv5; clear hn5; have hB5 := Lib.hid (Blk.grownP hB4.out hg5 (ownE_not hE4h.out (by omega))); obtain ⟨z0, z1, z2, z3⟩ := hB5.out.two)
              have hW5 := within_grown hW4.out hg5 (fun i hi => by have := hE4h.out.2.lt i hi; omega)
              have hO5 := hO4.out.grownX hg5 (own_apart hO4.out hE4h.out)
              have HB6 : Hid (Blk (w5.setCell ⟨G, 1, none⟩ (.slice o5 n5 c5)) G 40 #[v, .slice o5 n5 c5]) := hB5.out.set 1 (.slice o5 n5 c5)
              have HW6 := Lib.hid (hW5.trans ((Within.cellP w5 ⟨G, 1, none⟩ (.slice o5 n5 c5)).mono (Nat.le_refl _) (by simp)))
              have HO6 := Lib.hid (hO5.far (p := ⟨G, 1, none⟩) (by simp) (.slice o5 n5 c5))
              have HE6 := Lib.hid (ho5.far (p := ⟨G, 1, none⟩) (by simp) (.slice o5 n5 c5))
              clear hW5 hO5 ho5 hg5 hb5 z0 z1 z2 z3
              go_roundw
              case rel => exact ⟨j + 1, .slice o5 n5 c5, by omega, by go_num, HE6.out, HO6.out, HB6.out, HW6.out, HOK6.out⟩
              case measure => simp [intOf]; omega
            · have HBD2 := Lib.hid (HBD.out rfl)
              obtain ⟨a0, a1, a2, a3⟩ := HR3.out.two
              clear hX3 hE3 hO3 hB3 hW3
              go_wp2_with fail
              refine bodyPost_ret (v := .tuple #[.agg #[.slice none 0 0, .slice none 0 0], .bool false]) (by simp [results, Tryd.results19, go_sem, *]) rfl ?_
              refine gbOut_mk HBD2.out (pg_no HBD2.out) ⟨fun x hx => by simp at hx, World.ownsRow_nil _ _ _ _⟩ ⟨fun x hx => by simp at hx, World.ownsRow_nil _ _ _ _⟩ ?_
              iterate 2 (with_reducible refine Since.setCell ?_ (by simp) _)
              exact HS3.out
          · obtain rfl : j = T := by omega
            have HOKt : okE t = true := by have := HOK.out; rwa [List.take_of_length_le (by have := HT.out; omega)] at this
            have HRD := Lib.hid (pg_read HX.out t HOKt)
            have HEb : Hid (OwnE (G + 2) wr v2 (esOf t)) := by have := HE.out; rw [List.take_of_length_le (by rw [esOf_length]; have := HT.out; omega)] at this; exact this
            have hl1 : xs.length ≤ 1048577 := by omega
            have hl2 : (esOf t).length ≤ 1048577 := by rw [esOf_length]; have := HT.out; omega
            have HVG : Hid (∀ W, Since wr W → Calls Tryd.prog 39 #[.agg #[v, v2]] W fun en w' => en = .returned (.bool (pgB p t)) ∧ Since W w') := fun W hW => by
              have := implVG_any (.agg #[v, v2]) ⟨xs, esOf t⟩ W ⟨v, v2, rfl, HO.out.at.since hW, HEb.out.at.since hW⟩ hl1 hl2
              rw [HRD.out.1] at this; exact this
            obtain ⟨n1, hn1⟩ : ∃ n, xs.length = n := ⟨_, rfl⟩
            obtain ⟨n2, hn2⟩ : ∃ n, (esOf t).length = n := ⟨_, rfl⟩
            obtain ⟨o1, c1, hv1⟩ := HO.out.len
            obtain ⟨o2, c2, hv2⟩ := HEb.out.len
            rw [hn1] at hv1
            rw [hn2] at hv2
            subst hv1 hv2
            clear hn1 hn2 HOKt
            obtain ⟨q0, q1, q2, q3⟩ := HB.out.two
            clear hlt hj HE
            go_wp2_with fail
            refine (HVG.out _ (Since.refl _)).mono ?_
            rintro en w6 ⟨rfl, hs6⟩
            clear q0 q1 q2 q3
            obtain ⟨q0, q1, q2, q3⟩ := (HB.out.since hs6).two
            obtain ⟨a0, a1, a2, a3⟩ := ((HRW.out _ HW.out).since hs6).two
            have HS6 := Lib.hid ((HSW.out _ HW.out).trans hs6)
            have HO6 := Lib.hid (HO.out.since hs6)
            have HE6 := Lib.hid (HEb.out.since hs6)
            rcases Bool.eq_false_or_eq_true (pgB p t) with hpb | hpb
            · have HP := Lib.hid hpb
              rw [hpb]
              clear hpb
              go_wp2_with fail
              refine bodyPost_ret (v := .tuple #[.agg #[.slice o1 n1 c1, .slice o2 n2 c2], .bool true]) (by simp [results, Tryd.results19, go_sem, *]) rfl ?_
              have hwg := hwG.out
              refine gbOut_mk HP.out (HRD.out.2 HP.out) (((HO6.out.far (by simp; omega) _).far (by simp; omega) _).mono (by omega)) (((HE6.out.far (by simp; omega) _).far (by simp; omega) _).mono (by omega)) ?_
              iterate 2 (with_reducible refine Since.setCell ?_ (by simp) _)
              exact HS6.out
            · have HP := Lib.hid hpb
              rw [hpb]
              clear hpb
              go_wp2_with fail
              refine bodyPost_ret (v := .tuple #[.agg #[.slice none 0 0, .slice none 0 0], .bool false]) (by simp [results, Tryd.results19, go_sem, *]) rfl ?_
              refine gbOut_mk HP.out (pg_no HP.out) ⟨fun x hx => by simp at hx, World.ownsRow_nil _ _ _ _⟩ ⟨fun x hx => by simp at hx, World.ownsRow_nil _ _ _ _⟩ ?_
              iterate 2 (with_reducible refine Since.setCell ?_ (by simp) _)
              exact HS6.out
end Go.Proofs.YtpmkpeclfhmhlaaDoor
