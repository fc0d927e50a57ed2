/- l13Pairs, the model's: the automaton of two side by side. -/
import Derived.Test.YtmaagihfjldgeaaTrN
import Derived.Test.YtmaagihfjldgeaaNgM
import Derived.Test.YtmaagihfjldgeaaLwN
import Derived.Test.YtmaagihfjldgeaaMsM
import Derived.BigQuiet
import Derived.Deep.QuietTactic
import Derived.StillTailTactics
import Derived.Test.YtmaagihfjldgeaaK1
namespace Go.Proofs.Ytmaagihfjldgeaa
set_option maxRecDepth 100000
open Go.ChangeShapes Go.WideShapes Go.ChangeAt Go.RowKit Go.Maps
set_option linter.unusedVariables false
set_option linter.unusedSimpArgs false

/-- What the model's numbers for the operations mean. -/
def opI (op : Int) : Bool → Bool → Bool := if op = 1 then opAnd else if op = 2 then opOr else opMinus
set_option maxRecDepth 100000 in
theorem op13_any (op : Int) (x y : Bool) (w : World) : Calls Try.prog 181 #[.int .i64 op, .bool x, .bool y] w fun e w' => e = .returned (.bool (opI op x y)) ∧ Since w w' := by
  by_cases h1 : op = 1
  · subst h1
    cases x <;> cases y
    all_goals
      go_enter Try.func181, Try.ntmps181
      go_wp2
      go_ret
      exact ⟨rfl, Since.refl _⟩
  · by_cases h2 : op = 2
    · subst h2
      cases x <;> cases y
      all_goals
        go_enter Try.func181, Try.ntmps181
        go_wp2
        go_ret
        exact ⟨rfl, Since.refl _⟩
    · have e1 : (op == 1) = false := by simpa using h1
      have e2 : (op == 2) = false := by simpa using h2
      have HO : Hid (opI op = opMinus) := by unfold Hid opI; rw [if_neg h1, if_neg h2]
      clear h1 h2
      cases x <;> cases y
      all_goals
        go_enter Try.func181, Try.ntmps181
        go_wp2
        go_ret
        exact ⟨by rw [HO.out]; rfl, Since.refl _⟩
theorem posG_first {gs : List (List Int)} (hd : gs.Nodup) {j : Nat} {x : List Int} (h : gs[j]? = some x) : posG gs x = j := by
  obtain ⟨hj, e⟩ := List.getElem?_eq_some_iff.1 h
  have hx : x ∈ gs := by rw [← e]; exact List.getElem_mem hj
  have h1 := posG_get gs x hx
  have h2 := posG_lt gs x hx
  rw [List.Nodup, List.pairwise_iff_getElem] at hd
  rcases Nat.lt_trichotomy (posG gs x) j with h3 | h3 | h3
  · exact absurd (h1.trans e.symm) (hd _ _ h2 hj h3)
  · exact h3
  · exact absurd (e.trans h1.symm) (hd _ _ hj h2 h3)
theorem rowG_pre {α : Type} [DecidableEq α] (step : α → Nat → Option α) (s : α) : ∀ m F, ∃ t, rowG step s m F = F ++ t
  | 0, F => ⟨[], by simp [rowG]⟩
  | m + 1, F => by
    unfold rowG
    have key : ∃ t, addG F (step s (8 - m)) = F ++ t := by
      cases step s (8 - m) with
      | none => exact ⟨[], by simp [addG]⟩
      | some x =>
        simp only [addG]
        split
        · exact ⟨[], by simp⟩
        · exact ⟨[x], rfl⟩
    obtain ⟨t1, h1⟩ := key
    obtain ⟨t2, h2⟩ := rowG_pre step s m (addG F (step s (8 - m)))
    exact ⟨t1 ++ t2, by rw [h2, h1, List.append_assoc]⟩
theorem runG_pre {α : Type} [DecidableEq α] (step : α → Nat → Option α) : ∀ m p F, ∃ t, runG step m p F = F ++ t
  | 0, p, F => ⟨[], by simp [runG]⟩
  | m + 1, p, F => by
    unfold runG
    cases F[p]? with
    | none => exact ⟨[], by simp⟩
    | some s =>
      obtain ⟨t1, h1⟩ := rowG_pre step s 9 F
      obtain ⟨t2, h2⟩ := runG_pre step m (p + 1) (rowG step s 9 F)
      exact ⟨t1 ++ t2, by show runG step m (p + 1) (rowG step s 9 F) = _; rw [h2, h1, List.append_assoc]⟩
theorem two_ne {a b c d : Int} (h : ([a, b] : List Int) ≠ [c, d]) (e : a = c) : b ≠ d := fun k => h (by rw [e, k])
set_option maxHeartbeats 40000000 in
set_option maxRecDepth 100000 in
theorem specPR_any (v u : Value) (A B : Aut) (op : Int) (w : World) (h : AutAt w v A) (h2 : AutAt w u B) (hva : ValidA A) (hvb : ValidA B) (hN0 : pairN A B ≤ 1000) :
    Calls Try.prog 169 #[v, u, .int .i64 op] w (AOut w (pairA (opI op) A B)) := by
  have HNA : Hid (∀ (s : Int) (k : Nat) W, InQ A s → k < 9 → Since w W → Calls Try.prog 153 #[v, .int .i64 s, .int .i64 (k : Nat)] W fun e w' => e = .returned (.int .i64 (stpQ A s k)) ∧ Since W w') := fun s k W h1 h3 h4 => specNxt_any v A s k W (h.since h4) hva h1 h3
  have HNB : Hid (∀ (s : Int) (k : Nat) W, InQ B s → k < 9 → Since w W → Calls Try.prog 153 #[u, .int .i64 s, .int .i64 (k : Nat)] W fun e w' => e = .returned (.int .i64 (stpQ B s k)) ∧ Since W w') := fun s k W h1 h3 h4 => specNxt_any u B s k W (h2.since h4) hvb h1 h3
  have HAA : Hid (∀ (s : Int) W, InQ A s → Since w W → Calls Try.prog 151 #[v, .int .i64 s] W fun e w' => e = .returned (.bool (accI A s)) ∧ Since W w') := fun s W h1 h4 => specAcc_any v A s W (h.since h4) h1
  have HBA : Hid (∀ (s : Int) W, InQ B s → Since w W → Calls Try.prog 151 #[u, .int .i64 s] W fun e w' => e = .returned (.bool (accI B s)) ∧ Since W w') := fun s W h1 h4 => specAcc_any u B s W (h2.since h4) h1
  have HLH := Lib.hid (prS_H hva hvb)
  have HIN : Hid (∀ a, InQ A a → InI a) := fun a h => by have := hva.1; unfold InQ at h; unfold InI; omega
  have HINB : Hid (∀ a, InQ B a → InI a) := fun a h => by have := hvb.1; unfold InQ at h; unfold InI; omega
  have HST : Hid (∀ a (k : Nat), k < 9 → InQ A a → InQ A (stpQ A a k)) := fun a k hk h => stpQ_in hva h hk
  have HSTB : Hid (∀ a (k : Nat), k < 9 → InQ B a → InQ B (stpQ B a k)) := fun a k hk h => stpQ_in hvb h hk
  have HSTA : Hid (InQ A A.st ∧ InQ B B.st) := ⟨inQ_st hva, inQ_st hvb⟩
  obtain ⟨F, hF⟩ : ∃ F, F = pairF A B := ⟨_, rfl⟩
  obtain ⟨AC, hAC⟩ : ∃ f, f = accT (opI op) A B := ⟨_, rfl⟩
  have HACe : Hid (∀ a b, AC [a, b] = opI op (accI A a) (accI B b)) := fun a b => by rw [hAC]; rfl
  show Calls Try.prog 169 #[v, u, .int .i64 op] w (AOut w ⟨0, (pairF A B).map (accT (opI op) A B), (pairF A B).map fun x => (List.range 9).map (cellG (prS A B) (pairF A B) x)⟩)
  rw [← hF, ← hAC]
  obtain ⟨N, hNe⟩ : ∃ N, N = pairN A B := ⟨_, rfl⟩
  have HR0 : Hid (runG (prS A B) (N + 1 - 0) 0 [[A.st, B.st]] = F) := by rw [hF, hNe]; rfl
  rw [← hNe] at HLH hN0
  have HNL : Hid (N ≤ 1000) := hN0
  obtain ⟨a, b, rfl, _, ha, hb⟩ := h
  obtain ⟨ao, ca, rfl⟩ := ha.len
  obtain ⟨bo, cb, rfl⟩ := hb.len
  obtain ⟨a2, b2, rfl, _, ha2, hb2⟩ := h2
  obtain ⟨co, cc1, rfl⟩ := ha2.len
  obtain ⟨dO, cd, rfl⟩ := hb2.len
  clear ha hb ha2 hb2 hva hvb hN0 hF hAC hNe
  obtain ⟨n, hn⟩ : ∃ n, n = A.ac.length := ⟨_, rfl⟩
  obtain ⟨m, hmm⟩ : ∃ n, n = A.nx.length := ⟨_, rfl⟩
  obtain ⟨n2, hn2⟩ : ∃ n, n = B.ac.length := ⟨_, rfl⟩
  obtain ⟨m2, hm2⟩ : ∃ n, n = B.nx.length := ⟨_, rfl⟩
  rw [← hn, ← hmm] at HNA HAA ⊢
  rw [← hn2, ← hm2] at HNB HBA ⊢
  clear hn hmm hn2 hm2
  obtain ⟨wA, hwA⟩ : ∃ q, q = w.alloc (.cells #[.int .i64 A.st, .slice ao n ca, .slice bo m cb] 39) := ⟨_, rfl⟩
  have HAZ : Hid (wA.heap.size = w.heap.size + 1) := by unfold Hid; rw [hwA]; simp
  have HAZ3 : Hid (wA.heap.size + 2 = w.heap.size + 3) := by unfold Hid; have := HAZ.out; omega
  have HAZ2 : Hid (wA.heap.size + 1 = w.heap.size + 2) := by unfold Hid; have := HAZ.out; omega
  have kA : Since w wA := by rw [hwA]; exact (Since.refl _).alloc _
  have BA : Hid (Blk wA w.heap.size 39 #[.int .i64 A.st, .slice ao n ca, .slice bo m cb]) := by rw [hwA]; exact Blk.new rfl _ _
  obtain ⟨y, hy⟩ : ∃ y, y = (wA.alloc (.cells #[.int .i64 B.st, .slice co n2 cc1, .slice dO m2 cd] 39)).alloc (.cells #[.int .i64 0, .slice none 0 0, .slice none 0 0] 39) := ⟨_, rfl⟩
  have ks : Since wA y := by rw [hy]; exact ((Since.refl _).alloc _).alloc _
  have hz : y.heap.size = wA.heap.size + 2 := by rw [hy]; simp
  have BB : Hid (Blk y wA.heap.size 39 #[.int .i64 B.st, .slice co n2 cc1, .slice dO m2 cd]) := by rw [hy]; exact (Blk.new rfl _ _).alloc _
  have B1 : Hid (Blk y (wA.heap.size + 1) 39 #[.int .i64 0, .slice none 0 0, .slice none 0 0]) := by rw [hy]; exact Blk.new (by simp) _ _
  have HY : Hid (y = ((w.alloc (.cells #[.int .i64 A.st, .slice ao n ca, .slice bo m cb] 39)).alloc (.cells #[.int .i64 B.st, .slice co n2 cc1, .slice dO m2 cd] 39)).alloc (.cells #[.int .i64 0, .slice none 0 0, .slice none 0 0] 39)) := by rw [hy, hwA]; exact rfl
  clear hy hwA
  obtain ⟨y3, hy3⟩ : ∃ y3, y3 = y.alloc (.cells #[.int .i64 0, .slice none 0 0, .slice none 0 0] 39) := ⟨_, rfl⟩
  obtain ⟨y4, hy4⟩ : ∃ y4, y4 = y3.alloc (.cells #[.int .i64 A.st] 3) := ⟨_, rfl⟩
  obtain ⟨y2, hy2⟩ : ∃ y2, y2 = y4.alloc (.cells #[.int .i64 B.st] 3) := ⟨_, rfl⟩
  have k1 : Since y y3 := by rw [hy3]; exact (Since.refl _).alloc _
  have k2 : Since y3 y4 := by rw [hy4]; exact (Since.refl _).alloc _
  have k3 : Since y4 y2 := by rw [hy2]; exact (Since.refl _).alloc _
  have z1 : y3.heap.size = wA.heap.size + 3 := by rw [hy3]; simp; omega
  have z2 : y4.heap.size = wA.heap.size + 4 := by rw [hy4]; simp; omega
  have HNO : Hid (NmO wA #[.int .i64 B.st, .slice co n2 cc1, .slice dO m2 cd] y2 (.slice (some ⟨wA.heap.size + 3, 0, none⟩) 1 1) (.slice (some ⟨wA.heap.size + 4, 0, none⟩) 1 1) nilS nilS ([[A.st, B.st]].map (fun x : List Int => x[0]?.getD 0)) ([[A.st, B.st]].map (fun x : List Int => x[1]?.getD 0)) ((F.take 0).map AC) ((F.take 0).map (fun x => (List.range 9).map (cellG (prS A B) F x)))) := by
    have o1 := ownT_lit 3 (wA.heap.size + 3) y3 (by omega) A.st (HIN.out _ HSTA.out.1)
    have o2 := ownT_lit 3 (wA.heap.size + 3) y4 (by omega) B.st (HINB.out _ HSTA.out.2)
    rw [z1, ← hy4] at o1
    rw [z2, ← hy2] at o2
    have hsy := (k1.trans k2).trans k3
    have hb3 : Blk y3 (wA.heap.size + 2) 39 #[.int .i64 0, nilS, nilS] := by rw [hy3]; exact Blk.new (by omega) _ _
    exact ⟨(o1.since k3 : OwnNt 3 _ _ _ _), o2, .inr (by simp [Value.ownBlock]), OwnBo.nil _ _, RowsO.nil _ _ _, (hb3.since k2).since k3, BB.out.since hsy, B1.out.since hsy, ks.trans hsy⟩
  have HKA : Hid (Since w wA) := kA
  have HY3 := Lib.hid hy3
  have HY4 := Lib.hid hy4
  have HY2 := Lib.hid hy2
  have hzw : y.heap.size = w.heap.size + 3 := by have := HAZ.out; omega
  have z1w : y3.heap.size = w.heap.size + 4 := by have := HAZ.out; omega
  have z2w : y4.heap.size = w.heap.size + 5 := by have := HAZ.out; omega
  have HZ := Lib.hid hzw
  have HZ1 := Lib.hid z1w
  have HZ2 := Lib.hid z2w
  clear hy2 hy3 hy4 kA z1 z2 hz hzw z1w z2w
  have BAy := Lib.hid (BA.out.since ks)
  have BBy : Hid (Blk y (w.heap.size + 1) 39 #[.int .i64 B.st, .slice co n2 cc1, .slice dO m2 cd]) := by have h9 := BB.out; rw [HAZ.out] at h9; exact h9
  go_enter Try.func169, Try.ntmps169
  go_upto_region 1 with fail
  rw [← HY.out]
  go_upto_region 2 with fail
  rw [← HY3.out]
  obtain ⟨⟨p0, p1, p2⟩, _⟩ := (BAy.out.since k1).threeA
  go_upto_region 3 with fail
  rw [← HY4.out]
  clear p0 p1 p2
  obtain ⟨⟨p0, p1, p2⟩, _⟩ := (BBy.out.since (k1.trans k2)).threeA
  go_upto_region 5 with fail
  rw [← HY2.out]
  try rw [HZ1.out]
  try rw [HZ2.out]
  try rw [HZ.out]
  rw [HAZ.out] at HNO
  clear p0 p1 p2 HY2 HY3 HY4 HY BB B1 BAy BBy k1 k2 k3 ks HZ HZ1 HZ2
  go_loopw [8, 9, 10] (fun o q i wr => ∃ (p : Nat) (rs : List (List Int)) (ov rv bv nv : Value), i = .int .i64 p ∧ ov = o ∧ rv = q ∧ p ≤ rs.length ∧ Hid (FsQ (InP A B) rs) ∧ Hid (runG (prS A B) (N + 1 - p) p rs = F) ∧ Hid (NmO wA #[.int .i64 B.st, .slice co n2 cc1, .slice dO m2 cd] wr ov rv bv nv (rs.map (fun x : List Int => x[0]?.getD 0)) (rs.map (fun x : List Int => x[1]?.getD 0)) ((F.take p).map AC) ((F.take p).map (fun x => (List.range 9).map (cellG (prS A B) F x))))) (fun _ _ i _ => N + 1 - (intOf i).toNat)
  case atStart => exact ⟨0, [[A.st, B.st]], _, _, _, _, rfl, rfl, rfl, by simp, ⟨by simp, fun x hx => by simp at hx; subst hx; exact ⟨_, _, rfl, HSTA.out.1, HSTA.out.2⟩⟩, HR0.out, HNO.out⟩
  case round =>
    clear HNO HR0
    obtain ⟨p, rs, ov, rv, bv, nv, rfl, rfl, rfl, hp, HFs, HRp, HO⟩ := hrel
    have hlen : rs.length ≤ N := HLH.out.room _ HFs.out.1 HFs.out.2
    have hNl := HNL.out
    obtain ⟨oo, oc, rfl⟩ := HO.out.so.len
    rw [List.length_map] at HO ⊢
    by_cases hlt : p < rs.length
    · have hpi : (p : Int) < (rs.length : Int) := by omega
      have hp0 : (0 : Int) ≤ (p : Int) := by omega
      obtain ⟨a0, b0, hab, hqa, hqb⟩ := HFs.out.2 rs[p] (List.getElem_mem hlt)
      have HP0 : Hid (rs[p]? = some [a0, b0]) := by unfold Hid; rw [List.getElem?_eq_getElem hlt, hab]
      have HQ : Hid (InQ A a0 ∧ InQ B b0) := ⟨hqa, hqb⟩
      obtain ⟨t0, ht0⟩ := runG_pre (prS A B) (N + 1 - p) p rs
      rw [HRp.out] at ht0
      have HFp : Hid (∃ hF : p < F.length, F[p] = [a0, b0]) := ⟨by rw [ht0]; simp; omega, by
        have : F[p]? = some [a0, b0] := by rw [ht0, List.getElem?_append_left hlt]; exact HP0.out
        obtain ⟨_, e⟩ := List.getElem?_eq_some_iff.1 this
        exact e⟩
      have HR1 : Hid (runG (prS A B) (N - p) (p + 1) (rowG (prS A B) [a0, b0] (9 - 0) rs) = F) := by
        have h1 := HRp.out
        rw [show N + 1 - p = (N - p) + 1 from by omega, runG_at _ _ p rs [a0, b0] HP0.out] at h1
        exact h1
      have HPL0 := hlt
      have hpN : p < N := by omega
      obtain ⟨bs, hbs⟩ : ∃ bs, bs = (F.take p).map AC := ⟨_, rfl⟩
      obtain ⟨xs, hxs⟩ : ∃ xs, xs = (F.take p).map (fun x => (List.range 9).map (cellG (prS A B) F x)) := ⟨_, rfl⟩
      rw [← hbs, ← hxs] at HO
      have HBS := Lib.hid hbs
      have HXS := Lib.hid hxs
      have HB := Lib.hid HO.out.begin
      clear hab ht0 hbs hxs HRp hqa hqb
      go_upto_region 9 with fail
      clear hpi hlt
      go_loopw [8, 9, 11, 12] (fun o q tr j wz => ∃ (k : Nat) (gs : List (List Int)) (ov rv tv : Value), k ≤ 9 ∧ j = .int .i64 k ∧ ov = o ∧ rv = q ∧ tv = tr ∧ p < gs.length ∧ Hid (gs[p]? = some [a0, b0]) ∧ Hid (FsQ (InP A B) gs) ∧ Hid (runG (prS A B) (N - p) (p + 1) (rowG (prS A B) [a0, b0] (9 - k) gs) = F) ∧ Hid (NmT wA #[.int .i64 B.st, .slice co n2 cc1, .slice dO m2 cd] wz ov rv bv nv tv (gs.map (fun x : List Int => x[0]?.getD 0)) (gs.map (fun x : List Int => x[1]?.getD 0)) bs xs ((List.range k).map (cellG (prS A B) F [a0, b0])))) (fun _ _ _ j _ => 9 - (intOf j).toNat)
      case atStart => exact ⟨0, rs, _, _, _, Nat.zero_le _, rfl, rfl, rfl, rfl, HPL0, HP0.out, HFs.out, HR1.out, HB.out⟩
      case round =>
        clear HO HB HR1 HP0 HFs HPL0 hlen hp
        obtain ⟨k, gs, ov, rv, tv, hk, rfl, rfl, rfl, rfl, HPL, HP, HFG, HRG, HX⟩ := hrel
        have hglen : gs.length ≤ N := HLH.out.room _ HFG.out.1 HFG.out.2
        have hgl2 : gs.length ≤ 1000 := by omega
        obtain ⟨rg, rc, rfl, hrg⟩ := own_block HX.out.sr.2 (by rw [List.length_map]; omega)
        obtain ⟨og, oc, rfl, hog⟩ := own_block HX.out.so.2 (by rw [List.length_map]; omega)
        rw [List.length_map, List.length_map] at HX ⊢
        have HXw : Hid (Since w wr) := HKA.out.trans HX.out.sc
        have HCE : Hid (∀ (j : Nat) (c d : Int), gs[j]? = some [c, d] → ∀ w', Own (wA.heap.size + 3) w' (.slice (some ⟨og, 0, none⟩) gs.length oc) (gs.map (fun x : List Int => x[0]?.getD 0)) → Own (wA.heap.size + 3) w' (.slice (some ⟨rg, 0, none⟩) gs.length rc) (gs.map (fun x : List Int => x[1]?.getD 0)) → w'.cell? ⟨og, j, none⟩ = some (.int .i64 c) ∧ w'.cell? ⟨rg, j, none⟩ = some (.int .i64 d)) := by
          intro j c d hj w' h1 h3
          obtain ⟨hjl, ej⟩ := List.getElem?_eq_some_iff.1 hj
          have e1 := (h1.cellI (by simp) j (by simpa using hjl)).1
          have e2 := (h3.cellI (by simp) j (by simpa using hjl)).1
          rw [List.getElem_map, ej] at e1 e2
          exact ⟨e1, e2⟩
        by_cases hkt : k < 9
        · have hki : (k : Int) < 9 := by omega
          have hk0 : (0 : Int) ≤ (k : Int) := by omega
          have hpg : (p : Int) < (gs.length : Int) := by omega
          have hp0 : (0 : Int) ≤ (p : Int) := by omega
          obtain ⟨za, hza⟩ : ∃ z, z = stpQ A a0 k := ⟨_, rfl⟩
          obtain ⟨zb, hzb⟩ : ∃ z, z = stpQ B b0 k := ⟨_, rfl⟩
          have HNAp : Hid (∀ W, Since w W → Calls Try.prog 153 #[.agg #[.int .i64 A.st, .slice ao n ca, .slice bo m cb], .int .i64 a0, .int .i64 (k : Nat)] W fun e w' => e = .returned (.int .i64 za) ∧ Since W w') := fun W hW => by rw [hza]; exact HNA.out a0 k W HQ.out.1 hkt hW
          have HNBp : Hid (∀ W, Since w W → Calls Try.prog 153 #[.agg #[.int .i64 B.st, .slice co n2 cc1, .slice dO m2 cd], .int .i64 b0, .int .i64 (k : Nat)] W fun e w' => e = .returned (.int .i64 zb) ∧ Since W w') := fun W hW => by rw [hzb]; exact HNB.out b0 k W HQ.out.2 hkt hW
          have HQZ : Hid (InQ A za ∧ InQ B zb) := ⟨by rw [hza]; exact HST.out a0 k hkt HQ.out.1, by rw [hzb]; exact HSTB.out b0 k hkt HQ.out.2⟩
          have HST2 : Hid (prS A B [a0, b0] k = some [za, zb]) := by unfold Hid prS; rw [hza, hzb]; rfl
          clear hza hzb
          have HKC : Hid (∀ w', Since wr w' → w'.cell? ⟨w.heap.size, 0, none⟩ = some (.int .i64 A.st) ∧ w'.cell? ⟨w.heap.size, 1, none⟩ = some (.slice ao n ca) ∧ w'.cell? ⟨w.heap.size, 2, none⟩ = some (.slice bo m cb) ∧ w'.cell? ⟨og, p, none⟩ = some (.int .i64 a0)) := by
            intro w' hs
            obtain ⟨⟨r0, r1, r2⟩, _⟩ := (BA.out.since (HX.out.sc.trans hs)).threeA
            exact ⟨r0, r1, r2, (HCE.out p a0 b0 HP.out w' (HX.out.so.since hs) (HX.out.sr.since hs)).1⟩
          go_wp2_with fail
          refine wp_region_held_drew (S := (fun w' => w'.cell? ⟨w.heap.size, 0, none⟩ = some (.int .i64 A.st) ∧ w'.cell? ⟨w.heap.size, 1, none⟩ = some (.slice ao n ca) ∧ w'.cell? ⟨w.heap.size, 2, none⟩ = some (.slice bo m cb) ∧ w'.cell? ⟨og, p, none⟩ = some (.int .i64 a0))) (by kernel_rfl) (HKC.out _ (Since.refl _).drew) (fun hHeld => ?_)
          refine take_yes 0 (some 35) (v := ?_) rfl (by kernel_rfl) (by kernel_rfl) (by kernel_rfl) (by kernel_rfl) (fun _ _ _ h => h) (by rfl) (by assumption) ?_ ?_
          rotate_left
          · (intro w' hSw; (try dsimp only at hSw); go_simp; try with_reducible rfl)
          try simp only [Act.put, List.setIfInBounds_toArray, List.set_cons_zero, List.set_cons_succ]
          refine take_yes 1 (some 36) (v := ?_) rfl (by kernel_rfl) (by kernel_rfl) (by kernel_rfl) (by kernel_rfl) (fun _ _ _ h => h) (by rfl) (by assumption) ?_ ?_
          rotate_left
          · (intro w' hSw; (try dsimp only at hSw); go_simp; try with_reducible rfl)
          try simp only [Act.put, List.setIfInBounds_toArray, List.set_cons_zero, List.set_cons_succ]
          refine take_yes 2 (some 37) (v := ?_) rfl (by kernel_rfl) (by kernel_rfl) (by kernel_rfl) (by kernel_rfl) (fun _ _ _ h => h) (by rfl) (by assumption) ?_ ?_
          rotate_left
          · (intro w' hSw; (try dsimp only at hSw); go_simp; try with_reducible rfl)
          try simp only [Act.put, List.setIfInBounds_toArray, List.set_cons_zero, List.set_cons_succ]
          refine take_yes 3 (some 38) (v := ?_) rfl (by kernel_rfl) (by kernel_rfl) (by kernel_rfl) (by kernel_rfl) (fun _ _ _ h => h) (by rfl) (by assumption) ?_ ?_
          rotate_left
          · (intro w' hSw; (try dsimp only at hSw); go_simp; try with_reducible rfl)
          try simp only [Act.put, List.setIfInBounds_toArray, List.set_cons_zero, List.set_cons_succ]
          refine take_yes 4 (some 39) (v := ?_) rfl (by kernel_rfl) (by kernel_rfl) (by kernel_rfl) (by kernel_rfl) (fun _ _ _ h => h) (by rfl) (by assumption) ?_ ?_
          rotate_left
          · (intro w' hSw; (try dsimp only at hSw); go_simp; try with_reducible rfl)
          try simp only [Act.put, List.setIfInBounds_toArray, List.set_cons_zero, List.set_cons_succ]
          refine take_yes 5 (some 40) (v := ?_) rfl (by kernel_rfl) (by kernel_rfl) (by kernel_rfl) (by kernel_rfl) (fun _ _ _ h => h) (by rfl) (by assumption) ?_ ?_
          rotate_left
          · (intro w' hSw; (try dsimp only at hSw); go_simp; try with_reducible rfl)
          try simp only [Act.put, List.setIfInBounds_toArray, List.set_cons_zero, List.set_cons_succ]
          refine take_run 6 rfl (by kernel_rfl) (by rfl) (fun K hK => ?_)
          go_simp
          refine (HNAp.out _ (HXw.out.trans ((Since.refl wr).drew))).mono ?_
          rintro en wq2 ⟨rfl, hq⟩
          have hc3 := ((Since.refl wr).drew).trans hq
          refine hK.out _ _ (HKC.out _ hc3) (fun hHeld1 => ?_)
          clear hK K hHeld hq
          try simp only [Act.put, List.setIfInBounds_toArray, List.set_cons_zero, List.set_cons_succ]
          refine take_yes 7 (some 13) (v := ?_) rfl (by kernel_rfl) (by kernel_rfl) (by kernel_rfl) (by kernel_rfl) (fun _ _ _ h => h) (by rfl) (by assumption) ?_ ?_
          rotate_left
          · (intro w' hSw; (try dsimp only at hSw); go_simp; try with_reducible rfl)
          try simp only [Act.put, List.setIfInBounds_toArray, List.set_cons_zero, List.set_cons_succ]
          refine wpAnyH_done (by kernel_rfl) ?_ _
          clear hHeld1
          have hc11 := hc3
          go_upto_region 12 with fail
          have HX11 := Lib.hid (HX.out.since hc11)
          clear HX HXw HKC hc11
          have HX := HX11
          clear HX11
          obtain ⟨wr2, hwr2⟩ : ∃ q, q = wq2 := ⟨_, rfl⟩
          rw [← hwr2] at HX ⊢
          clear hwr2
          have HXw : Hid (Since w wr2) := HKA.out.trans HX.out.sc
          have HKC : Hid (∀ w', Since wr2 w' → w'.cell? ⟨w.heap.size + 1, 0, none⟩ = some (.int .i64 B.st) ∧ w'.cell? ⟨w.heap.size + 1, 1, none⟩ = some (.slice co n2 cc1) ∧ w'.cell? ⟨w.heap.size + 1, 2, none⟩ = some (.slice dO m2 cd) ∧ w'.cell? ⟨rg, p, none⟩ = some (.int .i64 b0)) := by
            intro w' hs
            obtain ⟨⟨r0, r1, r2⟩, _⟩ := (HX.out.b0.since hs).threeA
            rw [HAZ.out] at r0 r1 r2
            exact ⟨r0, r1, r2, (HCE.out p a0 b0 HP.out w' (HX.out.so.since hs) (HX.out.sr.since hs)).2⟩
          go_wp2_with fail
          refine wp_region_held_drew (S := (fun w' => w'.cell? ⟨w.heap.size + 1, 0, none⟩ = some (.int .i64 B.st) ∧ w'.cell? ⟨w.heap.size + 1, 1, none⟩ = some (.slice co n2 cc1) ∧ w'.cell? ⟨w.heap.size + 1, 2, none⟩ = some (.slice dO m2 cd) ∧ w'.cell? ⟨rg, p, none⟩ = some (.int .i64 b0))) (by kernel_rfl) (HKC.out _ (Since.refl _).drew) (fun hHeld => ?_)
          refine take_yes 0 (some 42) (v := ?_) rfl (by kernel_rfl) (by kernel_rfl) (by kernel_rfl) (by kernel_rfl) (fun _ _ _ h => h) (by rfl) (by assumption) ?_ ?_
          rotate_left
          · (intro w' hSw; (try dsimp only at hSw); go_simp; try with_reducible rfl)
          try simp only [Act.put, List.setIfInBounds_toArray, List.set_cons_zero, List.set_cons_succ]
          refine take_yes 1 (some 43) (v := ?_) rfl (by kernel_rfl) (by kernel_rfl) (by kernel_rfl) (by kernel_rfl) (fun _ _ _ h => h) (by rfl) (by assumption) ?_ ?_
          rotate_left
          · (intro w' hSw; (try dsimp only at hSw); go_simp; try with_reducible rfl)
          try simp only [Act.put, List.setIfInBounds_toArray, List.set_cons_zero, List.set_cons_succ]
          refine take_yes 2 (some 44) (v := ?_) rfl (by kernel_rfl) (by kernel_rfl) (by kernel_rfl) (by kernel_rfl) (fun _ _ _ h => h) (by rfl) (by assumption) ?_ ?_
          rotate_left
          · (intro w' hSw; (try dsimp only at hSw); go_simp; try with_reducible rfl)
          try simp only [Act.put, List.setIfInBounds_toArray, List.set_cons_zero, List.set_cons_succ]
          refine take_yes 3 (some 45) (v := ?_) rfl (by kernel_rfl) (by kernel_rfl) (by kernel_rfl) (by kernel_rfl) (fun _ _ _ h => h) (by rfl) (by assumption) ?_ ?_
          rotate_left
          · (intro w' hSw; (try dsimp only at hSw); go_simp; try with_reducible rfl)
          try simp only [Act.put, List.setIfInBounds_toArray, List.set_cons_zero, List.set_cons_succ]
          refine take_yes 4 (some 46) (v := ?_) rfl (by kernel_rfl) (by kernel_rfl) (by kernel_rfl) (by kernel_rfl) (fun _ _ _ h => h) (by rfl) (by assumption) ?_ ?_
          rotate_left
          · (intro w' hSw; (try dsimp only at hSw); go_simp; try with_reducible rfl)
          try simp only [Act.put, List.setIfInBounds_toArray, List.set_cons_zero, List.set_cons_succ]
          refine take_yes 5 (some 47) (v := ?_) rfl (by kernel_rfl) (by kernel_rfl) (by kernel_rfl) (by kernel_rfl) (fun _ _ _ h => h) (by rfl) (by assumption) ?_ ?_
          rotate_left
          · (intro w' hSw; (try dsimp only at hSw); go_simp; try with_reducible rfl)
          try simp only [Act.put, List.setIfInBounds_toArray, List.set_cons_zero, List.set_cons_succ]
          refine take_run 6 rfl (by kernel_rfl) (by rfl) (fun K hK => ?_)
          go_simp
          refine (HNBp.out _ (HXw.out.trans ((Since.refl wr2).drew))).mono ?_
          rintro en wq5 ⟨rfl, hq⟩
          have hc6 := ((Since.refl wr2).drew).trans hq
          refine hK.out _ _ (HKC.out _ hc6) (fun hHeld4 => ?_)
          clear hK K hHeld hq
          try simp only [Act.put, List.setIfInBounds_toArray, List.set_cons_zero, List.set_cons_succ]
          refine take_yes 7 (some 14) (v := ?_) rfl (by kernel_rfl) (by kernel_rfl) (by kernel_rfl) (by kernel_rfl) (fun _ _ _ h => h) (by rfl) (by assumption) ?_ ?_
          rotate_left
          · (intro w' hSw; (try dsimp only at hSw); go_simp; try with_reducible rfl)
          try simp only [Act.put, List.setIfInBounds_toArray, List.set_cons_zero, List.set_cons_succ]
          refine wpAnyH_done (by kernel_rfl) ?_ _
          clear hHeld4
          have hc12 := hc6
          go_upto_region 15 with fail
          have HX12 := Lib.hid (HX.out.since hc12)
          clear HX HXw HKC hc12
          have HX := HX12
          clear HX12
          obtain ⟨wr3, hwr3⟩ : ∃ q, q = wq5 := ⟨_, rfl⟩
          rw [← hwr3] at HX ⊢
          clear hwr3
          go_loopw [15, 16] (fun atv i wz => ∃ (j : Nat) (at8 : Int), j ≤ gs.length ∧ i = .int .i64 j ∧ atv = .int .i64 at8 ∧ wz = wr3 ∧ Hid ((at8 = -1 ∧ ∀ i, i < j → gs[i]? ≠ some [za, zb]) ∨ ∃ i : Nat, i < j ∧ at8 = (i : Int) ∧ gs[i]? = some [za, zb])) (fun _ i _ => gs.length - (intOf i).toNat)
          case atStart => exact ⟨0, -1, Nat.zero_le _, rfl, rfl, rfl, .inl ⟨rfl, fun i hi => by omega⟩⟩
          case round =>
            obtain ⟨j, at8, hj, rfl, rfl, rfl, HAT⟩ := hrel
            by_cases hjl : j < gs.length
            · have hji : (j : Int) < (gs.length : Int) := by omega
              have hj0 : (0 : Int) ≤ (j : Int) := by omega
              obtain ⟨c, d, hcd, _, _⟩ := HFG.out.2 gs[j] (List.getElem_mem hjl)
              have HJ : Hid (gs[j]? = some [c, d]) := by unfold Hid; rw [List.getElem?_eq_getElem hjl, hcd]
              obtain ⟨e1, e2⟩ := HCE.out j c d HJ.out _ HX.out.so HX.out.sr
              have HND := Lib.hid HFG.out.1
              clear hcd
              by_cases h1 : c = za
              · have f1 : (c == za) = true := by simpa using h1
                by_cases h3 : d = zb
                · have f2 : (d == zb) = true := by simpa using h3
                  have HN : Hid (gs[j]? = some [za, zb]) := by rw [← h1, ← h3]; exact HJ.out
                  clear h1 h3
                  go_wp2
                  go_roundw
                  case rel => exact ⟨j + 1, (j : Int), by omega, by go_num, (by first | rfl | trivial), (by first | rfl | trivial), .inr ⟨j, by omega, rfl, HN.out⟩⟩
                  case measure => simp [intOf]; omega
                · have f2 : (d == zb) = false := by simpa using h3
                  have HN : Hid (gs[j]? ≠ some [za, zb]) := by
                    unfold Hid
                    rw [HJ.out]
                    intro e
                    injection e with e
                    injection e with _ e
                    injection e with e _
                    exact h3 e
                  clear h1 h3
                  go_wp2
                  go_roundw
                  case rel => exact ⟨j + 1, at8, by omega, by go_num, (by first | rfl | trivial), (by first | rfl | trivial), HAT.out.elim (fun h => .inl ⟨h.1, fun i hi => by
                    by_cases e : i = j
                    · rw [e]; exact HN.out
                    · exact h.2 i (by omega)⟩) (fun ⟨i, h1, h3⟩ => .inr ⟨i, by omega, h3⟩)⟩
                  case measure => simp [intOf]; omega
              · have f1 : (c == za) = false := by simpa using h1
                have HN : Hid (gs[j]? ≠ some [za, zb]) := by
                  unfold Hid
                  rw [HJ.out]
                  intro e
                  injection e with e
                  injection e with e _
                  exact h1 e
                clear h1
                go_wp2
                go_roundw
                case rel => exact ⟨j + 1, at8, by omega, by go_num, (by first | rfl | trivial), (by first | rfl | trivial), HAT.out.elim (fun h => .inl ⟨h.1, fun i hi => by
                  by_cases e : i = j
                  · rw [e]; exact HN.out
                  · exact h.2 i (by omega)⟩) (fun ⟨i, h1, h3⟩ => .inr ⟨i, by omega, h3⟩)⟩
                case measure => simp [intOf]; omega
            · have hnj : ¬ ((j : Int) < (gs.length : Int)) := by omega
              have hjg : j = gs.length := by omega
              rcases HAT.out with ⟨rfl, hno⟩ | ⟨at9, hi9, rfl, h9⟩
              · have hin2 : [za, zb] ∉ gs := fun hm => by
                  obtain ⟨i, hi, e⟩ := List.getElem_of_mem hm
                  exact hno i (by omega) (by rw [List.getElem?_eq_getElem hi, e])
                have HRN : Hid (runG (prS A B) (N - p) (p + 1) (rowG (prS A B) [a0, b0] (9 - (k + 1)) (gs ++ [[za, zb]])) = F) := by
                  have h1 := HRG.out
                  rw [rowG_new _ _ k hkt gs [za, zb] HST2.out hin2] at h1
                  exact h1
                have HFG2 : Hid (FsQ (InP A B) (gs ++ [[za, zb]])) := ⟨nodup_snocG HFG.out.1 hin2, fun y hy => by
                  rcases List.mem_append.1 hy with h | h
                  · exact HFG.out.2 y h
                  · simp at h; subst h; exact ⟨za, zb, rfl, HQZ.out.1, HQZ.out.2⟩⟩
                have HRA : Hid (cellG (prS A B) F [a0, b0] k = (gs.length : Int)) := by
                  obtain ⟨t1, h1⟩ := runG_pre (prS A B) (N - p) (p + 1) (rowG (prS A B) [a0, b0] (9 - (k + 1)) (gs ++ [[za, zb]]))
                  obtain ⟨t2, h3⟩ := rowG_pre (prS A B) [a0, b0] (9 - (k + 1)) (gs ++ [[za, zb]])
                  rw [HRN.out, h3, List.append_assoc] at h1
                  unfold Hid cellG
                  rw [HST2.out]
                  simp only
                  rw [h1, posG_app _ _ _ (by simp), posG_first HFG2.out.1 (j := gs.length) (by rw [List.getElem?_append_right (Nat.le_refl _)]; simp)]
                have HP2 : Hid ((gs ++ [[za, zb]])[p]? = some [a0, b0]) := by unfold Hid; rw [List.getElem?_append_left HPL]; exact HP.out
                have HPL2 : p < (gs ++ [[za, zb]]).length := by simp; omega
                have hzai : InI za := HIN.out _ HQZ.out.1
                have hzbi : InI zb := HINB.out _ HQZ.out.2
                have hol : (gs.map (fun x : List Int => x[0]?.getD 0)).length ≤ 4000000 := by rw [List.length_map]; omega
                have hol2 : (gs.map (fun x : List Int => x[1]?.getD 0)).length ≤ 4000000 := by rw [List.length_map]; omega
                have HSO := Lib.hid HX.out.so
                have hbz := HX.out.lt
                clear hin2 hno HAT
                go_upto_region 22 with (at_builtin; go_must (refine wpList_append_at rfl (.tmp 74) (.tmp 76) rfl (wA.heap.size + 3) (.slice (some ⟨og, 0, none⟩) gs.length oc) (gs.map (fun x : List Int => x[0]?.getD 0)) (by first | rfl | simp [Act.eval]) HSO.out za (by first | rfl | simp [Act.eval]) hzai hol hbz ?_); intro v8 w8 ho8 hg8 hn8)
                have HX8 : Hid (NmT wA #[.int .i64 B.st, .slice co n2 cc1, .slice dO m2 cd] w8 v8 (.slice (some ⟨rg, 0, none⟩) gs.length rc) bv nv tv ((gs ++ [[za, zb]]).map (fun x : List Int => x[0]?.getD 0)) (gs.map (fun x : List Int => x[1]?.getD 0)) bs xs ((List.range k).map (cellG (prS A B) F [a0, b0]))) := by
                  unfold Hid
                  rw [List.map_append]
                  exact HX.out.ord ho8 hg8 hn8
                clear ho8 hg8 hn8 HSO hbz HX
                have HSR := Lib.hid HX8.out.sr
                have hbz := HX8.out.lt
                go_upto_region 23 with (at_builtin; go_must (refine wpList_append_at rfl (.tmp 78) (.tmp 80) rfl (wA.heap.size + 3) (.slice (some ⟨rg, 0, none⟩) gs.length rc) (gs.map (fun x : List Int => x[1]?.getD 0)) (by first | rfl | simp [Act.eval]) HSR.out zb (by first | rfl | simp [Act.eval]) hzbi hol2 hbz ?_); intro v8b w8b ho8 hg8 hn8)
                have HX : Hid (NmT wA #[.int .i64 B.st, .slice co n2 cc1, .slice dO m2 cd] w8b v8 v8b bv nv tv ((gs ++ [[za, zb]]).map (fun x : List Int => x[0]?.getD 0)) ((gs ++ [[za, zb]]).map (fun x : List Int => x[1]?.getD 0)) bs xs ((List.range k).map (cellG (prS A B) F [a0, b0]))) := by
                  unfold Hid
                  have h9 := HX8.out.rep ho8 hg8 hn8
                  rw [List.map_append (f := (fun x : List Int => x[1]?.getD 0))]
                  exact h9
                clear ho8 hg8 hn8 HSR hbz HX8
                have hzi : InI (gs.length : Int) := by unfold InI; omega
                have hts : ((List.range k).map (cellG (prS A B) F [a0, b0])).length = k := by simp
                have HTT := Lib.hid HX.out.st
                have hbz := HX.out.lt
                go_wp2_with (at_builtin; go_must (refine wpList_append_at rfl (.tmp 82) (.tmp 84) rfl (wA.heap.size + 3) tv _ (by first | rfl | simp [Act.eval]) HTT.out (gs.length : Int) (by first | rfl | simp [Act.eval]) hzi (by rw [hts]; omega) hbz ?_); intro v9 w9 ho9 hg9 hn9)
                have HX9 : Hid (NmT wA #[.int .i64 B.st, .slice co n2 cc1, .slice dO m2 cd] w9 v8 v8b bv nv v9 ((gs ++ [[za, zb]]).map (fun x : List Int => x[0]?.getD 0)) ((gs ++ [[za, zb]]).map (fun x : List Int => x[1]?.getD 0)) bs xs ((List.range (k + 1)).map (cellG (prS A B) F [a0, b0]))) := by
                  unfold Hid
                  rw [show ((List.range (k + 1)).map (cellG (prS A B) F [a0, b0])) = ((List.range k).map (cellG (prS A B) F [a0, b0])) ++ [cellG (prS A B) F [a0, b0] k] from by rw [List.range_succ, List.map_append]; rfl, HRA.out]
                  exact HX.out.row ho9 hg9 hn9
                clear ho9 hg9 hn9 HTT
                go_roundw
                case rel => exact ⟨k + 1, (gs ++ [[za, zb]]), _, _, v9, by omega, by go_num, rfl, rfl, rfl, HPL2, HP2.out, HFG2.out, HRN.out, HX9.out⟩
                case measure => simp [intOf]; omega
              · have hin2 : [za, zb] ∈ gs := List.mem_of_getElem? h9
                have HRN : Hid (runG (prS A B) (N - p) (p + 1) (rowG (prS A B) [a0, b0] (9 - (k + 1)) gs) = F) := by
                  have h1 := HRG.out
                  rw [rowG_old _ _ k hkt gs [za, zb] HST2.out hin2] at h1
                  exact h1
                have HRA : Hid (cellG (prS A B) F [a0, b0] k = (at9 : Int)) := by
                  obtain ⟨t1, h1⟩ := runG_pre (prS A B) (N - p) (p + 1) (rowG (prS A B) [a0, b0] (9 - (k + 1)) gs)
                  obtain ⟨t2, h3⟩ := rowG_pre (prS A B) [a0, b0] (9 - (k + 1)) gs
                  rw [HRN.out, h3, List.append_assoc] at h1
                  unfold Hid cellG
                  rw [HST2.out]
                  simp only
                  rw [h1, posG_app _ _ _ hin2, posG_first HFG.out.1 h9]
                have hat0 : ¬ ((at9 : Int) < 0) := by omega
                clear hin2 h9 HAT
                have hzi : InI (at9 : Int) := by unfold InI; omega
                have hts : ((List.range k).map (cellG (prS A B) F [a0, b0])).length = k := by simp
                have HTT := Lib.hid HX.out.st
                have hbz := HX.out.lt
                go_wp2_with (at_builtin; go_must (refine wpList_append_at rfl (.tmp 82) (.tmp 84) rfl (wA.heap.size + 3) tv _ (by first | rfl | simp [Act.eval]) HTT.out (at9 : Int) (by first | rfl | simp [Act.eval]) hzi (by rw [hts]; omega) hbz ?_); intro v9 w9 ho9 hg9 hn9)
                have HX9 : Hid (NmT wA #[.int .i64 B.st, .slice co n2 cc1, .slice dO m2 cd] w9 (.slice (some ⟨og, 0, none⟩) gs.length oc) (.slice (some ⟨rg, 0, none⟩) gs.length rc) bv nv v9 (gs.map (fun x : List Int => x[0]?.getD 0)) (gs.map (fun x : List Int => x[1]?.getD 0)) bs xs ((List.range (k + 1)).map (cellG (prS A B) F [a0, b0]))) := by
                  unfold Hid
                  rw [show ((List.range (k + 1)).map (cellG (prS A B) F [a0, b0])) = ((List.range k).map (cellG (prS A B) F [a0, b0])) ++ [cellG (prS A B) F [a0, b0] k] from by rw [List.range_succ, List.map_append]; rfl, HRA.out]
                  exact HX.out.row ho9 hg9 hn9
                clear ho9 hg9 hn9 HTT
                go_roundw
                case rel => exact ⟨k + 1, gs, _, _, v9, by omega, by go_num, rfl, rfl, rfl, HPL, HP.out, HFG.out, HRN.out, HX9.out⟩
                case measure => simp [intOf]; omega
        · obtain rfl : k = 9 := by omega
          have HRE : Hid (runG (prS A B) (N - p) (p + 1) gs = F) := HRG.out
          have hpg : (p : Int) < (gs.length : Int) := by omega
          have hp0 : (0 : Int) ≤ (p : Int) := by omega
          obtain ⟨X0, hX0⟩ : ∃ q, q = accI A a0 := ⟨_, rfl⟩
          obtain ⟨Y0, hY0⟩ : ∃ q, q = accI B b0 := ⟨_, rfl⟩
          obtain ⟨Z0, hZ0⟩ : ∃ q, q = opI op X0 Y0 := ⟨_, rfl⟩
          have HZ0 : Hid (Z0 = AC [a0, b0]) := by unfold Hid; rw [HACe.out, hZ0, hX0, hY0]
          have HAAp : Hid (∀ W, Since w W → Calls Try.prog 151 #[.agg #[.int .i64 A.st, .slice ao n ca, .slice bo m cb], .int .i64 a0] W fun e w' => e = .returned (.bool X0) ∧ Since W w') := fun W hW => by rw [hX0]; exact HAA.out a0 W HQ.out.1 hW
          have HBAp : Hid (∀ W, Since w W → Calls Try.prog 151 #[.agg #[.int .i64 B.st, .slice co n2 cc1, .slice dO m2 cd], .int .i64 b0] W fun e w' => e = .returned (.bool Y0) ∧ Since W w') := fun W hW => by rw [hY0]; exact HBA.out b0 W HQ.out.2 hW
          have HOPp : Hid (∀ W, Calls Try.prog 181 #[.int .i64 op, .bool X0, .bool Y0] W fun e w' => e = .returned (.bool Z0) ∧ Since W w') := fun W => by rw [hZ0]; exact op13_any op X0 Y0 W
          have hblen : bs.length ≤ 4000000 := by rw [HBS.out]; simp; omega
          have HXL : Hid (xs.length ≤ 4000000) := by unfold Hid; rw [HXS.out]; simp; omega
          have HKW : Hid (∀ w', Blk w' wA.heap.size 39 #[.int .i64 B.st, .slice co n2 cc1, .slice dO m2 cd] → Own (wA.heap.size + 3) w' (.slice (some ⟨og, 0, none⟩) gs.length oc) (gs.map (fun x : List Int => x[0]?.getD 0)) → Own (wA.heap.size + 3) w' (.slice (some ⟨rg, 0, none⟩) gs.length rc) (gs.map (fun x : List Int => x[1]?.getD 0)) → Since wA w' → w'.cell? ⟨w.heap.size, 0, none⟩ = some (.int .i64 A.st) ∧ w'.cell? ⟨w.heap.size, 1, none⟩ = some (.slice ao n ca) ∧ w'.cell? ⟨w.heap.size, 2, none⟩ = some (.slice bo m cb) ∧ w'.cell? ⟨w.heap.size + 1, 0, none⟩ = some (.int .i64 B.st) ∧ w'.cell? ⟨w.heap.size + 1, 1, none⟩ = some (.slice co n2 cc1) ∧ w'.cell? ⟨w.heap.size + 1, 2, none⟩ = some (.slice dO m2 cd) ∧ w'.cell? ⟨og, p, none⟩ = some (.int .i64 a0) ∧ w'.cell? ⟨rg, p, none⟩ = some (.int .i64 b0)) := by
            intro w' hb ho hr hs
            obtain ⟨⟨r0, r1, r2⟩, _⟩ := (BA.out.since hs).threeA
            obtain ⟨⟨r3, r4, r5⟩, _⟩ := hb.threeA
            rw [HAZ.out] at r3 r4 r5
            obtain ⟨r6, r7⟩ := HCE.out p a0 b0 HP.out w' ho hr
            exact ⟨r0, r1, r2, r3, r4, r5, r6, r7⟩
          have HKM := HKW
          have HKC : Hid (∀ w', Since wr w' → w'.cell? ⟨w.heap.size, 0, none⟩ = some (.int .i64 A.st) ∧ w'.cell? ⟨w.heap.size, 1, none⟩ = some (.slice ao n ca) ∧ w'.cell? ⟨w.heap.size, 2, none⟩ = some (.slice bo m cb) ∧ w'.cell? ⟨w.heap.size + 1, 0, none⟩ = some (.int .i64 B.st) ∧ w'.cell? ⟨w.heap.size + 1, 1, none⟩ = some (.slice co n2 cc1) ∧ w'.cell? ⟨w.heap.size + 1, 2, none⟩ = some (.slice dO m2 cd) ∧ w'.cell? ⟨og, p, none⟩ = some (.int .i64 a0) ∧ w'.cell? ⟨rg, p, none⟩ = some (.int .i64 b0)) := fun w' hs => HKW.out w' (HX.out.b0.since hs) (HX.out.so.since hs) (HX.out.sr.since hs) (HX.out.sc.trans hs)
          obtain ⟨bvo, bvc, rfl⟩ := OwnBo.len HX.out.sb
          obtain ⟨nvo, nvc, rfl⟩ := HX.out.sn.len
          obtain ⟨tvo, tvc, rfl⟩ := HX.out.st.len
          obtain ⟨bln, hbln⟩ : ∃ l, l = bs.length := ⟨_, rfl⟩
          obtain ⟨xln, hxln⟩ : ∃ l, l = xs.length := ⟨_, rfl⟩
          rw [List.length_map, List.length_range] at HX ⊢
          rw [← hbln, ← hxln] at HX ⊢
          have HBLN := Lib.hid hbln
          have HXLN := Lib.hid hxln
          clear hX0 hY0 hZ0 hbln hxln HRG
          go_upto_region 24 with fail
          go_cut [104] (fun _ wx => ∃ (b4o : Option Addr) (b4n b4c : Nat), NmT wA #[.int .i64 B.st, .slice co n2 cc1, .slice dO m2 cd] wx (.slice (some ⟨og, 0, none⟩) gs.length oc) (.slice (some ⟨rg, 0, none⟩) gs.length rc) (.slice b4o b4n b4c) (.slice nvo xln nvc) (.slice tvo 9 tvc) (gs.map (fun x : List Int => x[0]?.getD 0)) (gs.map (fun x : List Int => x[1]?.getD 0)) (bs ++ [Z0]) xs ((List.range 9).map (cellG (prS A B) F [a0, b0])))
          case first =>
            (try clear HNA); (try clear HNB); (try clear HAA); (try clear HBA); (try clear HLH); (try clear HIN); (try clear HINB); (try clear HST); (try clear HSTB); (try clear HSTA); (try clear HACe); (try clear HFp); (try clear HFG); (try clear HRE); (try clear HCE); (try clear HP); (try clear HQ); (try clear HZ0); (try clear HBS); (try clear HXS); (try clear HBLN); (try clear HXLN); (try clear HXL); (try clear HNL); (try clear HAZ2); (try clear BA)
            go_wp2_with fail
            refine wp_region_held_drew (S := (fun w' => w'.cell? ⟨w.heap.size, 0, none⟩ = some (.int .i64 A.st) ∧ w'.cell? ⟨w.heap.size, 1, none⟩ = some (.slice ao n ca) ∧ w'.cell? ⟨w.heap.size, 2, none⟩ = some (.slice bo m cb) ∧ w'.cell? ⟨w.heap.size + 1, 0, none⟩ = some (.int .i64 B.st) ∧ w'.cell? ⟨w.heap.size + 1, 1, none⟩ = some (.slice co n2 cc1) ∧ w'.cell? ⟨w.heap.size + 1, 2, none⟩ = some (.slice dO m2 cd) ∧ w'.cell? ⟨og, p, none⟩ = some (.int .i64 a0) ∧ w'.cell? ⟨rg, p, none⟩ = some (.int .i64 b0))) (by kernel_rfl) (HKC.out _ (Since.refl _).drew) (fun hHeld => ?_)
            refine take_yes 0 (some 86) (v := ?_) rfl (by kernel_rfl) (by kernel_rfl) (by kernel_rfl) (by kernel_rfl) (fun _ _ _ h => h) (by rfl) (by assumption) ?_ ?_
            rotate_left
            · (intro w' hSw; (try dsimp only at hSw); go_simp; try with_reducible rfl)
            try simp only [Act.put, List.setIfInBounds_toArray, List.set_cons_zero, List.set_cons_succ]
            refine take_yes 2 (some 88) (v := ?_) rfl (by kernel_rfl) (by kernel_rfl) (by kernel_rfl) (by kernel_rfl) (fun _ _ _ h => h) (by rfl) (by assumption) ?_ ?_
            rotate_left
            · (intro w' hSw; (try dsimp only at hSw); go_simp; try with_reducible rfl)
            try simp only [Act.put, List.setIfInBounds_toArray, List.set_cons_zero, List.set_cons_succ]
            refine take_yes 3 (some 89) (v := ?_) rfl (by kernel_rfl) (by kernel_rfl) (by kernel_rfl) (by kernel_rfl) (fun _ _ _ h => h) (by rfl) (by assumption) ?_ ?_
            rotate_left
            · (intro w' hSw; (try dsimp only at hSw); go_simp; try with_reducible rfl)
            try simp only [Act.put, List.setIfInBounds_toArray, List.set_cons_zero, List.set_cons_succ]
            refine take_yes 4 (some 90) (v := ?_) rfl (by kernel_rfl) (by kernel_rfl) (by kernel_rfl) (by kernel_rfl) (fun _ _ _ h => h) (by rfl) (by assumption) ?_ ?_
            rotate_left
            · (intro w' hSw; (try dsimp only at hSw); go_simp; try with_reducible rfl)
            try simp only [Act.put, List.setIfInBounds_toArray, List.set_cons_zero, List.set_cons_succ]
            refine take_yes 5 (some 91) (v := ?_) rfl (by kernel_rfl) (by kernel_rfl) (by kernel_rfl) (by kernel_rfl) (fun _ _ _ h => h) (by rfl) (by assumption) ?_ ?_
            rotate_left
            · (intro w' hSw; (try dsimp only at hSw); go_simp; try with_reducible rfl)
            try simp only [Act.put, List.setIfInBounds_toArray, List.set_cons_zero, List.set_cons_succ]
            refine take_yes 6 (some 92) (v := ?_) rfl (by kernel_rfl) (by kernel_rfl) (by kernel_rfl) (by kernel_rfl) (fun _ _ _ h => h) (by rfl) (by assumption) ?_ ?_
            rotate_left
            · (intro w' hSw; (try dsimp only at hSw); go_simp; try with_reducible rfl)
            try simp only [Act.put, List.setIfInBounds_toArray, List.set_cons_zero, List.set_cons_succ]
            refine take_yes 7 (some 93) (v := ?_) rfl (by kernel_rfl) (by kernel_rfl) (by kernel_rfl) (by kernel_rfl) (fun _ _ _ h => h) (by rfl) (by assumption) ?_ ?_
            rotate_left
            · (intro w' hSw; (try dsimp only at hSw); go_simp; try with_reducible rfl)
            try simp only [Act.put, List.setIfInBounds_toArray, List.set_cons_zero, List.set_cons_succ]
            refine take_yes 9 (some 95) (v := ?_) rfl (by kernel_rfl) (by kernel_rfl) (by kernel_rfl) (by kernel_rfl) (fun _ _ _ h => h) (by rfl) (by assumption) ?_ ?_
            rotate_left
            · (intro w' hSw; (try dsimp only at hSw); go_simp; try with_reducible rfl)
            try simp only [Act.put, List.setIfInBounds_toArray, List.set_cons_zero, List.set_cons_succ]
            refine take_yes 10 (some 96) (v := ?_) rfl (by kernel_rfl) (by kernel_rfl) (by kernel_rfl) (by kernel_rfl) (fun _ _ _ h => h) (by rfl) (by assumption) ?_ ?_
            rotate_left
            · (intro w' hSw; (try dsimp only at hSw); go_simp; try with_reducible rfl)
            try simp only [Act.put, List.setIfInBounds_toArray, List.set_cons_zero, List.set_cons_succ]
            refine take_yes 11 (some 97) (v := ?_) rfl (by kernel_rfl) (by kernel_rfl) (by kernel_rfl) (by kernel_rfl) (fun _ _ _ h => h) (by rfl) (by assumption) ?_ ?_
            rotate_left
            · (intro w' hSw; (try dsimp only at hSw); go_simp; try with_reducible rfl)
            try simp only [Act.put, List.setIfInBounds_toArray, List.set_cons_zero, List.set_cons_succ]
            refine take_yes 12 (some 98) (v := ?_) rfl (by kernel_rfl) (by kernel_rfl) (by kernel_rfl) (by kernel_rfl) (fun _ _ _ h => h) (by rfl) (by assumption) ?_ ?_
            rotate_left
            · (intro w' hSw; (try dsimp only at hSw); go_simp; try with_reducible rfl)
            try simp only [Act.put, List.setIfInBounds_toArray, List.set_cons_zero, List.set_cons_succ]
            refine take_yes 13 (some 99) (v := ?_) rfl (by kernel_rfl) (by kernel_rfl) (by kernel_rfl) (by kernel_rfl) (fun _ _ _ h => h) (by rfl) (by assumption) ?_ ?_
            rotate_left
            · (intro w' hSw; (try dsimp only at hSw); go_simp; try with_reducible rfl)
            try simp only [Act.put, List.setIfInBounds_toArray, List.set_cons_zero, List.set_cons_succ]
            refine take_two 1 8 rfl rfl (by kernel_rfl) (by rfl) (by rfl) (fun K hK => ?_) (fun K hK => ?_)
            · skip
              obtain ⟨⟨q0, q1, q2⟩, _⟩ := (HX.out.bx.since ((Since.refl wr).drew)).threeA
              rw [HAZ3.out] at q0 q1 q2
              go_simp
              clear q0 q1 q2
              refine hK.out _ _ (HKC.out _ ((Since.refl wr).drew)) (fun hHeld7 => ?_)
              clear hK K hHeld
              try simp only [Act.put, List.setIfInBounds_toArray, List.set_cons_zero, List.set_cons_succ]
              refine take_run 8 rfl (by kernel_rfl) (by rfl) (fun K hK => ?_)
              go_simp
              refine (HAAp.out _ (HXw.out.trans ((Since.refl wr).drew))).mono ?_
              rintro en wq9 ⟨rfl, hq⟩
              have hc10 := ((Since.refl wr).drew).trans hq
              refine hK.out _ _ (HKC.out _ hc10) (fun hHeld8 => ?_)
              clear hK K hHeld7 hq
              try simp only [Act.put, List.setIfInBounds_toArray, List.set_cons_zero, List.set_cons_succ]
              refine take_run 14 rfl (by kernel_rfl) (by rfl) (fun K hK => ?_)
              go_simp
              refine (HBAp.out _ (HXw.out.trans (hc10))).mono ?_
              rintro en wq12 ⟨rfl, hq⟩
              have hc13 := (hc10).trans hq
              refine hK.out _ _ (HKC.out _ hc13) (fun hHeld11 => ?_)
              clear hK K hHeld8 hq
              try simp only [Act.put, List.setIfInBounds_toArray, List.set_cons_zero, List.set_cons_succ]
              refine take_run 15 rfl (by kernel_rfl) (by rfl) (fun K hK => ?_)
              go_simp
              refine (HOPp.out _).mono ?_
              rintro en wq15 ⟨rfl, hq⟩
              have hc16 := (hc13).trans hq
              refine hK.out _ _ (HKC.out _ hc16) (fun hHeld14 => ?_)
              clear hK K hHeld11 hq
              try simp only [Act.put, List.setIfInBounds_toArray, List.set_cons_zero, List.set_cons_succ]
              refine take_run 16 rfl (by kernel_rfl) (by rfl) (fun K hK => ?_)
              go_simp
              obtain ⟨wb20, hwb20⟩ : ∃ q, q = wq15.alloc (.cells #[.bool Z0] 4) := ⟨_, rfl⟩
              obtain ⟨gwb20, hgwb20⟩ : ∃ q, q = wq15.heap.size := ⟨_, rfl⟩
              have hc18 : Since wr wb20 := by rw [hwb20]; exact Since.alloc (hc16) _
              have HBL19 : Hid (Blk wb20 gwb20 4 #[.bool Z0]) := by rw [hwb20]; exact Blk.new hgwb20 _ _
              try rw [← hwb20]
              try rw [← hgwb20]
              clear hwb20 hgwb20
              refine hK.out _ _ (HKC.out _ hc18) (fun hHeld17 => ?_)
              clear hK K hHeld14
              try simp only [Act.put, List.setIfInBounds_toArray, List.set_cons_zero, List.set_cons_succ]
              refine take_run 17 rfl (by kernel_rfl) (by rfl) (fun K hK => ?_)
              have HX2 := Lib.hid (HX.out.since (hc18))
              refine wp_append_boolv (.tmp 87) (.tmp 102) rfl (wA.heap.size + 3) _ _ rfl HX2.out.sb _ Z0 rfl HBL19.out hblen HX2.out.lt ?_
              intro v4 w4 ho4 hg4
              obtain ⟨b4o, b4c, hb4⟩ := OwnBo.len ho4
              obtain ⟨b4n, hb4n⟩ : ∃ l, l = (bs ++ [Z0]).length := ⟨_, rfl⟩
              rw [← hb4n] at hb4
              subst hb4
              clear hb4n
              have HM4 := Lib.hid (HX2.out.mid hg4)
              have HO4 := Lib.hid (HX2.out.so.grownX hg4 (apart_types HX2.out.so.2 HX2.out.sb (by decide)))
              have HX4 := Lib.hid (HX2.out.acc ho4 hg4)
              clear ho4 hg4
              refine hK.out _ _ (HKM.out _ HM4.out.1 HO4.out HM4.out.2.1 HM4.out.2.2.1) (fun hHeld21 => ?_)
              clear hK K hHeld17
              try simp only [Act.put, List.setIfInBounds_toArray, List.set_cons_zero, List.set_cons_succ]
              refine take_yes 18 (some 104) (v := ?_) rfl (by kernel_rfl) (by kernel_rfl) (by kernel_rfl) (by kernel_rfl) (fun _ _ _ h => h) (by rfl) (by assumption) ?_ ?_
              rotate_left
              · (intro w' hSw; (try dsimp only at hSw); go_simp; try with_reducible rfl)
              try simp only [Act.put, List.setIfInBounds_toArray, List.set_cons_zero, List.set_cons_succ]
              refine take_run 19 rfl (by kernel_rfl) (by rfl) (fun K hK => ?_)
              obtain ⟨⟨q0, q1, q2⟩, q3, q4, q5⟩ := HM4.out.2.2.2.threeA
              rw [HAZ3.out] at q0 q1 q2 q3 q4 q5
              go_simp
              clear q0 q1 q2 q3 q4 q5
              rw [HAZ3.out] at HX4
              refine hK.out _ _ (HKW.out _ HX4.out.b0 HX4.out.so HX4.out.sr HX4.out.sc) (fun hHeldz => ?_)
              clear hK K hHeld21
              try simp only [Act.put, List.setIfInBounds_toArray, List.set_cons_zero, List.set_cons_succ]
              refine wpAnyH_done (by kernel_rfl) ?_ _
              clear hHeldz HKC HKM HKW HM4 HO4
              obtain ⟨w5, hw5⟩ : ∃ w5, w5 = w4.setCell ⟨w.heap.size + 3, 1, none⟩ (.slice b4o b4n b4c) := ⟨_, rfl⟩
              rw [← hw5]
              rw [← hw5] at HX4
              clear hw5 HX HX2
              go_wp2_with fail
              go_meet
              exact ⟨_, _, _, HX4.out⟩
            · skip
              go_simp
              refine (HAAp.out _ (HXw.out.trans ((Since.refl wr).drew))).mono ?_
              rintro en wq23 ⟨rfl, hq⟩
              have hc24 := ((Since.refl wr).drew).trans hq
              refine hK.out _ _ (HKC.out _ hc24) (fun hHeld22 => ?_)
              clear hK K hHeld hq
              try simp only [Act.put, List.setIfInBounds_toArray, List.set_cons_zero, List.set_cons_succ]
              refine take_two 1 14 rfl rfl (by kernel_rfl) (by rfl) (by rfl) (fun K hK => ?_) (fun K hK => ?_)
              · skip
                obtain ⟨⟨q0, q1, q2⟩, _⟩ := (HX.out.bx.since (hc24)).threeA
                rw [HAZ3.out] at q0 q1 q2
                go_simp
                clear q0 q1 q2
                refine hK.out _ _ (HKC.out _ (hc24)) (fun hHeld25 => ?_)
                clear hK K hHeld22
                try simp only [Act.put, List.setIfInBounds_toArray, List.set_cons_zero, List.set_cons_succ]
                refine take_run 14 rfl (by kernel_rfl) (by rfl) (fun K hK => ?_)
                go_simp
                refine (HBAp.out _ (HXw.out.trans (hc24))).mono ?_
                rintro en wq27 ⟨rfl, hq⟩
                have hc28 := (hc24).trans hq
                refine hK.out _ _ (HKC.out _ hc28) (fun hHeld26 => ?_)
                clear hK K hHeld25 hq
                try simp only [Act.put, List.setIfInBounds_toArray, List.set_cons_zero, List.set_cons_succ]
                refine take_run 15 rfl (by kernel_rfl) (by rfl) (fun K hK => ?_)
                go_simp
                refine (HOPp.out _).mono ?_
                rintro en wq30 ⟨rfl, hq⟩
                have hc31 := (hc28).trans hq
                refine hK.out _ _ (HKC.out _ hc31) (fun hHeld29 => ?_)
                clear hK K hHeld26 hq
                try simp only [Act.put, List.setIfInBounds_toArray, List.set_cons_zero, List.set_cons_succ]
                refine take_run 16 rfl (by kernel_rfl) (by rfl) (fun K hK => ?_)
                go_simp
                obtain ⟨wb35, hwb35⟩ : ∃ q, q = wq30.alloc (.cells #[.bool Z0] 4) := ⟨_, rfl⟩
                obtain ⟨gwb35, hgwb35⟩ : ∃ q, q = wq30.heap.size := ⟨_, rfl⟩
                have hc33 : Since wr wb35 := by rw [hwb35]; exact Since.alloc (hc31) _
                have HBL34 : Hid (Blk wb35 gwb35 4 #[.bool Z0]) := by rw [hwb35]; exact Blk.new hgwb35 _ _
                try rw [← hwb35]
                try rw [← hgwb35]
                clear hwb35 hgwb35
                refine hK.out _ _ (HKC.out _ hc33) (fun hHeld32 => ?_)
                clear hK K hHeld29
                try simp only [Act.put, List.setIfInBounds_toArray, List.set_cons_zero, List.set_cons_succ]
                refine take_run 17 rfl (by kernel_rfl) (by rfl) (fun K hK => ?_)
                have HX2 := Lib.hid (HX.out.since (hc33))
                refine wp_append_boolv (.tmp 87) (.tmp 102) rfl (wA.heap.size + 3) _ _ rfl HX2.out.sb _ Z0 rfl HBL34.out hblen HX2.out.lt ?_
                intro v4 w4 ho4 hg4
                obtain ⟨b4o, b4c, hb4⟩ := OwnBo.len ho4
                obtain ⟨b4n, hb4n⟩ : ∃ l, l = (bs ++ [Z0]).length := ⟨_, rfl⟩
                rw [← hb4n] at hb4
                subst hb4
                clear hb4n
                have HM4 := Lib.hid (HX2.out.mid hg4)
                have HO4 := Lib.hid (HX2.out.so.grownX hg4 (apart_types HX2.out.so.2 HX2.out.sb (by decide)))
                have HX4 := Lib.hid (HX2.out.acc ho4 hg4)
                clear ho4 hg4
                refine hK.out _ _ (HKM.out _ HM4.out.1 HO4.out HM4.out.2.1 HM4.out.2.2.1) (fun hHeld36 => ?_)
                clear hK K hHeld32
                try simp only [Act.put, List.setIfInBounds_toArray, List.set_cons_zero, List.set_cons_succ]
                refine take_yes 18 (some 104) (v := ?_) rfl (by kernel_rfl) (by kernel_rfl) (by kernel_rfl) (by kernel_rfl) (fun _ _ _ h => h) (by rfl) (by assumption) ?_ ?_
                rotate_left
                · (intro w' hSw; (try dsimp only at hSw); go_simp; try with_reducible rfl)
                try simp only [Act.put, List.setIfInBounds_toArray, List.set_cons_zero, List.set_cons_succ]
                refine take_run 19 rfl (by kernel_rfl) (by rfl) (fun K hK => ?_)
                obtain ⟨⟨q0, q1, q2⟩, q3, q4, q5⟩ := HM4.out.2.2.2.threeA
                rw [HAZ3.out] at q0 q1 q2 q3 q4 q5
                go_simp
                clear q0 q1 q2 q3 q4 q5
                rw [HAZ3.out] at HX4
                refine hK.out _ _ (HKW.out _ HX4.out.b0 HX4.out.so HX4.out.sr HX4.out.sc) (fun hHeldz => ?_)
                clear hK K hHeld36
                try simp only [Act.put, List.setIfInBounds_toArray, List.set_cons_zero, List.set_cons_succ]
                refine wpAnyH_done (by kernel_rfl) ?_ _
                clear hHeldz HKC HKM HKW HM4 HO4
                obtain ⟨w5, hw5⟩ : ∃ w5, w5 = w4.setCell ⟨w.heap.size + 3, 1, none⟩ (.slice b4o b4n b4c) := ⟨_, rfl⟩
                rw [← hw5]
                rw [← hw5] at HX4
                clear hw5 HX HX2
                go_wp2_with fail
                go_meet
                exact ⟨_, _, _, HX4.out⟩
              · skip
                go_simp
                refine (HBAp.out _ (HXw.out.trans (hc24))).mono ?_
                rintro en wq38 ⟨rfl, hq⟩
                have hc39 := (hc24).trans hq
                refine hK.out _ _ (HKC.out _ hc39) (fun hHeld37 => ?_)
                clear hK K hHeld22 hq
                try simp only [Act.put, List.setIfInBounds_toArray, List.set_cons_zero, List.set_cons_succ]
                refine take_two 1 15 rfl rfl (by kernel_rfl) (by rfl) (by rfl) (fun K hK => ?_) (fun K hK => ?_)
                · skip
                  obtain ⟨⟨q0, q1, q2⟩, _⟩ := (HX.out.bx.since (hc39)).threeA
                  rw [HAZ3.out] at q0 q1 q2
                  go_simp
                  clear q0 q1 q2
                  refine hK.out _ _ (HKC.out _ (hc39)) (fun hHeld40 => ?_)
                  clear hK K hHeld37
                  try simp only [Act.put, List.setIfInBounds_toArray, List.set_cons_zero, List.set_cons_succ]
                  refine take_run 15 rfl (by kernel_rfl) (by rfl) (fun K hK => ?_)
                  go_simp
                  refine (HOPp.out _).mono ?_
                  rintro en wq42 ⟨rfl, hq⟩
                  have hc43 := (hc39).trans hq
                  refine hK.out _ _ (HKC.out _ hc43) (fun hHeld41 => ?_)
                  clear hK K hHeld40 hq
                  try simp only [Act.put, List.setIfInBounds_toArray, List.set_cons_zero, List.set_cons_succ]
                  refine take_run 16 rfl (by kernel_rfl) (by rfl) (fun K hK => ?_)
                  go_simp
                  obtain ⟨wb47, hwb47⟩ : ∃ q, q = wq42.alloc (.cells #[.bool Z0] 4) := ⟨_, rfl⟩
                  obtain ⟨gwb47, hgwb47⟩ : ∃ q, q = wq42.heap.size := ⟨_, rfl⟩
                  have hc45 : Since wr wb47 := by rw [hwb47]; exact Since.alloc (hc43) _
                  have HBL46 : Hid (Blk wb47 gwb47 4 #[.bool Z0]) := by rw [hwb47]; exact Blk.new hgwb47 _ _
                  try rw [← hwb47]
                  try rw [← hgwb47]
                  clear hwb47 hgwb47
                  refine hK.out _ _ (HKC.out _ hc45) (fun hHeld44 => ?_)
                  clear hK K hHeld41
                  try simp only [Act.put, List.setIfInBounds_toArray, List.set_cons_zero, List.set_cons_succ]
                  refine take_run 17 rfl (by kernel_rfl) (by rfl) (fun K hK => ?_)
                  have HX2 := Lib.hid (HX.out.since (hc45))
                  refine wp_append_boolv (.tmp 87) (.tmp 102) rfl (wA.heap.size + 3) _ _ rfl HX2.out.sb _ Z0 rfl HBL46.out hblen HX2.out.lt ?_
                  intro v4 w4 ho4 hg4
                  obtain ⟨b4o, b4c, hb4⟩ := OwnBo.len ho4
                  obtain ⟨b4n, hb4n⟩ : ∃ l, l = (bs ++ [Z0]).length := ⟨_, rfl⟩
                  rw [← hb4n] at hb4
                  subst hb4
                  clear hb4n
                  have HM4 := Lib.hid (HX2.out.mid hg4)
                  have HO4 := Lib.hid (HX2.out.so.grownX hg4 (apart_types HX2.out.so.2 HX2.out.sb (by decide)))
                  have HX4 := Lib.hid (HX2.out.acc ho4 hg4)
                  clear ho4 hg4
                  refine hK.out _ _ (HKM.out _ HM4.out.1 HO4.out HM4.out.2.1 HM4.out.2.2.1) (fun hHeld48 => ?_)
                  clear hK K hHeld44
                  try simp only [Act.put, List.setIfInBounds_toArray, List.set_cons_zero, List.set_cons_succ]
                  refine take_yes 18 (some 104) (v := ?_) rfl (by kernel_rfl) (by kernel_rfl) (by kernel_rfl) (by kernel_rfl) (fun _ _ _ h => h) (by rfl) (by assumption) ?_ ?_
                  rotate_left
                  · (intro w' hSw; (try dsimp only at hSw); go_simp; try with_reducible rfl)
                  try simp only [Act.put, List.setIfInBounds_toArray, List.set_cons_zero, List.set_cons_succ]
                  refine take_run 19 rfl (by kernel_rfl) (by rfl) (fun K hK => ?_)
                  obtain ⟨⟨q0, q1, q2⟩, q3, q4, q5⟩ := HM4.out.2.2.2.threeA
                  rw [HAZ3.out] at q0 q1 q2 q3 q4 q5
                  go_simp
                  clear q0 q1 q2 q3 q4 q5
                  rw [HAZ3.out] at HX4
                  refine hK.out _ _ (HKW.out _ HX4.out.b0 HX4.out.so HX4.out.sr HX4.out.sc) (fun hHeldz => ?_)
                  clear hK K hHeld48
                  try simp only [Act.put, List.setIfInBounds_toArray, List.set_cons_zero, List.set_cons_succ]
                  refine wpAnyH_done (by kernel_rfl) ?_ _
                  clear hHeldz HKC HKM HKW HM4 HO4
                  obtain ⟨w5, hw5⟩ : ∃ w5, w5 = w4.setCell ⟨w.heap.size + 3, 1, none⟩ (.slice b4o b4n b4c) := ⟨_, rfl⟩
                  rw [← hw5]
                  rw [← hw5] at HX4
                  clear hw5 HX HX2
                  go_wp2_with fail
                  go_meet
                  exact ⟨_, _, _, HX4.out⟩
                · skip
                  go_simp
                  refine (HOPp.out _).mono ?_
                  rintro en wq50 ⟨rfl, hq⟩
                  have hc51 := (hc39).trans hq
                  refine hK.out _ _ (HKC.out _ hc51) (fun hHeld49 => ?_)
                  clear hK K hHeld37 hq
                  try simp only [Act.put, List.setIfInBounds_toArray, List.set_cons_zero, List.set_cons_succ]
                  refine take_two 1 16 rfl rfl (by kernel_rfl) (by rfl) (by rfl) (fun K hK => ?_) (fun K hK => ?_)
                  · skip
                    obtain ⟨⟨q0, q1, q2⟩, _⟩ := (HX.out.bx.since (hc51)).threeA
                    rw [HAZ3.out] at q0 q1 q2
                    go_simp
                    clear q0 q1 q2
                    refine hK.out _ _ (HKC.out _ (hc51)) (fun hHeld52 => ?_)
                    clear hK K hHeld49
                    try simp only [Act.put, List.setIfInBounds_toArray, List.set_cons_zero, List.set_cons_succ]
                    refine take_run 16 rfl (by kernel_rfl) (by rfl) (fun K hK => ?_)
                    go_simp
                    obtain ⟨wb56, hwb56⟩ : ∃ q, q = wq50.alloc (.cells #[.bool Z0] 4) := ⟨_, rfl⟩
                    obtain ⟨gwb56, hgwb56⟩ : ∃ q, q = wq50.heap.size := ⟨_, rfl⟩
                    have hc54 : Since wr wb56 := by rw [hwb56]; exact Since.alloc (hc51) _
                    have HBL55 : Hid (Blk wb56 gwb56 4 #[.bool Z0]) := by rw [hwb56]; exact Blk.new hgwb56 _ _
                    try rw [← hwb56]
                    try rw [← hgwb56]
                    clear hwb56 hgwb56
                    refine hK.out _ _ (HKC.out _ hc54) (fun hHeld53 => ?_)
                    clear hK K hHeld52
                    try simp only [Act.put, List.setIfInBounds_toArray, List.set_cons_zero, List.set_cons_succ]
                    refine take_run 17 rfl (by kernel_rfl) (by rfl) (fun K hK => ?_)
                    have HX2 := Lib.hid (HX.out.since (hc54))
                    refine wp_append_boolv (.tmp 87) (.tmp 102) rfl (wA.heap.size + 3) _ _ rfl HX2.out.sb _ Z0 rfl HBL55.out hblen HX2.out.lt ?_
                    intro v4 w4 ho4 hg4
                    obtain ⟨b4o, b4c, hb4⟩ := OwnBo.len ho4
                    obtain ⟨b4n, hb4n⟩ : ∃ l, l = (bs ++ [Z0]).length := ⟨_, rfl⟩
                    rw [← hb4n] at hb4
                    subst hb4
                    clear hb4n
                    have HM4 := Lib.hid (HX2.out.mid hg4)
                    have HO4 := Lib.hid (HX2.out.so.grownX hg4 (apart_types HX2.out.so.2 HX2.out.sb (by decide)))
                    have HX4 := Lib.hid (HX2.out.acc ho4 hg4)
                    clear ho4 hg4
                    refine hK.out _ _ (HKM.out _ HM4.out.1 HO4.out HM4.out.2.1 HM4.out.2.2.1) (fun hHeld57 => ?_)
                    clear hK K hHeld53
                    try simp only [Act.put, List.setIfInBounds_toArray, List.set_cons_zero, List.set_cons_succ]
                    refine take_yes 18 (some 104) (v := ?_) rfl (by kernel_rfl) (by kernel_rfl) (by kernel_rfl) (by kernel_rfl) (fun _ _ _ h => h) (by rfl) (by assumption) ?_ ?_
                    rotate_left
                    · (intro w' hSw; (try dsimp only at hSw); go_simp; try with_reducible rfl)
                    try simp only [Act.put, List.setIfInBounds_toArray, List.set_cons_zero, List.set_cons_succ]
                    refine take_run 19 rfl (by kernel_rfl) (by rfl) (fun K hK => ?_)
                    obtain ⟨⟨q0, q1, q2⟩, q3, q4, q5⟩ := HM4.out.2.2.2.threeA
                    rw [HAZ3.out] at q0 q1 q2 q3 q4 q5
                    go_simp
                    clear q0 q1 q2 q3 q4 q5
                    rw [HAZ3.out] at HX4
                    refine hK.out _ _ (HKW.out _ HX4.out.b0 HX4.out.so HX4.out.sr HX4.out.sc) (fun hHeldz => ?_)
                    clear hK K hHeld57
                    try simp only [Act.put, List.setIfInBounds_toArray, List.set_cons_zero, List.set_cons_succ]
                    refine wpAnyH_done (by kernel_rfl) ?_ _
                    clear hHeldz HKC HKM HKW HM4 HO4
                    obtain ⟨w5, hw5⟩ : ∃ w5, w5 = w4.setCell ⟨w.heap.size + 3, 1, none⟩ (.slice b4o b4n b4c) := ⟨_, rfl⟩
                    rw [← hw5]
                    rw [← hw5] at HX4
                    clear hw5 HX HX2
                    go_wp2_with fail
                    go_meet
                    exact ⟨_, _, _, HX4.out⟩
                  · skip
                    go_simp
                    obtain ⟨wb61, hwb61⟩ : ∃ q, q = wq50.alloc (.cells #[.bool Z0] 4) := ⟨_, rfl⟩
                    obtain ⟨gwb61, hgwb61⟩ : ∃ q, q = wq50.heap.size := ⟨_, rfl⟩
                    have hc59 : Since wr wb61 := by rw [hwb61]; exact Since.alloc (hc51) _
                    have HBL60 : Hid (Blk wb61 gwb61 4 #[.bool Z0]) := by rw [hwb61]; exact Blk.new hgwb61 _ _
                    try rw [← hwb61]
                    try rw [← hgwb61]
                    clear hwb61 hgwb61
                    refine hK.out _ _ (HKC.out _ hc59) (fun hHeld58 => ?_)
                    clear hK K hHeld49
                    try simp only [Act.put, List.setIfInBounds_toArray, List.set_cons_zero, List.set_cons_succ]
                    refine take_run 1 rfl (by kernel_rfl) (by rfl) (fun K hK => ?_)
                    obtain ⟨⟨q0, q1, q2⟩, _⟩ := (HX.out.bx.since (hc59)).threeA
                    rw [HAZ3.out] at q0 q1 q2
                    go_simp
                    clear q0 q1 q2
                    refine hK.out _ _ (HKC.out _ (hc59)) (fun hHeld62 => ?_)
                    clear hK K hHeld58
                    try simp only [Act.put, List.setIfInBounds_toArray, List.set_cons_zero, List.set_cons_succ]
                    refine take_run 17 rfl (by kernel_rfl) (by rfl) (fun K hK => ?_)
                    have HX2 := Lib.hid (HX.out.since (hc59))
                    refine wp_append_boolv (.tmp 87) (.tmp 102) rfl (wA.heap.size + 3) _ _ rfl HX2.out.sb _ Z0 rfl HBL60.out hblen HX2.out.lt ?_
                    intro v4 w4 ho4 hg4
                    obtain ⟨b4o, b4c, hb4⟩ := OwnBo.len ho4
                    obtain ⟨b4n, hb4n⟩ : ∃ l, l = (bs ++ [Z0]).length := ⟨_, rfl⟩
                    rw [← hb4n] at hb4
                    subst hb4
                    clear hb4n
                    have HM4 := Lib.hid (HX2.out.mid hg4)
                    have HO4 := Lib.hid (HX2.out.so.grownX hg4 (apart_types HX2.out.so.2 HX2.out.sb (by decide)))
                    have HX4 := Lib.hid (HX2.out.acc ho4 hg4)
                    clear ho4 hg4
                    refine hK.out _ _ (HKM.out _ HM4.out.1 HO4.out HM4.out.2.1 HM4.out.2.2.1) (fun hHeld63 => ?_)
                    clear hK K hHeld62
                    try simp only [Act.put, List.setIfInBounds_toArray, List.set_cons_zero, List.set_cons_succ]
                    refine take_yes 18 (some 104) (v := ?_) rfl (by kernel_rfl) (by kernel_rfl) (by kernel_rfl) (by kernel_rfl) (fun _ _ _ h => h) (by rfl) (by assumption) ?_ ?_
                    rotate_left
                    · (intro w' hSw; (try dsimp only at hSw); go_simp; try with_reducible rfl)
                    try simp only [Act.put, List.setIfInBounds_toArray, List.set_cons_zero, List.set_cons_succ]
                    refine take_run 19 rfl (by kernel_rfl) (by rfl) (fun K hK => ?_)
                    obtain ⟨⟨q0, q1, q2⟩, q3, q4, q5⟩ := HM4.out.2.2.2.threeA
                    rw [HAZ3.out] at q0 q1 q2 q3 q4 q5
                    go_simp
                    clear q0 q1 q2 q3 q4 q5
                    rw [HAZ3.out] at HX4
                    refine hK.out _ _ (HKW.out _ HX4.out.b0 HX4.out.so HX4.out.sr HX4.out.sc) (fun hHeldz => ?_)
                    clear hK K hHeld63
                    try simp only [Act.put, List.setIfInBounds_toArray, List.set_cons_zero, List.set_cons_succ]
                    refine wpAnyH_done (by kernel_rfl) ?_ _
                    clear hHeldz HKC HKM HKW HM4 HO4
                    obtain ⟨w5, hw5⟩ : ∃ w5, w5 = w4.setCell ⟨w.heap.size + 3, 1, none⟩ (.slice b4o b4n b4c) := ⟨_, rfl⟩
                    rw [← hw5]
                    rw [← hw5] at HX4
                    clear hw5 HX HX2
                    go_wp2_with fail
                    go_meet
                    exact ⟨_, _, _, HX4.out⟩
          case rest =>
            obtain ⟨wy, hwy⟩ : ∃ W, W = wc := ⟨_, rfl⟩
            subst hwy
            obtain ⟨b4o, b4n, b4c, hx4⟩ := hcut
            have HX4 := Lib.hid hx4
            clear hx4
            obtain ⟨⟨q0, q1, q2⟩, q3, q4, q5⟩ := HX4.out.bx.threeA
            rw [HAZ3.out] at q0 q1 q2 q3 q4 q5
            have hbz5 := HX4.out.lt
            have HSN := Lib.hid HX4.out.sn
            have HB5 := Lib.hid HX4.out.bx
            have hxl9 := HXL.out
            go_wp2_with (at_builtin; go_must (refine wpList_append_rowv rfl (.tmp 106) (.tmp 108) rfl (wA.heap.size + 3) (.slice nvo xln nvc) xs _ (by first | rfl | simp [Act.eval]) HSN.out (.slice tvo 9 tvc) (by first | rfl | simp [Act.eval]) rfl hxl9 hbz5 ?_); intro v6 w6 ho6 hg6; obtain ⟨v6o, v6n, v6c, rfl⟩ := rowv_shape HSN.out ho6; obtain ⟨⟨z0, z1, z2⟩, z3, z4, z5⟩ := (blk_keep HB5.out hg6 (fun q e => (HSN.out.lt q e).1) (by omega)).threeA; rw [HAZ3.out] at z0 z1 z2 z3 z4 z5)
            have HO6 := Lib.hid (HX4.out.fin ho6 hg6)
            have HO7 : Hid (NmO wA #[.int .i64 B.st, .slice co n2 cc1, .slice dO m2 cd] (w6.setCell ⟨w.heap.size + 3, 2, none⟩ (.slice v6o v6n v6c)) (.slice (some ⟨og, 0, none⟩) gs.length oc) (.slice (some ⟨rg, 0, none⟩) gs.length rc) (.slice b4o b4n b4c) (.slice v6o v6n v6c) (gs.map (fun x : List Int => x[0]?.getD 0)) (gs.map (fun x : List Int => x[1]?.getD 0)) ((F.take (p + 1)).map AC) ((F.take (p + 1)).map (fun x => (List.range 9).map (cellG (prS A B) F x)))) := by
              obtain ⟨hF, eF⟩ := HFp.out
              unfold Hid
              rw [map_take _ _ _ hF, map_take _ _ _ hF, eF, ← HBS.out, ← HXS.out, ← HZ0.out, ← HAZ3.out]
              exact HO6.out
            clear z0 z1 z2 z3 z4 z5 ho6 hg6
            go_roundw
            case rel => exact ⟨p + 1, gs, _, _, _, _, by go_num, rfl, rfl, by omega, HFG.out, by rw [show N + 1 - (p + 1) = N - p from by omega]; exact HRE.out, HO7.out⟩
            case measure => simp [intOf]; omega
    · have hFr : F = rs := by
        rw [← HRp.out]; exact runG_end _ _ _ _ (by omega)
      have htk : F.take p = F := List.take_of_length_le (by rw [hFr]; omega)
      rw [htk] at HO
      obtain ⟨bvo, bvc, rfl⟩ := OwnBo.len HO.out.sb
      obtain ⟨nvo, nvc, rfl⟩ := HO.out.sn.len
      have HDN := Lib.hid HO.out.done
      have hbz := HO.out.lt
      obtain ⟨⟨q0, q1, q2⟩, _⟩ := HO.out.bx.threeA
      obtain ⟨⟨r0, r1, r2⟩, r3, r4, r5⟩ := HO.out.b1.threeA
      rw [HAZ3.out] at q0 q1 q2
      rw [HAZ2.out] at r0 r1 r2 r3 r4 r5
      have hnl : ¬ ((p : Int) < (rs.length : Int)) := by omega
      have HSC := Lib.hid (HKA.out.trans HO.out.sc)
      have hAZ := HAZ.out
      clear hFr htk
      go_wp2
      refine bodyPost_ret (v := .agg #[.int .i64 0, .slice bvo (F.map AC).length bvc, .slice nvo (F.map (fun x => (List.range 9).map (cellG (prS A B) F x))).length nvc]) (by simp [results, Try.results169, go_sem, *]) rfl ?_
      refine ⟨_, rfl, ?_, ?_⟩
      · refine OwnA.wider (lo := wA.heap.size + 3) (hi := wr.heap.size) ?_ (by omega) (by simp)
        iterate 3 (with_reducible refine OwnA.far1 ?_ (.inl (by omega)) _ _)
        exact HDN.out
      · iterate 3 (with_reducible refine Since.setCell ?_ (by simp <;> omega) _)
        exact HSC.out
end Go.Proofs.Ytmaagihfjldgeaa
