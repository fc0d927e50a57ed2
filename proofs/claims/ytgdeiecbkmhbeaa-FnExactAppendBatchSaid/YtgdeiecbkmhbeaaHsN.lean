/- The laws' marks on histories, and their checks; the box of a variable that holds a history. -/
import Derived.Test.YtgdeiecbkmhbeaaHsK
namespace Go.Proofs.Ytgdeiecbkmhbeaa
set_option maxRecDepth 100000
open Go.ChangeShapes Go.WideShapes Go.ChangeAt Go.RowKit
set_option linter.unusedVariables false
set_option linter.unusedSimpArgs false

theorem Within.monoH {lo hi lo' hi' : Nat} {a b : World} (h : Within lo hi a b) (h1 : lo' ≤ lo) (h2 : hi ≤ hi') : Within lo' hi' a b := ⟨h.os, h.tape, h.output, h.size, fun i hi hn => h.block i hi (by omega)⟩
theorem Nest.join {w : World} : ∀ {lo a b hi : Nat} {ps : List (Value × Value)} {G1 G2 : List Grf} {g : Grf} (i : Nat) (hp : i < ps.length), Nest w lo a (ps.take i) G1 → a ≤ b → OwnG a b w (.agg #[ps[i].1, ps[i].2]) g → Nest w b hi (ps.drop (i + 1)) G2 → Nest w lo hi ps (G1 ++ g :: G2) := by
  intro lo a b hi ps G1 G2 g i hp h1 hab h2 h3
  have e : ps = ps.take i ++ ps[i] :: ps.drop (i + 1) := by rw [List.getElem_cons_drop, List.take_append_drop]
  have h4 : Nest w a hi (ps[i] :: ps.drop (i + 1)) (g :: G2) := ⟨b, hab, h3.le, h2, h3⟩
  have := h1.append h4
  rw [← e] at this
  exact this
theorem markedH_split (k : Int) (gs : List Grf) (j : Nat) (hj : j < gs.length) : (markedH k gs j).take j = cntH k (gs.take j) ∧ (markedH k gs j).drop (j + 1) = gs.drop (j + 1) := by
  have hl : (cntH k (gs.take j)).length = j := by rw [cntH_length, List.length_take]; omega
  unfold markedH
  constructor
  · rw [List.take_append_of_le_length (by omega), List.take_of_length_le (by omega)]
  · rw [List.drop_append, hl, List.drop_of_length_le (by omega), List.nil_append, List.drop_drop]; congr 1; omega
theorem markedH_next (k : Int) (gs : List Grf) (j : Nat) (hj : j < gs.length) : markedH k gs (j + 1) = cntH k (gs.take j) ++ cntG (k + szHs (gs.take j)) gs[j] :: gs.drop (j + 1) := by
  unfold markedH
  rw [cntH_step k gs j hj, List.append_assoc]; rfl
/-- A row whose graphs are marked up to j. -/
def MarkedR (lo hi : Nat) (w : World) (v : Value) (k : Int) (gs : List Grf) (j : Nat) (ps : List (Value × Value)) : Prop :=
  w.ownsRow lo 39 2 v gs.length (gcells ps) ∧ ps.length = gs.length ∧ InR lo hi v ∧ Nest w lo hi ps (markedH k gs j)
theorem row_keepG {w w' : World} {base size n : Nat} {v : Value} {xs : List Value} {u : Value} (h : w.ownsRow base 39 size v n xs) (k : w.grownBy w' u.ownBlock) (hu : ∀ b, u.ownBlock = some b → ∃ cur e fz, w.heap[b]? = some (.cells cur e fz) ∧ e ≠ 39) : w'.ownsRow base 39 size v n xs := by
  refine h.kept k ?_
  cases hb : u.ownBlock with
  | none =>
    cases hv : v.ownBlock with
    | none => exact .inl rfl
    | some q => exact .inr (by simp)
  | some q =>
    obtain ⟨cur, e, fz, hq, hne⟩ := hu q hb
    exact .inr (other_type h hq (fun x => hne x.symm))
theorem Own.blockT {base : Nat} {w : World} {v : Value} {xs : List Int} (h : Own base w v xs) : ∀ b, v.ownBlock = some b → ∃ cur e fz, w.heap[b]? = some (.cells cur e fz) ∧ e ≠ 39 := by
  intro b hb
  obtain ⟨cur, fz, hq⟩ := row_block h.2 b hb
  exact ⟨cur, _, fz, hq, by decide⟩
theorem OwnE.blockT {base : Nat} {w : World} {v : Value} {xs : List Edg} (h : OwnE base w v xs) : ∀ b, v.ownBlock = some b → ∃ cur e fz, w.heap[b]? = some (.cells cur e fz) ∧ e ≠ 39 := by
  intro b hb
  obtain ⟨cur, fz, hq⟩ := row_block h.2 b hb
  exact ⟨cur, _, fz, hq, by decide⟩
def MarkROut (lo hi : Nat) (w : World) (v : Value) (k : Int) (gs : List Grf) (e : Ending) (w' : World) : Prop :=
  e = .returned (.int .i64 (k + szHs gs)) ∧ OwnR lo hi w' v (cntH k gs) ∧ Within lo hi w w'
set_option maxHeartbeats 1000000 in
set_option maxRecDepth 100000 in
theorem markGraphS_any (lo hi : Nat) (v : Value) (gs : List Grf) (k : Int) (w : World) (h : OwnR lo hi w v gs) (hk0 : 0 ≤ k) (hk9 : k ≤ 100000000) (hl : gs.length ≤ 2097154 ∧ totH gs ≤ 2097154) :
    Calls Try.prog 87 #[v, .int .i64 k] w (MarkROut lo hi w v k gs) := by
  obtain ⟨ps, hr, hpl, hin, hN⟩ := h
  have HB := Lib.hid (fun j hj => big_get hl.2 j hj)
  have HT : Hid (∀ j, 0 ≤ szHs (gs.take j) ∧ szHs (gs.take j) ≤ 8388616) := fun j => by have := szHs_take gs j; have := hl.2; omega
  have HM0 : Hid (MarkedR lo hi w v k gs 0 ps) := ⟨hr, hpl, hin, by unfold markedH; simp [cntH]; exact hN⟩
  have hcase : v = .slice none 0 0 ∧ gs.length = 0 ∨ ∃ g cap, v = .slice (some ⟨g, 0, none⟩) gs.length cap ∧ lo ≤ g := by
    rcases hr.2 with ⟨a, b⟩ | ⟨g, cap, cur, a, b, _⟩
    · exact .inl ⟨a, b⟩
    · exact .inr ⟨g, cap, a, b⟩
  have HPL := Lib.hid hpl
  clear hr hin hN hpl
  obtain ⟨n, hn⟩ : ∃ n, n = gs.length := ⟨_, rfl⟩
  rw [← hn] at hcase
  have hn9 : n ≤ 2097154 := by omega
  have HN := Lib.hid hn
  clear hl hn
  rcases hcase with ⟨rfl, hn0⟩ | ⟨G, cap, rfl, hg⟩
  · subst hn0
    have HR : Hid (OwnR lo hi w (.slice none 0 0) (cntH k gs) ∧ k + szHs gs = k) := by
      have h0 : gs = [] := List.eq_nil_of_length_eq_zero HN.out.symm
      subst h0
      obtain ⟨m1, m2, m3, m4⟩ := HM0.out
      exact ⟨OwnR.nil _ _ _ m4.le, by simp [szHs]⟩
    go_enter Try.func87, Try.ntmps87
    go_wp2
    go_loopw [1, 5] (fun q i wr => q = .int .i64 k ∧ i = .int .i64 0 ∧ wr = w) (fun _ _ _ => 0)
    case atStart => exact ⟨rfl, rfl, rfl⟩
    case round =>
      obtain ⟨rfl, rfl, rfl⟩ := hrel
      go_wp2
      go_ret
      exact ⟨ret_int HR.out.2.symm, HR.out.1, Within.refl _ _ _⟩
  · go_enter Try.func87, Try.ntmps87
    go_wp2
    go_loopw [1, 5] (fun q i wr => ∃ (j : Nat) (z : Int), j ≤ n ∧ i = .int .i64 j ∧ q = .int .i64 z ∧ Hid (z = k + szHs (gs.take j)) ∧ 0 ≤ z ∧ z ≤ 200000000 ∧ Hid (MarkedR lo hi wr (.slice (some ⟨G, 0, none⟩) n cap) k gs j ps) ∧ Within lo hi w wr) (fun _ i _ => n - (intOf i).toNat)
    case atStart => exact ⟨0, k, Nat.zero_le _, rfl, rfl, by unfold Hid; simp [szHs], hk0, by omega, HM0.out, Within.refl _ _ _⟩
    case round =>
      obtain ⟨j, z, hj, rfl, rfl, HZ, hz0, hz9, HM, hw⟩ := hrel
      by_cases hlt : j < n
      · have hx : j < gs.length := by have := HN.out; omega
        obtain ⟨hr, hpl, hin, hN⟩ := HM.out
        have hpj : j < ps.length := by omega
        have hmj : j < (markedH k gs j).length := by rw [markedH_length k gs j (by omega)]; exact hx
        obtain ⟨a, b, ha, hab, hb, hO, hN1, hN2⟩ := hN.split j hpj hmj
        rw [markedH_get k gs j hx] at hO
        rw [(markedH_split k gs j hx).1] at hN1
        rw [(markedH_split k gs j hx).2] at hN2
        obtain ⟨va, vb, e, ka, ra, kb, rb⟩ := hO
        injection e with e; injection e with e; injection e with e1 e2; injection e2 with e2 e3
        obtain ⟨d0, d1⟩ := ownR_cells (cap := cap) (by rw [← HN.out] at hr; exact hr) (by rw [HN.out]; exact hpl.symm) j hpj
        rw [e1] at d0
        rw [e2] at d1
        obtain ⟨ao, ac, rfl⟩ := ka.len
        obtain ⟨bo, bc, rfl⟩ := kb.len
        have HR := Lib.hid hr
        have HN1 := Lib.hid hN1
        have HN2 := Lib.hid hN2
        have HA := Lib.hid ka
        have HBB := Lib.hid kb
        have HE1 := Lib.hid e1
        have HE2 := Lib.hid e2
        have HIN := Lib.hid hin
        have hm := HB.out j hx
        have ht := HT.out (j + 1)
        have hsz : Hid (szHs (gs.take (j + 1)) = szHs (gs.take j) + ((gs[j].vs.length : Int) + 4 * (gs[j].es.length : Int))) := szHs_step gs j hx
        have hz1 : 0 ≤ z + (gs[j].vs.length : Int) := by omega
        have hz2 : z + (gs[j].vs.length : Int) ≤ 1152921504606846976 := by omega
        clear hr hN1 hN2 ka kb e1 e2 e3 hin hN HM
        go_wp2_with fail
        refine (markIntS_any a _ gs[j].vs z _ HA.out hz0 (by omega) (by omega)).mono ?_
        rintro en w1 ⟨rfl, ho1, hg1⟩
        have hR1 := Lib.hid (row_keepG HR.out hg1 (Own.blockT HA.out))
        have hw1 : Within a b wr w1 := Within.of_grown hg1 ra
        have hE1 : Hid (OwnE a w1 (.slice bo gs[j].es.length bc) gs[j].es) := HBB.out.grownX hg1 (own_apart' HA.out HBB.out)
        have HO1 := Lib.hid ho1
        obtain ⟨d0', d1'⟩ := ownR_cells (cap := cap) (by have := hR1.out; rw [← HN.out] at this; exact this) (by rw [HN.out]; exact hpl.symm) j hpj
        rw [HE1.out] at d0'
        rw [HE2.out] at d1'
        have HG1 := Lib.hid hg1
        clear ho1 hg1 d0 d1
        go_wp2_with fail
        refine (markEdgeS_any a _ gs[j].es (z + (gs[j].vs.length : Int)) _ hE1.out hz1 hz2 (by omega)).mono ?_
        rintro en w2 ⟨rfl, ho2, hg2⟩
        have hR2 := row_keepG hR1.out hg2 (OwnE.blockT hE1.out)
        have hw2 : Within a b w1 w2 := Within.of_grown hg2 rb
        have hA2 : Own a w2 (.slice ao gs[j].vs.length ac) (count z gs[j].vs.length) := HO1.out.grownX hg2 (own_apart HO1.out hE1.out)
        have hO2 : OwnG a b w2 (.agg #[ps[j].1, ps[j].2]) (cntG z gs[j]) := ⟨_, _, by rw [HE1.out, HE2.out], hA2, ra, ho2, rb⟩
        have hww := hw1.trans hw2
        have hNN : Nest w2 lo hi ps (markedH k gs (j + 1)) := by
          rw [markedH_next k gs j hx, ← HZ.out]
          exact Nest.join j hpj (HN1.out.within hww (.inl (Nat.le_refl _))) hab hO2 (HN2.out.within hww (.inr (Nat.le_refl _)))
        have HM2 : Hid (MarkedR lo hi w2 (.slice (some ⟨G, 0, none⟩) n cap) k gs (j + 1) ps) := ⟨by have := hR2; exact this, hpl, HIN.out, hNN⟩
        have hw3 : Within lo hi w w2 := hw.trans (Within.monoH hww ha hb)
        have HZ2 : Hid (z + (gs[j].vs.length : Int) + 4 * (gs[j].es.length : Int) = k + szHs (gs.take (j + 1))) := by unfold Hid; rw [hsz.out, HZ.out]; omega
        have hz3 : z + (gs[j].vs.length : Int) + 4 * (gs[j].es.length : Int) ≤ 200000000 := by have := HZ2.out; omega
        clear hNN hO2 hA2 hR2 ho2 hg2
        go_wp2
        go_roundw
        case rel => exact ⟨j + 1, _, by omega, by go_num, rfl, HZ2, by omega, hz3, HM2.out, hw3⟩
        case measure => simp [intOf]; omega
      · obtain rfl : j = n := by omega
        have HR : Hid (OwnR lo hi wr (.slice (some ⟨G, 0, none⟩) j cap) (cntH k gs)) := by
          obtain ⟨m1, m2, m3, m4⟩ := HM.out
          have := HN.out; subst this
          rw [markedH_all] at m4
          exact ⟨ps, by rw [cntH_length]; exact m1, by rw [cntH_length]; exact m2, m3, m4⟩
        have HZ2 : Hid (z = k + szHs gs) := by
          have := HZ.out
          rw [List.take_of_length_le (by have := HN.out; omega)] at this
          exact this
        clear HM
        go_wp2
        go_ret
        exact ⟨ret_int HZ2.out, HR.out, hw⟩
def MarkHOut (lo hi : Nat) (w : World) (v : Value) (k : Int) (x : Hst) (e : Ending) (w' : World) : Prop :=
  e = .returned (.int .i64 (k + szHs x.gs)) ∧ OwnH lo hi w' v ⟨x.f, cntH k x.gs⟩ ∧ Within lo hi w w'
theorem markHistory_any (lo hi : Nat) (v : Value) (x : Hst) (k : Int) (w : World) (h : OwnH lo hi w v x) (hk0 : 0 ≤ k) (hk9 : k ≤ 100000000) (hl : BgH x) :
    Calls Try.prog 45 #[v, .int .i64 k] w (MarkHOut lo hi w v k x) := by
  obtain ⟨b, rfl, hb⟩ := h
  have HB := Lib.hid hb
  clear hb
  obtain ⟨bo, bc, rfl⟩ := HB.out.len
  have hs0 : Since w (w.alloc (.cells #[.int .i64 x.f, .slice bo x.gs.length bc] 26)) := (Since.refl w).alloc _
  go_enter Try.func45, Try.ntmps45
  go_wp2_with fail
  refine (markGraphS_any lo hi _ x.gs k _ (HB.out.since hs0) hk0 hk9 hl).mono ?_
  rintro e w1 ⟨rfl, ho1, hw1⟩
  have HO : Hid (OwnH lo hi w1 (.agg #[.int .i64 x.f, .slice bo x.gs.length bc]) ⟨x.f, cntH k x.gs⟩) := ⟨_, rfl, ho1⟩
  have hww : Hid (Within lo hi w w1) := (Within.of_since hs0).trans hw1
  clear ho1 hw1
  go_wp2
  go_ret
  exact ⟨rfl, HO.out, hww.out⟩
set_option maxHeartbeats 1000000 in
set_option maxRecDepth 100000 in
theorem heldGraphS_any (v : Value) (gs : List Grf) (k : Int) (w : World) (h : GrsAt w v (cntH k gs)) (hk0 : 0 ≤ k) (hk9 : k ≤ 100000000) (hl : gs.length ≤ 2097154 ∧ totH gs ≤ 2097154) :
    Calls Try.prog 88 #[v, .int .i64 k] w fun e w' => e = .returned (.int .i64 (k + szHs gs)) ∧ w = w' := by
  obtain ⟨ao, cap, rfl, HC⟩ := h
  rw [cntH_length]
  have HB := Lib.hid (fun j hj => big_get hl.2 j hj)
  have HT : Hid (∀ j, 0 ≤ szHs (gs.take j) ∧ szHs (gs.take j) ≤ 8388616) := fun j => by have := szHs_take gs j; have := hl.2; omega
  obtain ⟨n, hn⟩ : ∃ n, n = gs.length := ⟨_, rfl⟩
  rw [← hn]
  have hn9 : n ≤ 2097154 := by omega
  have HN := Lib.hid hn
  clear hl hn
  go_enter Try.func88, Try.ntmps88
  go_wp2
  go_loop [1, 5] (fun q i => ∃ (j : Nat) (z : Int), j ≤ n ∧ i = .int .i64 j ∧ q = .int .i64 z ∧ Hid (z = k + szHs (gs.take j)) ∧ 0 ≤ z ∧ z ≤ 200000000) (fun _ i => n - (intOf i).toNat)
  case atStart => exact ⟨0, k, Nat.zero_le _, rfl, rfl, by unfold Hid; simp [szHs], hk0, by omega⟩
  case round =>
    obtain ⟨j, z, hj, rfl, rfl, HZ, hz0, hz9⟩ := hrel
    by_cases hlt : j < n
    · have hx : j < gs.length := by have := HN.out; omega
      have hxc : j < (cntH k gs).length := by rw [cntH_length]; exact hx
      obtain ⟨b, off, p, q, rfl, hb, c0, c1, hg⟩ := HC.out j hxc
      rw [cntH_get k gs j hx, ← HZ.out] at hg
      obtain ⟨va, vb, e, ka, kb⟩ := hg
      injection e with e; injection e with e; injection e with e1 e2; injection e2 with e2 e3
      subst e1; subst e2
      have HA : Hid (IntsAt w p (count z gs[j].vs.length)) := ka
      have HE : Hid (EdgesAt w q (countE (z + gs[j].vs.length) gs[j].es.length)) := kb
      obtain ⟨xo, xc, rfl, _⟩ := ka.row
      obtain ⟨zo, zc, rfl⟩ := kb.len
      have hm := HB.out j hx
      have ht := HT.out (j + 1)
      have hsz : Hid (szHs (gs.take (j + 1)) = szHs (gs.take j) + ((gs[j].vs.length : Int) + 4 * (gs[j].es.length : Int))) := szHs_step gs j hx
      have hz1 : 0 ≤ z + (gs[j].vs.length : Int) := by omega
      have hz2 : z + (gs[j].vs.length : Int) ≤ 1152921504606846976 := by omega
      have n1 : decide (z + (gs[j].vs.length : Int) < 0) = false := by simp; omega
      have n2 : decide (z + (gs[j].vs.length : Int) + 4 * (gs[j].es.length : Int) < 0) = false := by simp; omega
      have HZ2 : Hid (z + (gs[j].vs.length : Int) + 4 * (gs[j].es.length : Int) = k + szHs (gs.take (j + 1))) := by unfold Hid; rw [hsz.out, HZ.out]; omega
      have hz3 : z + (gs[j].vs.length : Int) + 4 * (gs[j].es.length : Int) ≤ 200000000 := by have := HZ2.out; omega
      clear ka kb e3
      go_wp2_with fail
      refine (heldIntS_any _ z gs[j].vs.length _ HA.out hz0 (by omega) (by omega)).mono ?_
      rintro e w1 ⟨rfl, rfl⟩
      go_wp2_with fail
      refine (heldEdgeS_any _ (z + (gs[j].vs.length : Int)) gs[j].es.length _ HE.out hz1 hz2 (by omega)).mono ?_
      rintro e w1 ⟨rfl, rfl⟩
      go_wp2
      go_round
      case rel => exact ⟨j + 1, _, by omega, by go_num, rfl, HZ2, by omega, hz3⟩
      case measure => simp [intOf]; omega
    · obtain rfl : j = n := by omega
      have HZ2 : Hid (z = k + szHs gs) := by
        have := HZ.out
        rw [List.take_of_length_le (by have := HN.out; omega)] at this
        exact this
      go_wp2
      go_ret
      exact ⟨ret_int HZ2.out, rfl⟩
theorem heldHistory_any (v : Value) (x : Hst) (k : Int) (w : World) (h : HstAt w v ⟨x.f, cntH k x.gs⟩) (hk0 : 0 ≤ k) (hk9 : k ≤ 100000000) (hl : BgH x) :
    Calls Try.prog 46 #[v, .int .i64 k] w fun e w' => e = .returned (.int .i64 (k + szHs x.gs)) ∧ Since w w' := by
  obtain ⟨b, rfl, hb⟩ := h
  have HB : Hid (GrsAt w b (cntH k x.gs)) := hb
  obtain ⟨bo, bc, rfl, _⟩ := hb
  have hcl : (cntH k x.gs).length = x.gs.length := cntH_length _ _
  dsimp only at HB ⊢
  rw [hcl] at HB ⊢
  clear hcl
  have hs0 : Since w (w.alloc (.cells #[.int .i64 x.f, .slice bo x.gs.length bc] 26)) := (Since.refl w).alloc _
  have hd : decide (k + szHs x.gs < 0) = false := by have := szHs_tot x.gs; simp; omega
  go_enter Try.func46, Try.ntmps46
  go_wp2_with fail
  refine (heldGraphS_any _ x.gs k _ (HB.out.since hs0) hk0 hk9 hl).mono ?_
  rintro e w1 ⟨rfl, rfl⟩
  go_wp2
  go_ret
  exact ⟨rfl, hs0⟩
/-! The box of a variable that holds a history. -/
def BoxH (w1 wx : World) (p : Value) (R : Hst) : Prop :=
  ∃ lo hi B so sc, p = .pointer (some ⟨B, 0, none⟩) ∧ w1.heap.size ≤ lo ∧ w1.heap.size ≤ B ∧ hi ≤ wx.heap.size ∧ (B < lo ∨ hi ≤ B) ∧
    OwnH lo hi wx (.agg #[.int .i64 R.f, .slice so R.gs.length sc]) R ∧ Blk wx B 26 #[.int .i64 R.f, .slice so R.gs.length sc] ∧ Since w1 wx
theorem OwnH.far2 {lo hi B : Nat} {w : World} {v : Value} {x : Hst} (h : OwnH lo hi w v x) (hB : B < lo ∨ hi ≤ B) {i j : Nat} {u u' : Value} : OwnH lo hi ((w.setCell ⟨B, i, none⟩ u).setCell ⟨B, j, none⟩ u') v x := (h.far hB i u).far hB j u'
theorem boxH_mk {w1 wx : World} {lo hi : Nat} {so : Option Addr} {sc : Nat} {R : Hst} (B : Nat) (hB : w1.heap.size ≤ B) (h0 : w1.heap.size ≤ lo) (h1 : hi ≤ wx.heap.size ∧ (B < lo ∨ hi ≤ B))
    (hO : OwnH lo hi wx (.agg #[.int .i64 R.f, .slice so R.gs.length sc]) R) (hK : Blk wx B 26 #[.int .i64 R.f, .slice so R.gs.length sc]) (hS : Since w1 wx) :
    BoxH w1 wx (.pointer (some ⟨B, 0, none⟩)) R := ⟨lo, hi, B, so, sc, rfl, h0, hB, h1.1, h1.2, hO, hK, hS⟩
end Go.Proofs.Ytgdeiecbkmhbeaa
