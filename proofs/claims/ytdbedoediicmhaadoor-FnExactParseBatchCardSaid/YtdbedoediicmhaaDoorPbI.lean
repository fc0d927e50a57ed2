/- The program's parseChange and ParseBatch. -/
import Derived.Test.YtdbedoediicmhaaDoorPbM
import Derived.Test.YtdbedoediicmhaaDoorPeI
import Derived.Test.YtdbedoediicmhaaDoorChA
namespace Go.Proofs.YtdbedoediicmhaaDoor
set_option maxRecDepth 100000
open Go.ChangeShapes Go.WideShapes Go.ChangeAt Go.RowKit
set_option linter.unusedVariables false
set_option linter.unusedSimpArgs false

theorem pre_hit (t : List UInt8) (b : UInt8) (h : 1 ≤ t.length) (hb : hdP t = b) : Lib.hasPrefix t [b] = true ∧ Lib.trimPrefix t [b] = t.tail := by
  cases t with
  | nil => simp at h
  | cons x u =>
    have : x = b := hb
    subst this
    have h1 : Lib.hasPrefix (x :: u) [x] = true := by simp [Lib.hasPrefix]
    refine ⟨h1, ?_⟩
    unfold Lib.trimPrefix
    rw [h1]; rfl
theorem pre_miss (t : List UInt8) (b : UInt8) (h : t = [] ∨ hdP t ≠ b) : Lib.hasPrefix t [b] = false := by
  cases t with
  | nil => rfl
  | cons x u =>
    have : x ≠ b := by
      rcases h with h | h
      · cases h
      · exact h
    have hb : (b == x) = false := beq_eq_false_iff_ne.2 (fun e => this e.symm)
    unfold Lib.hasPrefix
    rw [List.isPrefixOf, hb]; rfl
theorem cutP_hit (t : List UInt8) (b : UInt8) (w : World) (h : 1 ≤ t.length) (hb : hdP t = b) :
    Calls Tryd.prog 41 #[.string (bP t), .string ⟨#[b]⟩] w fun e w' => e = .returned (.tuple #[.string (bP t.tail), .bool true]) ∧ w = w' := by
  refine (Tryd.strings_CutPrefix (bP t) ⟨#[b]⟩ w).mono ?_
  rintro e w' ⟨rfl, rfl⟩
  rw [bP_list, show (⟨#[b]⟩ : ByteArray).data.toList = [b] from rfl, (pre_hit t b h hb).1, (pre_hit t b h hb).2]
  exact ⟨rfl, rfl⟩
theorem cutP_miss (t : List UInt8) (b : UInt8) (h : t = [] ∨ hdP t ≠ b) :
    ∃ u, ∀ w, Calls Tryd.prog 41 #[.string (bP t), .string ⟨#[b]⟩] w fun e w' => e = .returned (.tuple #[.string u, .bool false]) ∧ w = w' := by
  refine ⟨⟨(Lib.trimPrefix t [b]).toArray⟩, fun w => (Tryd.strings_CutPrefix (bP t) ⟨#[b]⟩ w).mono ?_⟩
  rintro e w' ⟨rfl, rfl⟩
  rw [show (⟨#[b]⟩ : ByteArray).data.toList = [b] from rfl, bP_list, pre_miss t b h]
  exact ⟨rfl, rfl⟩
/-- What parseChange answers. -/
def pcO (t : List UInt8) : Chg := if okC t = true ∧ sgO t = true then cgO t else zeroC
def pcB (t : List UInt8) : Bool := okC t && sgO t
theorem pc_yes {t : List UInt8} (h : pcB t = true) : pcO t = cgO t := by
  unfold pcB at h
  rw [Bool.and_eq_true] at h
  unfold pcO; rw [if_pos h]
theorem pc_no {t : List UInt8} (h : pcB t = false) : pcO t = zeroC := by
  unfold pcB at h
  unfold pcO
  rw [if_neg]
  rintro ⟨a, b⟩
  rw [a, b] at h; cases h
theorem pc_in (t : List UInt8) : (pcO t).ed.In := by
  unfold pcO
  split
  · exact peO_inB _
  · exact zeroE_in
theorem peO_nil : (peO (bP [])).2 = false := by rw [pe_other (by decide +kernel)]
/-- With its sign, a part reads as its edge says. -/
theorem okC_of {t : List UInt8} (h1 : 1 ≤ t.length) : okC t = (peO (bP t.tail)).2 := by
  unfold okC
  by_cases h : 2 ≤ t.length
  · rw [decide_eq_true h, Bool.true_and]
  · have : t.tail = [] := by
      cases t with
      | nil => rfl
      | cons x u =>
        rw [List.length_cons] at h
        exact List.eq_nil_of_length_eq_zero (by omega : u.length = 0)
    rw [this, peO_nil, Bool.and_false]
set_option maxHeartbeats 4000000 in
set_option maxRecDepth 100000 in
theorem parseChange_any (t : List UInt8) (w : World) (hl : t.length ≤ 1048576) (htab : Tab w) (hfm : Fmts w) (hml : MaxL w) :
    Calls Tryd.prog 24 #[.string (bP t)] w fun e w' => e = .returned (.tuple #[cv (pcO t), .bool (pcB t)]) ∧ Since w w' := by
  obtain ⟨y, hy⟩ : ∃ y, y = w.alloc (.cells #[.bool false, .int .i64 0, .int .i64 0, .int .i64 0, .int .i64 0] 42) := ⟨_, rfl⟩
  have hs0 : Since w y := by rw [hy]; exact (Since.refl w).alloc _
  have BR : Hid (Blk y w.heap.size 42 #[.bool false, .int .i64 0, .int .i64 0, .int .i64 0, .int .i64 0]) := by rw [hy]; exact Blk.new rfl _ _
  have htl : (bP t.tail).size ≤ 1048576 := by rw [bP_size, List.length_tail]; omega
  have HPE : Hid (∀ W, Since w W → Calls Tryd.prog 42 #[.string (bP t.tail)] W fun en w' => en = .returned (.tuple #[ev (peO (bP t.tail)).1, .bool (peO (bP t.tail)).2]) ∧ Since W w') := fun W hW => implPE_any (bP t.tail) W htl (htab.since hW) (hfm.since hW) (hml.since hW)
  clear htl htab hfm hml
  by_cases hs : 1 ≤ t.length ∧ (hdP t = 43 ∨ hdP t = 45)
  · obtain ⟨h1, h2⟩ := hs
    have HOK := Lib.hid (okC_of h1)
    have HSG : Hid (sgO t = true) := by unfold Hid sgO; rcases h2 with h2 | h2 <;> simp [h2]
    have HB : Hid (pcB t = (peO (bP t.tail)).2) := by unfold Hid pcB; rw [HSG.out, Bool.and_true, HOK.out]
    have HO : Hid ((peO (bP t.tail)).2 = true → pcO t = ⟨hdP t == 43, (peO (bP t.tail)).1⟩) := fun h => pc_yes (by rw [HB.out]; exact h)
    have HN : Hid ((peO (bP t.tail)).2 = false → pcO t = zeroC) := fun h => pc_no (by rw [HB.out]; exact h)
    rw [HB.out]
    generalize (peO (bP t.tail)).2 = c at HPE HB HO HN
    generalize (peO (bP t.tail)).1 = e at HPE HO
    unfold ev at HPE
    by_cases h43 : hdP t = 43
    · have HHD : Hid ((hdP t == 43) = true) := by unfold Hid; simp [h43]
      have HCU := Lib.hid (fun W => cutP_hit t 43 W h1 h43)
      generalize bP t.tail = tl at HPE HCU
      clear h43 h2 HSG HOK HB
      generalize bP t = tt at HCU ⊢
      go_enter Tryd.func24, Tryd.ntmps24
      go_wp2_with fail
      rw [← hy]
      clear hy
      refine (HCU.out _).mono ?_
      rintro en w1 ⟨rfl, rfl⟩
      go_wp2_with fail
      refine (HPE.out _ hs0).mono ?_
      rintro en w2 ⟨rfl, hs2⟩
      have hs02 := hs0.trans hs2
      have hal : Since w2 (w2.alloc (.cells #[.int .i64 e.id, .int .i64 e.fr, .int .i64 (Edg.to e), .int .i64 e.lb] 40)) := (Since.refl w2).alloc _
      have hs0z := hs02.trans hal
      obtain ⟨⟨r0, r1, r2, r3, r4⟩, f0, f1, f2, f3, f4⟩ := ((BR.out.since hs2).since hal).fiveC
      cases c with
      | false =>
        have HZ : Hid (pcO t = zeroC) := HN.out rfl
        clear HN HO
        go_wp2_with fail
        refine bodyPost_ret (v := .tuple #[.agg #[.bool false, .int .i64 0, .int .i64 0, .int .i64 0, .int .i64 0], .bool false]) (by simp [results, Tryd.results24, go_sem, *]) rfl ⟨by rw [HZ.out]; rfl, ?_⟩
        iterate 5 (with_reducible refine Since.setCell ?_ (by (first | omega | (simp; omega) | simp)) _)
        exact hs0z
      | true =>
        have HZ : Hid (pcO t = ⟨hdP t == 43, e⟩) := HO.out rfl
        clear HN HO
        go_wp2_with fail
        refine bodyPost_ret (v := .tuple #[.agg #[.bool true, .int .i64 e.id, .int .i64 e.fr, .int .i64 (Edg.to e), .int .i64 e.lb], .bool true]) (by simp [results, Tryd.results24, go_sem, *]) rfl ⟨by rw [HZ.out, HHD.out], ?_⟩
        iterate 5 (with_reducible refine Since.setCell ?_ (by (first | omega | (simp; omega) | simp)) _)
        exact hs0z
    · have h45 : hdP t = 45 := by rcases h2 with h | h; exact absurd h h43; exact h
      have HHD : Hid ((hdP t == 43) = false) := by unfold Hid; simp [h43]
      obtain ⟨u1, hu1⟩ : ∃ u, ∀ W, Calls Tryd.prog 41 #[.string (bP t), .string ⟨#[43]⟩] W fun e w' => e = .returned (.tuple #[.string u, .bool false]) ∧ W = w' := cutP_miss t 43 (.inr h43)
      have HC1 := Lib.hid hu1
      have HCU := Lib.hid (fun W => cutP_hit t 45 W h1 h45)
      generalize bP t.tail = tl at HPE HCU
      clear h43 h45 h2 HSG HOK HB hu1
      generalize bP t = tt at HCU HC1 ⊢
      go_enter Tryd.func24, Tryd.ntmps24
      go_wp2_with fail
      rw [← hy]
      clear hy
      refine (HC1.out _).mono ?_
      rintro en w1 ⟨rfl, rfl⟩
      go_wp2_with fail
      refine (HCU.out _).mono ?_
      rintro en w1 ⟨rfl, rfl⟩
      go_wp2_with fail
      refine (HPE.out _ hs0).mono ?_
      rintro en w2 ⟨rfl, hs2⟩
      have hs02 := hs0.trans hs2
      have hal : Since w2 (w2.alloc (.cells #[.int .i64 e.id, .int .i64 e.fr, .int .i64 (Edg.to e), .int .i64 e.lb] 40)) := (Since.refl w2).alloc _
      have hs0z := hs02.trans hal
      obtain ⟨⟨r0, r1, r2, r3, r4⟩, f0, f1, f2, f3, f4⟩ := ((BR.out.since hs2).since hal).fiveC
      cases c with
      | false =>
        have HZ : Hid (pcO t = zeroC) := HN.out rfl
        clear HN HO
        go_wp2_with fail
        refine bodyPost_ret (v := .tuple #[.agg #[.bool false, .int .i64 0, .int .i64 0, .int .i64 0, .int .i64 0], .bool false]) (by simp [results, Tryd.results24, go_sem, *]) rfl ⟨by rw [HZ.out]; rfl, ?_⟩
        iterate 5 (with_reducible refine Since.setCell ?_ (by (first | omega | (simp; omega) | simp)) _)
        exact hs0z
      | true =>
        have HZ : Hid (pcO t = ⟨hdP t == 43, e⟩) := HO.out rfl
        clear HN HO
        go_wp2_with fail
        refine bodyPost_ret (v := .tuple #[.agg #[.bool false, .int .i64 e.id, .int .i64 e.fr, .int .i64 (Edg.to e), .int .i64 e.lb], .bool true]) (by simp [results, Tryd.results24, go_sem, *]) rfl ⟨by rw [HZ.out, HHD.out], ?_⟩
        iterate 5 (with_reducible refine Since.setCell ?_ (by (first | omega | (simp; omega) | simp)) _)
        exact hs0z
  · have hmiss : (t = [] ∨ hdP t ≠ 43) ∧ (t = [] ∨ hdP t ≠ 45) := by
      cases t with
      | nil => exact ⟨.inl rfl, .inl rfl⟩
      | cons x u =>
        refine ⟨.inr fun h => hs ⟨by simp, .inl h⟩, .inr fun h => hs ⟨by simp, .inr h⟩⟩
    have HB : Hid (pcB t = false) := by
      unfold Hid pcB
      by_cases h1 : 1 ≤ t.length
      · have hsg : sgO t = false := by
          unfold sgO
          simp
          exact ⟨fun h => hs ⟨h1, .inl h⟩, fun h => hs ⟨h1, .inr h⟩⟩
        rw [hsg, Bool.and_false]
      · have : okC t = false := by unfold okC; rw [decide_eq_false (by omega), Bool.false_and]
        rw [this, Bool.false_and]
    have HN := Lib.hid (pc_no HB.out)
    rw [HB.out, HN.out]
    obtain ⟨u1, hu1⟩ := cutP_miss t 43 hmiss.1
    obtain ⟨u2, hu2⟩ := cutP_miss t 45 hmiss.2
    have HC1 := Lib.hid hu1
    have HC2 := Lib.hid hu2
    unfold cv zeroC
    dsimp only
    clear hmiss hs hu1 hu2 HPE HB HN
    generalize bP t = tt at HC1 HC2 ⊢
    obtain ⟨⟨r0, r1, r2, r3, r4⟩, f0, f1, f2, f3, f4⟩ := BR.out.fiveC
    go_enter Tryd.func24, Tryd.ntmps24
    go_wp2_with fail
    rw [← hy]
    clear hy
    refine (HC1.out _).mono ?_
    rintro en w1 ⟨rfl, rfl⟩
    go_wp2_with fail
    refine (HC2.out _).mono ?_
    rintro en w1 ⟨rfl, rfl⟩
    go_wp2_with fail
    refine bodyPost_ret (v := .tuple #[.agg #[.bool false, .int .i64 0, .int .i64 0, .int .i64 0, .int .i64 0], .bool false]) (by simp [results, Tryd.results24, go_sem, *]) rfl ⟨rfl, ?_⟩
    iterate 5 (with_reducible refine Since.setCell ?_ (by (first | omega | (simp; omega) | simp)) _)
    exact hs0
theorem bbP_no {w w1 : World} {xs : List Chg} {C D : Bool} {B : Nat} (hc : C = D) (hx : xs = []) (hB : w.heap.size ≤ B) (hs : Since w w1) (u : Value) :
    BBOut w xs C (.returned (.tuple #[.agg #[.slice none 0 0], .bool D])) (w1.setCell ⟨B, 0, none⟩ u) := by
  subst hc; subst hx
  exact ⟨_, rfl, OwnB.mk ⟨fun x hx => by simp at hx, World.ownsRow_nil _ _ _ _⟩, hs.setCell hB u⟩
theorem bbP_yes {w w1 : World} {xs : List Chg} {C : Bool} {B : Nat} {v : Value} {lo : Nat} (hc : C = true) (ho : OwnC lo w1 v xs) (hlo : w.heap.size ≤ lo) (hB2 : B < lo) (hB : w.heap.size ≤ B) (hs : Since w w1) (u : Value) :
    BBOut w xs C (.returned (.tuple #[.agg #[v], .bool true])) (w1.setCell ⟨B, 0, none⟩ u) := by
  subst hc
  exact ⟨_, rfl, OwnB.mk ((ho.far (p := ⟨B, 0, none⟩) hB2 u).mono hlo), hs.setCell hB u⟩
theorem str_nil : ((⟨#[]⟩ : ByteArray).toList == []) = true := by rw [ByteArray.toList_eq]; rfl
theorem str_nnil {s : ByteArray} (h : s ≠ ⟨#[]⟩) : (s.toList == []) = false := by
  rw [ByteArray.toList_eq, beq_eq_false_iff_ne]
  intro e
  refine h ?_
  obtain ⟨⟨l⟩⟩ := s
  simp at e
  rw [e]
theorem pB_bad {s : ByteArray} (h : s ≠ ⟨#[]⟩) (h2 : pbC (cutL s.data.toList) = false) : pOk s = false ∧ pBat s = [] := by
  unfold pOk pBat pbL
  rw [if_neg h, if_neg h, h2]; exact ⟨rfl, rfl⟩
theorem pB_good {s : ByteArray} (h : s ≠ ⟨#[]⟩) (h2 : pbC (cutL s.data.toList) = true) : pOk s = true ∧ pBat s = (cutL s.data.toList).map cgO := by
  unfold pOk pBat pbL
  rw [if_neg h, if_neg h, if_pos h2]; exact ⟨h2, rfl⟩
theorem all_takeP {P : List (List UInt8)} {j : Nat} (hj : j < P.length) (h : (P.take j).all pcB = true) (h2 : pcB P[j] = true) : (P.take (j + 1)).all pcB = true := by
  rw [List.take_succ_eq_append_getElem hj, List.all_append, h, List.all_cons, h2]; rfl
set_option maxHeartbeats 4000000 in
set_option maxRecDepth 100000 in
theorem implPB_any (s : ByteArray) (w : World) (hs : s.size ≤ 1048576) (htab : Tab w) (hfm : Fmts w) (hml : MaxL w) :
    Calls Tryd.prog 11 #[.string s] w (BBOut w (pBat s) (pOk s)) := by
  obtain ⟨y, hy⟩ : ∃ y, y = w.alloc (.cells #[.slice none 0 0] 29) := ⟨_, rfl⟩
  have hs0 : Since w y := by rw [hy]; exact (Since.refl w).alloc _
  have hz : w.heap.size + 1 = y.heap.size := by rw [hy]; simp
  have BR : Hid (Blk y w.heap.size 29 #[.slice none 0 0]) := by rw [hy]; exact Blk.new rfl _ _
  by_cases he : s = ⟨#[]⟩
  · subst he
    have h1 : pBat ⟨#[]⟩ = [] := by unfold pBat; rw [if_pos rfl]
    have h2 : pOk ⟨#[]⟩ = true := by unfold pOk; rw [if_pos rfl]
    rw [h1, h2]
    obtain ⟨r0, r1⟩ := BR.out.one
    have hn := str_nil
    go_enter Tryd.func11, Tryd.ntmps11
    go_wp2_with fail
    rw [← hy]
    clear hy
    go_wp2_with fail
    refine bodyPost_ret (v := .tuple #[.agg #[.slice none 0 0], .bool true]) (by simp [results, Tryd.results11, go_sem, *]) rfl ?_
    first
    | exact ⟨_, rfl, OwnB.mk ⟨fun x hx => by simp at hx, World.ownsRow_nil _ _ _ _⟩, hs0⟩
    | exact bbP_no rfl rfl (Nat.le_refl _) hs0 _
  have hn := str_nnil he
  have HE := Lib.hid he
  obtain ⟨sm1, sm2⟩ := parts7_same s
  have HPC : Hid (∀ k (hk : k < (parts7 s).length) W, Since w W → Calls Tryd.prog 24 #[.string (bP (parts7 s)[k])] W fun e w' => e = .returned (.tuple #[cv (pcO (parts7 s)[k]), .bool (pcB (parts7 s)[k])]) ∧ Since W w') := fun k hk W hW => parseChange_any _ W (by have := parts7_le s _ (List.getElem_mem hk); omega) (htab.since hW) (hfm.since hW) (hml.since hW)
  have HSP := Lib.hid (fun W (hW : Since w W) => splitN7_parts s W hs (hml.since hW))
  clear he htab hfm hml
  by_cases hlen : 6 < (parts7 s).length
  · have HA := Lib.hid (pB_bad HE.out (by
      unfold pbC
      by_cases h6 : (cutL s.data.toList).length ≤ 6
      · have := sm1 h6; rw [this] at hlen; omega
      · rw [decide_eq_false h6, Bool.false_and]))
    clear sm1 sm2 HPC
    unfold PartsOutP at HSP
    generalize (parts7 s).length = N at hlen HSP
    have hgt : (6 : Int) < (N : Int) := by omega
    go_enter Tryd.func11, Tryd.ntmps11
    go_wp2_with fail
    rw [← hy]
    clear hy
    refine (HSP.out _ hs0).mono ?_
    rintro en w1 ⟨g, cap, rfl, hcap, hs1, HG⟩
    have hs01 := hs0.trans hs1
    obtain ⟨r0, r1⟩ := (BR.out.since hs1).one
    clear HG
    go_wp2_with fail
    refine bodyPost_ret (v := .tuple #[.agg #[.slice none 0 0], .bool false]) (by simp [results, Tryd.results11, go_sem, *]) rfl ?_
    exact bbP_no HA.out.1 HA.out.2 (Nat.le_refl _) hs01 _
  have hP : parts7 s = cutL s.data.toList := by
    by_cases h6 : (cutL s.data.toList).length ≤ 6
    · exact sm1 h6
    · exact absurd (sm2 (by omega)) hlen
  have HBAD : Hid (∀ k (hk : k < (parts7 s).length), pcB (parts7 s)[k] = false → pOk s = false ∧ pBat s = []) := fun k hk h => pB_bad HE.out (by rw [← hP]; exact pb_bad (s := s) k hk h)
  have HGOOD : Hid ((parts7 s).all pcB = true → pOk s = true ∧ pBat s = (parts7 s).map cgO) := fun h => by
    rw [hP]
    exact pB_good HE.out (by unfold pbC; rw [decide_eq_true (by rw [← hP]; omega), Bool.true_and, ← hP]; exact h)
  clear hP sm1 sm2
  generalize parts7 s = P at hlen HPC HSP HBAD HGOOD
  obtain ⟨n, hn0⟩ : ∃ n, n = P.length := ⟨_, rfl⟩
  have HN := Lib.hid hn0
  rw [← hn0] at hlen
  have hle : ¬ (6 : Int) < (n : Int) := by omega
  unfold PartsOutP at HSP
  rw [← hn0] at HSP
  clear hn0
  go_enter Tryd.func11, Tryd.ntmps11
  go_wp2_with fail
  rw [← hy]
  clear hy
  refine (HSP.out _ hs0).mono ?_
  rintro en w1 ⟨g, cap, rfl, hcap, hs1, HG⟩
  have hs01 := hs0.trans hs1
  have hz1 := hs1.size
  obtain ⟨yb, hyb⟩ : ∃ yb, yb = w1.alloc (.cells #[.slice none 0 0] 29) := ⟨_, rfl⟩
  have hsb : Since w1 yb := by rw [hyb]; exact (Since.refl w1).alloc _
  have BX : Hid (Blk yb w1.heap.size 29 #[.slice none 0 0]) := by rw [hyb]; exact Blk.new rfl _ _
  have BR1 := Lib.hid (BR.out.since hs1)
  go_wp2_with fail
  rw [← hyb]
  clear hyb BR
  go_loopw [22] (fun i wr => ∃ (j : Nat) (v : Value), j ≤ n ∧ i = .int .i64 j ∧ Hid (OwnC (w1.heap.size + 1) wr v ((P.take j).map cgO)) ∧ Hid (Blk wr w1.heap.size 29 #[v]) ∧ Hid ((P.take j).all pcB = true) ∧ Since w1 wr) (fun i _ => n - (intOf i).toNat)
  case atStart => exact ⟨0, .slice none 0 0, Nat.zero_le _, rfl, ⟨fun x hx => by simp at hx, World.ownsRow_nil _ _ _ _⟩, BX.out, rfl, hsb⟩
  case round =>
    obtain ⟨j, v, hj, rfl, HO, HB, HAL, hsw⟩ := hrel
    have hs0w := hs01.trans hsw
    by_cases hlt : j < n
    · have hjr : j < P.length := by have := HN.out; omega
      have hcell : wr.cell? ⟨g, j, none⟩ = some (.string (bP P[j])) := HG.out wr hsw j hjr
      have jj0 : (0 : Int) ≤ (j : Int) := by omega
      have jj1 : (j : Int) < (n : Int) := by omega
      have HP1 := Lib.hid (HPC.out j hjr)
      have HBJ := Lib.hid (HBAD.out j hjr)
      have HAN := Lib.hid (all_takeP hjr HAL.out)
      have HYS : Hid (pcB P[j] = true → pcO P[j] = cgO P[j]) := pc_yes
      have HIN := Lib.hid (pc_in P[j])
      have HTK : Hid ((P.take (j + 1)).map cgO = (P.take j).map cgO ++ [cgO P[j]]) := by
        unfold Hid; rw [List.take_succ_eq_append_getElem hjr, List.map_append]; rfl
      generalize P[j] = t at hcell HP1 HBJ HAN HYS HTK HIN
      generalize hq : pcO t = c at HP1 HYS HIN
      generalize hb : pcB t = b at HP1 HBJ HAN HYS
      clear hq hb
      generalize bP t = tb at hcell HP1
      unfold cv at HP1
      go_wp2_with fail
      refine (HP1.out _ hs0w).mono ?_
      rintro en w3 ⟨rfl, hs3⟩
      have hal : Since w3 (w3.alloc (.cells #[.bool c.ins, .int .i64 c.ed.id, .int .i64 c.ed.fr, .int .i64 (Edg.to c.ed), .int .i64 c.ed.lb] 42)) := (Since.refl w3).alloc _
      have hs03 := (hs0w.trans hs3).trans hal
      have hsw3 := (hsw.trans hs3).trans hal
      cases b with
      | false =>
        have HZ := Lib.hid (HBJ.out rfl)
        clear HBJ HAN HYS
        obtain ⟨r0, r1⟩ := (BR1.out.since hsw3).one
        go_wp2_with fail
        refine bodyPost_ret (v := .tuple #[.agg #[.slice none 0 0], .bool false]) (by simp [results, Tryd.results11, go_sem, *]) rfl ?_
        exact bbP_no HZ.out.1 HZ.out.2 (Nat.le_refl _) hs03 _
      | true =>
        have HAL2 := Lib.hid (HAN.out rfl)
        have HYC := Lib.hid (HYS.out rfl)
        clear HBJ HAN HYS hcell
        have HC3 : Hid (Blk (w3.alloc (.cells #[.bool c.ins, .int .i64 c.ed.id, .int .i64 c.ed.fr, .int .i64 (Edg.to c.ed), .int .i64 c.ed.lb] 42)) w3.heap.size 42 #[.bool c.ins, .int .i64 c.ed.id, .int .i64 c.ed.fr, .int .i64 (Edg.to c.ed), .int .i64 c.ed.lb]) := Blk.new rfl _ _
        have HB3 := Lib.hid (HB.out.since (hs3.trans hal))
        have HO3 := Lib.hid (HO.out.since (hs3.trans hal))
        obtain ⟨⟨d0, d1, d2, d3, d4⟩, _⟩ := HC3.out.fiveC
        obtain ⟨q0, q1⟩ := HB3.out.one
        obtain ⟨y3, hy3⟩ : ∃ y3, y3 = w3.alloc (.cells #[.bool c.ins, .int .i64 c.ed.id, .int .i64 c.ed.fr, .int .i64 (Edg.to c.ed), .int .i64 c.ed.lb] 42) := ⟨_, rfl⟩
        have hal2 : Since y3 (y3.alloc (.cells #[.bool c.ins, .int .i64 c.ed.id, .int .i64 c.ed.fr, .int .i64 (Edg.to c.ed), .int .i64 c.ed.lb] 42)) := (Since.refl y3).alloc _
        rw [← hy3] at HB3 HO3 hsw3 hs03
        have hy3z : y3.heap.size = w3.heap.size + 1 := by rw [hy3]; simp
        have hlit := chg_lit y3 c HIN.out
        rw [hy3z] at hlit
        have HLIT := Lib.hid hlit
        clear hlit hy3z
        have HB4 := Lib.hid (HB3.out.since hal2)
        have HO4 := Lib.hid (HO3.out.since hal2)
        have hsw4 := hsw3.trans hal2
        rw [hy3] at HLIT HB4 HO4 hsw4
        have hml : ((P.take j).map cgO).length ≤ 6 := by rw [List.length_map, List.length_take]; omega
        clear HB HO HB3 HO3 hs3 HC3 hal hal2
        go_wp2_with (at_builtin; go_must (refine wpList_append_chgs rfl (.tmp 35) (.tmp 37) rfl (w1.heap.size + 1) v ((P.take j).map cgO) rfl HO4.out _ _ _ rfl [c] HLIT.out (by simp at hml ⊢; omega) (by have := HB4.out.lt; omega) ?_); intro v3 w5 ho5 hg5 hb5; rw [HYC.out, ← HTK.out] at ho5; obtain ⟨n5, hn5⟩ : ∃ n, ((P.take (j + 1)).map cgO).length = n := ⟨_, rfl⟩; obtain ⟨o5, c5, hv5⟩ := ho5.len; rw [hn5] at hv5; subst hv5; clear hn5; have hB5 := Lib.hid (HB4.out.grwC hg5 (fun e => by have := HO4.out.2.lt _ e.symm; omega)); obtain ⟨z0, z1⟩ := hB5.out.one)
        have hs5 := hsw4.grown hg5 (fun q hq => by have := HO4.out.2.lt q hq; omega)
        have HB6 : Hid (Blk (w5.setCell ⟨w1.heap.size, 0, none⟩ (.slice o5 n5 c5)) w1.heap.size 29 #[.slice o5 n5 c5]) := hB5.out.set 0 (.slice o5 n5 c5)
        have HO6 := Lib.hid (ho5.far (p := ⟨w1.heap.size, 0, none⟩) (by simp) (.slice o5 n5 c5))
        have hs6 := hs5.setCell (a := ⟨w1.heap.size, 0, none⟩) (Nat.le_refl _) (.slice o5 n5 c5)
        clear ho5 hg5 hb5 z0 z1 hs5
        go_wp2
        go_roundw
        case rel => exact ⟨j + 1, .slice o5 n5 c5, by omega, by go_num, HO6.out, HB6.out, HAL2.out, hs6⟩
        case measure => simp [intOf]; omega
    · obtain rfl : j = n := by omega
      have ht : P.take j = P := List.take_of_length_le (by have := HN.out; omega)
      rw [ht] at HO HAL
      have HZ := Lib.hid (HGOOD.out HAL.out)
      obtain ⟨vo, vc, hv⟩ := HO.out.len
      obtain ⟨q, hq⟩ : ∃ q, (P.map cgO).length = q := ⟨_, rfl⟩
      rw [hq] at hv
      subst hv
      obtain ⟨q0, q1⟩ := HB.out.one
      obtain ⟨r0, r1⟩ := (BR1.out.since hsw).one
      clear hq
      go_wp2_with fail
      refine bodyPost_ret (v := .tuple #[.agg #[.slice vo q vc], .bool true]) (by simp [results, Tryd.results11, go_sem, *]) rfl ?_
      rw [HZ.out.2]
      exact bbP_yes HZ.out.1 HO.out (by omega) (by omega) (Nat.le_refl _) hs0w _
end Go.Proofs.YtdbedoediicmhaaDoor
