/- l11Number, the model's. -/
import Derived.Test.YtmaagihfjldgeaaA4
import Derived.Test.YtmaagihfjldgeaaTrI
import Derived.BigQuiet
import Derived.Deep.QuietTactic
import Derived.StillTailTactics
import Derived.Test.YtmaagihfjldgeaaK1
namespace Go.Proofs.Ytmaagihfjldgeaa
set_option maxRecDepth 100000
open Go.ChangeShapes Go.WideShapes Go.ChangeAt Go.RowKit Go.Maps
set_option linter.unusedVariables false
set_option linter.unusedSimpArgs false

theorem wp_append_boolv {w : World} {o : Oper} {a : Act} {K : Act → World → Prop} {Q : Exit → Act → World → Prop} (s x : Operand)
    (ho : o.op = .call { callee := .builtin .append, args := #[s, x], argTypes := #[36, 36] }) (base : Nat) (v : Value) (xs : List Bool) (hs : a.eval s = v) (hown : OwnBo base w v xs) (b : Nat) (z : Bool) (hx : a.eval x = .slice (some ⟨b, 0, none⟩) 1 1)
    (hB : Blk w b 4 #[.bool z]) (hlen : xs.length ≤ 4000000) (hbase : base ≤ w.heap.size)
    (h : ∀ v' w', OwnBo base w' v' (xs ++ [z]) → w.grownBy w' v.ownBlock → K (a.put o.dst v') w') : o.wp Try.prog a w K Q := by
  have hy : BosAt w (.slice (some ⟨b, 0, none⟩) 1 1) [z] := ⟨some ⟨b, 0, none⟩, 1, rfl, fun i hi => by
    obtain rfl : i = 0 := by simpa using hi
    exact ⟨b, 0, rfl, hB.lt, hB.cell 0⟩⟩
  obtain ⟨v', w', hr, h1, h2, h3⟩ := run_append_bools w base o.type v xs hown (some ⟨b, 0, none⟩) 1 1 [z] hy (by simp; omega) hbase
  exact wp_of_run_append s x _ ho v _ v' w' hs hx hr (h v' w' h1 h2)
theorem wpList_append_rowv {wr : World} {ops : Array Oper} {rest : List Oper} {o : Oper} {a : Act} {Q : Exit → Act → World → Prop} (hgd : o.guard = none) (s x : Operand)
    (ho : o.op = .call { callee := .builtin .append, args := #[s, x], argTypes := #[37, 37] }) (base : Nat) (v : Value) (xs : List (List Int)) (av : List Value) (hs : a.eval s = v) (hrow : RowsO base wr v xs av) (p : Value)
    (hx : a.eval x = .slice (some ⟨wr.heap.size, 0, none⟩) 1 1) (hp : p.oneCell' = true) (hlen : xs.length ≤ 4000000) (hb : base ≤ wr.heap.size)
    (h : ∀ v' w', (∀ ps, ps.length = xs.length → wr.ownsRow base 24 1 v xs.length ps → w'.ownsRow base 24 1 v' (xs.length + 1) (ps ++ [p])) → wr.grownBy w' v.ownBlock → wpList Try.prog ops Q rest (a.put o.dst v') w') :
    wpList Try.prog ops Q (o :: rest) a (wr.alloc (.cells #[p] 24)) := by
  have hal : Since wr (wr.alloc (.cells #[p] 24)) := (Since.refl wr).alloc _
  have hB : Blk (wr.alloc (.cells #[p] 24)) wr.heap.size 24 #[p] := Blk.new rfl _ _
  obtain ⟨ps0, h1, h2, _⟩ := hrow
  have R := fun ps (hps : wr.ownsRow base 24 1 v xs.length ps) => run_append_rowv (wr.alloc (.cells #[p] 24)) base o.type v xs.length ps (row_since hps hal) wr.heap.size p hB hp (by omega) (by simp; omega)
  obtain ⟨v', w', hr, k1, k2, k3⟩ := R ps0 h1
  refine wpList_plain hgd fun _ hK => wp_of_run_append s x _ ho v _ v' w' hs hx hr (hK _ _ (h v' w' (fun ps hl hps => ?_) ⟨k2.os, k2.tape, k2.output, Nat.le_trans (by simp) k2.size, fun i hi hn2 => (k2.block i (by simp; omega) hn2).trans (Below.heap_alloc wr _ i hi)⟩))
  obtain ⟨v2, w2, hr2, j1, _⟩ := R ps hps
  rw [hr] at hr2
  injection hr2 with e1 e2
  subst e1 e2
  exact j1
theorem NmT.mid {w wr w' : World} {CS : Array Value} {ov rv bv nv tv : Value} {os rs ts : List Int} {bs : List Bool} {xs : List (List Int)} (h : NmT w CS wr ov rv bv nv tv os rs bs xs ts) (k : wr.grownBy w' bv.ownBlock) :
    Blk w' w.heap.size 39 CS ∧ Own (w.heap.size + 3) w' rv rs ∧ Since w w' ∧ Blk w' (w.heap.size + 2) 39 #[.int .i64 0, bv, nv] := by
  have hr : ∀ q, bv.ownBlock = some q → w.heap.size + 3 ≤ q := fun q e => (World.ownsRow.lt h.sb q e).1
  exact ⟨blk_keep h.b0 k hr (by omega), h.sr.grownX k (apart_types h.sr.2 h.sb (by decide)), h.sc.grown k (fun j hj => by have := hr j hj; omega), blk_keep h.bx k hr (by omega)⟩
theorem rowv_shape {base : Nat} {w w' : World} {no no' p : Value} {xs : List (List Int)} {av : List Value} (h : RowsO base w no xs av) (ho : ∀ ps, ps.length = xs.length → w.ownsRow base 24 1 no xs.length ps → w'.ownsRow base 24 1 no' (xs.length + 1) (ps ++ [p])) : ∃ o n c, no' = .slice o n c := by
  obtain ⟨ps, h1, h2, _⟩ := h
  rcases (ho ps h2 h1).2 with ⟨hv, _⟩ | ⟨g, cap, cur, rfl, _⟩
  · exact ⟨_, _, _, hv⟩
  · exact ⟨_, _, _, rfl⟩
/-- A state that is one, and is live. -/
def InF (A : Aut) (f : Nat → Bool) (x : Int) : Prop := InA A x ∧ f x.toNat = true
/-- A state's class. -/
def clsK (cls : List Int) (t : Int) : Int := (cls[t.toNat]?).getD 0
theorem clsK_at (cls : List Int) (t : Nat) (h : t < cls.length) : clsK cls (t : Int) = cls[t] := by unfold clsK; rw [Int.toNat_natCast, List.getElem?_eq_getElem h]; rfl
def nmF (A : Aut) (f : Nat → Bool) (cls : List Int) : List Int := runK (stepF A f) (clsK cls) 1001 0 [A.st]
def nmA (A : Aut) (f : Nat → Bool) (cls : List Int) : Aut := autK (stepF A f) (clsK cls) (accZ1 A) (nmF A f cls)
def nmR (A : Aut) (f : Nat → Bool) (cls : List Int) : Aut := if f A.st.toNat = true then nmA A f cls else nothingA
theorem findL_in {xs : List Int} {x : Int} (h : x ∈ xs) : findL xs x = (posN xs x : Int) := by unfold findL; rw [if_pos h]
theorem findL_out {xs : List Int} {x : Int} (h : x ∉ xs) : findL xs x = -1 := by unfold findL; rw [if_neg h]
set_option maxHeartbeats 40000000 in
set_option maxRecDepth 100000 in
theorem specNum_any (v u lv : Value) (A : Aut) (cls : List Int) (f : Nat → Bool) (w : World) (h : AutAt w v A) (hv : ValidA A) (hu : IntsAt w u cls) (hcl : cls.length = A.ac.length) (hcr : ∀ i (h : i < cls.length), f i = true → 0 ≤ cls[i] ∧ cls[i] < (A.ac.length : Int)) (hl : BosAt w lv (boL f A.ac.length)) :
    Calls Try.prog 180 #[v, u, lv] w (AOut w (nmR A f cls)) := by
  obtain ⟨a1, b1, rfl, _, ha, hb⟩ := h
  obtain ⟨ao, ca, rfl, HAC⟩ := ha
  obtain ⟨bo, cb, rfl, HC⟩ := hb
  obtain ⟨uo, uc, rfl, HU⟩ := hu.row
  obtain ⟨lo, lc, rfl⟩ := hl.len
  rw [boL_length] at hl ⊢
  have hnm : A.nx.length = A.ac.length := hv.2.1
  have hst := inA_st hv
  have HLV := Lib.hid (boL_cells hl)
  have HNX : Hid (∀ s : Nat, s < A.ac.length → ∃ b off b2 off2 c2, bo = some ⟨b, off, none⟩ ∧ b < w.heap.size ∧ w.cell? ⟨b, off + s, none⟩ = some (.slice (some ⟨b2, off2, none⟩) 9 c2) ∧ b2 < w.heap.size ∧ ∀ k : Nat, k < 9 → w.cell? ⟨b2, off2 + k, none⟩ = some (.int .i64 (nextA A.nx s k))) := fun s hs => next_cells hv HC s hs
  have HCL : Hid (∀ t : Nat, t < A.ac.length → ∃ b off, uo = some ⟨b, off, none⟩ ∧ b < w.heap.size ∧ w.cell? ⟨b, off + t, none⟩ = some (.int .i64 (clsK cls t))) := fun t ht => by
    have hx : t < cls.length := by omega
    rw [clsK_at cls t hx]
    exact HU.out t hx
  have HKR : Hid (∀ x, InF A f x → 0 ≤ clsK cls x ∧ clsK cls x < (A.ac.length : Int)) := fun x hx => by
    obtain ⟨hx, hfx⟩ := hx
    obtain ⟨t, rfl⟩ : ∃ t : Nat, x = t := ⟨x.toNat, by unfold InA at hx; omega⟩
    have ht : t < cls.length := by unfold InA at hx; omega
    rw [Int.toNat_natCast] at hfx
    rw [clsK_at cls t ht]
    exact hcr t ht hfx
  have HACC : Hid (∀ t : Nat, t < A.ac.length → ∃ b off, ao = some ⟨b, off, none⟩ ∧ b < w.heap.size ∧ w.cell? ⟨b, off + t, none⟩ = some (.bool (accZ1 A t))) := fun t ht => by
    obtain ⟨b, off, e, hb, d⟩ := HAC.out t ht
    refine ⟨b, off, e, hb, ?_⟩
    unfold accZ1
    rw [Int.toNat_natCast, at0_get A.ac t ht]
    exact d
  have HNL : Hid (∀ s : Nat, s < A.ac.length → ∀ k : Nat, k < 9 → -1 ≤ nextA A.nx s k ∧ nextA A.nx s k < (A.ac.length : Int)) := fun s hs k hk => next_lt hv (by unfold InA; omega) hk
  have HIQ : Hid (∀ s : Int, InA A s → ∃ t : Nat, s = t ∧ t < A.ac.length) := fun s hs => ⟨s.toNat, by unfold InA at hs; omega, by unfold InA at hs; omega⟩
  have HQI : Hid (∀ t : Nat, t < A.ac.length → InA A t) := fun t ht => by unfold InA; omega
  have HCN := Lib.hid hcl
  have hn12 := hv.1
  rw [hcl, hnm]
  obtain ⟨st, hst0, hst1⟩ := HIQ.out A.st hst
  obtain ⟨F, hF⟩ : ∃ F, F = nmF A f cls := ⟨_, rfl⟩
  have HF0 : Hid (runK (stepF A f) (clsK cls) (1001 - 0) 0 [A.st] = F) := by rw [hF]; rfl
  have HFE := Lib.hid hF
  have HQST := Lib.hid hst
  obtain ⟨n, hn⟩ : ∃ n, n = A.ac.length := ⟨_, rfl⟩
  rw [← hn] at HLV HNX HCL HKR HACC HNL HIQ HQI hn12 hst1 ⊢
  have HN := Lib.hid hn
  clear hl hv hu hcl hcr hst hnm HAC HC HU hF hn
  obtain ⟨lb, loff, rfl, hlb, hlc⟩ := HLV.out st hst1
  obtain ⟨kb, koff, rfl, hkb, hkc⟩ := HCL.out st hst1
  obtain ⟨ab, aoff, rfl, hab, _⟩ := HACC.out st hst1
  obtain ⟨CS, hCS⟩ : ∃ CS : Array Value, CS = #[.int .i64 (st : Int), .slice (some ⟨ab, aoff, none⟩) n ca, .slice bo n cb] := ⟨_, rfl⟩
  rw [hst0] at HF0 HQST ⊢
  have HST0 := Lib.hid hst0
  clear hst0
  have hsti : (st : Int) < (n : Int) := by omega
  have hst0i : (0 : Int) ≤ (st : Int) := by omega
  obtain ⟨y, hy⟩ : ∃ y, y = (w.alloc (.cells #[.int .i64 (st : Int), .slice (some ⟨ab, aoff, none⟩) n ca, .slice bo n cb] 39)).alloc (.cells #[.int .i64 0, .slice none 0 0, .slice none 0 0] 39) := ⟨_, rfl⟩
  have hs0 : Since w y := by rw [hy]; exact ((Since.refl w).alloc _).alloc _
  have hz : y.heap.size = w.heap.size + 2 := by rw [hy]; simp
  have B0 : Hid (Blk y w.heap.size 39 #[.int .i64 (st : Int), .slice (some ⟨ab, aoff, none⟩) n ca, .slice bo n cb]) := by rw [hy]; exact (Blk.new rfl _ _).alloc _
  have B1 : Hid (Blk y (w.heap.size + 1) 39 #[.int .i64 0, .slice none 0 0, .slice none 0 0]) := by rw [hy]; exact Blk.new (by simp) _ _
  have HY := Lib.hid hy
  have HZ := Lib.hid hz
  clear hy hz
  cases hfs : f st with
  | false =>
    have HR : Hid (nmR A f cls = nothingA) := by unfold Hid nmR; rw [HST0.out, Int.toNat_natCast, hfs]; rfl
    rw [HR.out]
    have d1 : y.cell? ⟨lb, loff + st, none⟩ = some (.bool false) := by rw [← hfs]; exact (Below.cell hs0 (p := ⟨lb, loff + st, none⟩) hlb).trans hlc
    clear hfs hlc
    go_enter Try.func180, Try.ntmps180
    go_upto_region 1 with fail
    rw [← HY.out]
    obtain ⟨⟨p0, p1, p2⟩, _⟩ := B0.out.threeA
    go_wp2_with fail
    refine (nothing_any _).mono ?_
    rintro e w1 ⟨v1, rfl, ho1, hs1⟩
    have HS1 := Lib.hid (hs0.trans hs1)
    obtain ⟨v2, v3, rfl, i2, o2, r2, o3⟩ := ho1
    obtain ⟨lo2, lc2, rfl⟩ := o2.len
    obtain ⟨lo3, lc3, rfl⟩ := o3.len
    have HO : Hid (OwnA _ _ _ _ _) := ⟨_, _, rfl, i2, o2, r2, o3⟩
    have hz2 := HZ.out
    have hz3 := hs1.size
    obtain ⟨⟨r0, r1, r2⟩, r3, r4, r5⟩ := (B1.out.since hs1).threeA
    clear p0 p1 p2 d1 i2 o2 o3
    go_wp2
    refine bodyPost_ret (v := .agg #[.int .i64 nothingA.st, .slice lo2 nothingA.ac.length lc2, .slice lo3 nothingA.nx.length lc3]) (by simp [results, Try.results180, go_sem, *]) rfl ?_
    refine ⟨_, rfl, ?_, ?_⟩
    · refine OwnA.wider (lo := y.heap.size) (hi := w1.heap.size) ?_ (by omega) (by simp)
      iterate 3 (with_reducible refine OwnA.far1 ?_ (.inl (by omega)) _ _)
      exact HO.out
    · iterate 3 (with_reducible refine Since.setCell ?_ (by simp <;> omega) _)
      exact HS1.out
  | true =>
    have HR : Hid (nmR A f cls = autK (stepF A f) (clsK cls) (accZ1 A) F) := by
      unfold Hid nmR; rw [HST0.out, Int.toNat_natCast, hfs, if_pos rfl]
      unfold nmA; rw [HFE.out]
    rw [HR.out]
    have d1 : y.cell? ⟨lb, loff + st, none⟩ = some (.bool true) := by rw [← hfs]; exact (Below.cell hs0 (p := ⟨lb, loff + st, none⟩) hlb).trans hlc
    have d2 : y.cell? ⟨kb, koff + st, none⟩ = some (.int .i64 (clsK cls st)) := (Below.cell hs0 (p := ⟨kb, koff + st, none⟩) hkb).trans hkc
    have HFS : Hid (f st = true) := hfs
    clear hfs hlc hkc
    obtain ⟨y3, hy3⟩ : ∃ y3, y3 = y.alloc (.cells #[.int .i64 0, .slice none 0 0, .slice none 0 0] 39) := ⟨_, rfl⟩
    obtain ⟨y4, hy4⟩ : ∃ y4, y4 = y3.alloc (.cells #[.int .i64 (clsK cls st)] 3) := ⟨_, rfl⟩
    obtain ⟨y2, hy2⟩ : ∃ y2, y2 = y4.alloc (.cells #[.int .i64 (st : Int)] 3) := ⟨_, rfl⟩
    have k1 : Since y y3 := by rw [hy3]; exact (Since.refl _).alloc _
    have k2 : Since y3 y4 := by rw [hy4]; exact (Since.refl _).alloc _
    have k3 : Since y4 y2 := by rw [hy2]; exact (Since.refl _).alloc _
    have z1 : y3.heap.size = w.heap.size + 3 := by rw [hy3]; have := HZ.out; simp; omega
    have z2 : y4.heap.size = w.heap.size + 4 := by rw [hy4]; simp; omega
    have HNO : Hid (NmO w CS y2 (.slice (some ⟨w.heap.size + 3, 0, none⟩) 1 1) (.slice (some ⟨w.heap.size + 4, 0, none⟩) 1 1) nilS nilS ([(st : Int)].map (clsK cls)) [(st : Int)] ((F.take 0).map (accZ1 A)) ((F.take 0).map (rowOfK (stepF A f) (clsK cls) F))) := by
      have hk := HKR.out _ ⟨HQI.out st hst1, by rw [Int.toNat_natCast]; exact HFS.out⟩
      have o1 := ownT_lit 3 (w.heap.size + 3) y3 (by omega) (clsK cls st) (by unfold InI; omega)
      have o2 := ownT_lit 3 (w.heap.size + 3) y4 (by omega) (st : Int) (by unfold InI; omega)
      rw [z1, ← hy4] at o1
      rw [z2, ← hy2] at o2
      have hsy := (k1.trans k2).trans k3
      have hb3 : Blk y3 (w.heap.size + 2) 39 #[.int .i64 0, nilS, nilS] := by rw [hy3]; exact Blk.new (by have := HZ.out; omega) _ _
      refine ⟨(o1.since k3 : OwnNt 3 _ _ _ _), o2, .inr (by simp [Value.ownBlock]), OwnBo.nil _ _, RowsO.nil _ _ _, (hb3.since k2).since k3, by rw [hCS]; exact B0.out.since hsy, B1.out.since hsy, hs0.trans hsy⟩
    have HY3 := Lib.hid hy3
    have HY4 := Lib.hid hy4
    have HY2 := Lib.hid hy2
    clear hy2 hy3 hy4
    go_enter Try.func180, Try.ntmps180
    go_upto_region 1 with fail
    rw [← HY.out]
    obtain ⟨⟨p0, p1, p2⟩, _⟩ := B0.out.threeA
    go_upto_region 4 with fail
    rw [← HY3.out]
    clear p0 p1 p2
    obtain ⟨⟨p0, p1, p2⟩, _⟩ := (B0.out.since k1).threeA
    have d3 := (Below.cell k1 (p := ⟨kb, koff + st, none⟩) (Nat.lt_of_lt_of_le hkb hs0.size)).trans d2
    go_upto_region 5 with fail
    rw [← HY4.out]
    clear p0 p1 p2
    obtain ⟨⟨p0, p1, p2⟩, _⟩ := (B0.out.since (k1.trans k2)).threeA
    go_upto_region 7 with fail
    rw [← HY2.out]
    try rw [z1]
    try rw [z2]
    try rw [HZ.out]
    clear p0 p1 p2 d1 d2 d3 HY2 HY3 HY4 HY B0 B1 k1 k2 k3
    go_loopw [8, 9, 10] (fun o q i wr => ∃ (p : Nat) (rs : List Int) (ov rv bv nv : Value), i = .int .i64 p ∧ ov = o ∧ rv = q ∧ p ≤ rs.length ∧ Hid (FsK (clsK cls) (InF A f) rs) ∧ Hid (runK (stepF A f) (clsK cls) (1001 - p) p rs = F) ∧ Hid (NmO w CS wr ov rv bv nv (rs.map (clsK cls)) rs ((F.take p).map (accZ1 A)) ((F.take p).map (rowOfK (stepF A f) (clsK cls) F)))) (fun _ _ i _ => 1001 - (intOf i).toNat)
    case atStart => exact ⟨0, [(st : Int)], _, _, _, _, rfl, rfl, rfl, by simp, ⟨by simp, fun x hx => by simp at hx; subst hx; exact ⟨HQST.out, by rw [Int.toNat_natCast]; exact HFS.out⟩⟩, HF0.out, HNO.out⟩
    case round =>
      obtain ⟨p, rs, ov, rv, bv, nv, rfl, rfl, rfl, hp, HFs, HRp, HO⟩ := hrel
      have hlen : rs.length ≤ n := HFs.out.len HKR.out
      obtain ⟨oo, oc, rfl⟩ := HO.out.so.len
      rw [List.length_map] at HO ⊢
      by_cases hlt : p < rs.length
      · have hpi : (p : Int) < (rs.length : Int) := by omega
        have hp0 : (0 : Int) ≤ (p : Int) := by omega
        obtain ⟨s, hs0e, hsn⟩ := HIQ.out rs[p] (HFs.out.2 _ (List.getElem_mem hlt)).1
        obtain ⟨t0, ht0⟩ := runK_pre (stepF A f) (clsK cls) (1001 - p) p rs
        rw [HRp.out] at ht0
        have HFp : Hid (∃ hF : p < F.length, F[p] = (s : Int)) := ⟨by rw [ht0]; simp; omega, by
          have : F[p]? = some (s : Int) := by rw [ht0, List.getElem?_append_left hlt, List.getElem?_eq_getElem hlt, hs0e]
          obtain ⟨_, e⟩ := List.getElem?_eq_some_iff.1 this
          exact e⟩
        have HR0 : Hid (runK (stepF A f) (clsK cls) (1000 - p) (p + 1) (rowK (stepF A f) (clsK cls) (s : Int) (9 - 0) rs) = F) := by
          have h1 := HRp.out
          rw [show 1001 - p = (1000 - p) + 1 from by omega, runK_at _ _ _ p rs hlt, hs0e] at h1
          exact h1
        have HP0 : Hid (rs[p]? = some (s : Int)) := by unfold Hid; rw [List.getElem?_eq_getElem hlt, hs0e]
        have HPL0 := hlt
        obtain ⟨bs, hbs⟩ : ∃ bs, bs = (F.take p).map (accZ1 A) := ⟨_, rfl⟩
        obtain ⟨xs, hxs⟩ : ∃ xs, xs = (F.take p).map (rowOfK (stepF A f) (clsK cls) F) := ⟨_, rfl⟩
        rw [← hbs, ← hxs] at HO
        have HBS := Lib.hid hbs
        have HXS := Lib.hid hxs
        have HB := Lib.hid HO.out.begin
        clear hs0e ht0 hbs hxs HRp
        go_upto_region 11 with fail
        have hp12 : p < 1000 := by omega
        clear hpi
        go_loopw [8, 9, 11, 12] (fun o q tr j wz => ∃ (k : Nat) (gs : List Int) (ov rv tv : Value), k ≤ 9 ∧ j = .int .i64 k ∧ ov = o ∧ rv = q ∧ tv = tr ∧ p < gs.length ∧ Hid (gs[p]? = some (s : Int)) ∧ Hid (FsK (clsK cls) (InF A f) gs) ∧ Hid (runK (stepF A f) (clsK cls) (1000 - p) (p + 1) (rowK (stepF A f) (clsK cls) (s : Int) (9 - k) gs) = F) ∧ Hid (NmT w CS wz ov rv bv nv tv (gs.map (clsK cls)) gs bs xs (preK (stepF A f) (clsK cls) F (s : Int) k))) (fun _ _ _ j _ => 9 - (intOf j).toNat)
        case atStart => exact ⟨0, rs, _, _, _, Nat.zero_le _, rfl, rfl, rfl, rfl, HPL0, HP0.out, HFs.out, HR0.out, HB.out⟩
        case round =>
          clear HO HB HR0 HP0 HFs
          obtain ⟨k, gs, ov, rv, tv, hk, rfl, rfl, rfl, rfl, HPL, HP, HFG, HRG, HX⟩ := hrel
          have hglen : gs.length ≤ n := HFG.out.len HKR.out
          obtain ⟨g9, rc, rfl, hg9b⟩ := own_block HX.out.sr.2 (by omega)
          obtain ⟨og, oc9, rfl, hog⟩ := own_block HX.out.so.2 (by rw [List.length_map]; omega)
          rw [List.length_map] at HX ⊢
          by_cases hkt : k < 9
          · have hki : (k : Int) < 9 := by omega
            have hk0 : (0 : Int) ≤ (k : Int) := by omega
            have hpg : (p : Int) < (gs.length : Int) := by omega
            have hp0 : (0 : Int) ≤ (p : Int) := by omega
            have hsi : (s : Int) < (n : Int) := by omega
            have hs0i : (0 : Int) ≤ (s : Int) := by omega
            obtain ⟨c1, o1, c2, o2, cc, rfl, hc1, hcell, hc2, hcs⟩ := HNX.out s hsn
            have hcz := hcs k hkt
            obtain ⟨hq1, hq2⟩ := HNL.out s hsn k hkt
            obtain ⟨q, hq⟩ : ∃ q, q = nextA A.nx s k := ⟨_, rfl⟩
            rw [← hq] at hcz hq1 hq2
            have HQ := Lib.hid hq
            clear hq hcs
            have hsw := HX.out.sc
            have e1 := (Below.cell hsw (p := ⟨c1, o1 + s, none⟩) hc1).trans hcell
            have e2 := (Below.cell hsw (p := ⟨c2, o2 + k, none⟩) hc2).trans hcz
            have e3 : wr.cell? ⟨g9, p, none⟩ = some (.int .i64 (s : Int)) := by
              have h1 := (HX.out.sr.cellI rfl p HPL).1
              have h2 := HP.out
              rw [List.getElem?_eq_getElem HPL] at h2
              injection h2 with h2
              rw [h1, h2]
            obtain ⟨⟨p0, p1, p2⟩, _⟩ : (wr.cell? ⟨w.heap.size, 0, none⟩ = some (.int .i64 (st : Int)) ∧ wr.cell? ⟨w.heap.size, 1, none⟩ = some (.slice (some ⟨ab, aoff, none⟩) n ca) ∧ wr.cell? ⟨w.heap.size, 2, none⟩ = some (.slice (some ⟨c1, o1, none⟩) n cb)) ∧ True := by
              have h := HX.out.b0
              rw [hCS] at h
              exact ⟨h.threeA.1, trivial⟩
            have hHX := HX
            clear hc1 hcell hc2 hcz hsw
            by_cases hneg : q = -1
            · subst hneg
              have hst : stepF A f (s : Int) k = none := stepF_no HQ.out.symm
              have HRN : Hid (runK (stepF A f) (clsK cls) (1000 - p) (p + 1) (rowK (stepF A f) (clsK cls) (s : Int) (9 - (k + 1)) gs) = F) := by
                have h1 := HRG.out
                rw [rowK_at _ _ _ k hkt, hst] at h1
                exact h1
              have HRA := Lib.hid (rowAtK_none (key := clsK cls) (F := F) hst)
              go_upto_region 13 with fail
              go_quiet (fail)
              have hsq : Since wr (wr.drewN nq) := (Since.refl wr).drewN nq
              obtain ⟨wq, hwq⟩ : ∃ wq, wq = wr.drewN nq := ⟨_, rfl⟩
              rw [← hwq] at hsq ⊢
              have HX := Lib.hid (HX.out.since hsq)
              clear p0 p1 p2 e1 e2 e3 hwq hHX
              have hzi : InI (-1) := by unfold InI; omega
              have hts := (preK_length (stepF A f) (clsK cls) F (s : Int) k)
              have HTT := Lib.hid HX.out.st
              have hbz := HX.out.lt
              go_wp2_with (at_builtin; go_must (refine wpList_append_at rfl (.tmp 83) (.tmp 85) rfl (w.heap.size + 3) tv _ (by first | rfl | simp [Act.eval]) HTT.out (-1) (by first | rfl | simp [Act.eval]) hzi (by rw [hts]; omega) hbz ?_); intro v9 w9 ho9 hg9 hn9)
              have HX9 : Hid (NmT w CS w9 (.slice (some ⟨og, 0, none⟩) gs.length oc9) (.slice (some ⟨g9, 0, none⟩) gs.length rc) bv nv v9 (gs.map (clsK cls)) gs bs xs (preK (stepF A f) (clsK cls) F (s : Int) (k + 1))) := by
                unfold Hid
                rw [preK_step, HRA.out]
                exact HX.out.row ho9 hg9 hn9
              clear ho9 hg9 hn9 HTT
              go_roundw
              case rel => exact ⟨k + 1, gs, _, _, v9, by omega, by go_num, rfl, rfl, rfl, HPL, HP.out, HFG.out, HRN.out, HX9.out⟩
              case measure => simp [intOf]; omega
            · obtain ⟨u, rfl⟩ : ∃ u : Nat, q = u := ⟨q.toNat, by omega⟩
              have hun : u < n := by omega
              have hui : (u : Int) < (n : Int) := by omega
              have hu0 : (0 : Int) ≤ (u : Int) := by omega
              obtain ⟨lb2, loff2, elb, hlb2, hlc2⟩ := HLV.out u hun
              injection elb with elb
              injection elb with elb1 elb2
              subst elb1 elb2
              have HL2 := Lib.hid hlb2
              have hge : ((u : Int) ≥ 0) := hu0
              clear hneg hlb2
              cases hfu : f u with
              | false =>
                rw [hfu] at hlc2
                have hst : stepF A f (s : Int) k = none := stepF_dead HQ.out.symm hfu
                have HRN : Hid (runK (stepF A f) (clsK cls) (1000 - p) (p + 1) (rowK (stepF A f) (clsK cls) (s : Int) (9 - (k + 1)) gs) = F) := by
                  have h1 := HRG.out
                  rw [rowK_at _ _ _ k hkt, hst] at h1
                  exact h1
                have HRA := Lib.hid (rowAtK_none (key := clsK cls) (F := F) hst)
                go_upto_region 13 with fail
                go_quiet (fail)
                have hsq : Since wr (wr.drewN nq) := (Since.refl wr).drewN nq
                obtain ⟨wq, hwq⟩ : ∃ wq, wq = wr.drewN nq := ⟨_, rfl⟩
                rw [← hwq] at hsq ⊢
                have HX := Lib.hid (HX.out.since hsq)
                clear p0 p1 p2 e1 e2 e3 hwq hHX
                have e4 := (Below.cell HX.out.sc (p := ⟨lb, loff + u, none⟩) HL2.out).trans hlc2
                have hzi : InI (-1) := by unfold InI; omega
                have hts := (preK_length (stepF A f) (clsK cls) F (s : Int) k)
                have HTT := Lib.hid HX.out.st
                have hbz := HX.out.lt
                go_wp2_with (at_builtin; go_must (refine wpList_append_at rfl (.tmp 83) (.tmp 85) rfl (w.heap.size + 3) tv _ (by first | rfl | simp [Act.eval]) HTT.out (-1) (by first | rfl | simp [Act.eval]) hzi (by rw [hts]; omega) hbz ?_); intro v9 w9 ho9 hg9 hn9)
                have HX9 : Hid (NmT w CS w9 (.slice (some ⟨og, 0, none⟩) gs.length oc9) (.slice (some ⟨g9, 0, none⟩) gs.length rc) bv nv v9 (gs.map (clsK cls)) gs bs xs (preK (stepF A f) (clsK cls) F (s : Int) (k + 1))) := by
                  unfold Hid
                  rw [preK_step, HRA.out]
                  exact HX.out.row ho9 hg9 hn9
                clear ho9 hg9 hn9 HTT
                go_roundw
                case rel => exact ⟨k + 1, gs, _, _, v9, by omega, by go_num, rfl, rfl, rfl, HPL, HP.out, HFG.out, HRN.out, HX9.out⟩
                case measure => simp [intOf]; omega
              | true =>
                rw [hfu] at hlc2
                have hst : stepF A f (s : Int) k = some (u : Int) := stepF_is HQ.out.symm hfu
                obtain ⟨kb2, koff2, ekb, hkb2, hkc2⟩ := HCL.out u hun
                injection ekb with ekb
                injection ekb with ekb1 ekb2
                subst ekb1 ekb2
                have hkr := HKR.out _ ⟨HQI.out u hun, by rw [Int.toNat_natCast]; exact hfu⟩
                obtain ⟨ky, hky⟩ : ∃ ky, ky = clsK cls (u : Int) := ⟨_, rfl⟩
                rw [← hky] at hkc2 hkr
                have HKY := Lib.hid hky
                clear hky
                go_upto_region 13 with fail
                go_quiet (fail)
                have hsq : Since wr (wr.drewN nq) := (Since.refl wr).drewN nq
                obtain ⟨wq, hwq⟩ : ∃ wq, wq = wr.drewN nq := ⟨_, rfl⟩
                rw [← hwq] at hsq ⊢
                have HX := Lib.hid (HX.out.since hsq)
                clear p0 p1 p2 e1 e2 e3 hwq hHX
                have e4 := (Below.cell HX.out.sc (p := ⟨lb, loff + u, none⟩) HL2.out).trans hlc2
                have e5 := (Below.cell HX.out.sc (p := ⟨kb, koff + u, none⟩) hkb2).trans hkc2
                have hfi := find_any _ (gs.map (clsK cls)) ky _ HX.out.so.at (by rw [List.length_map]; omega)
                have HFI := Lib.hid hfi
                clear hfi
                go_wp2_with fail
                refine HFI.out.mono ?_
                rintro e w7 ⟨rfl, hs7⟩
                have HX := Lib.hid (HX.out.since hs7)
                have e6 := (Below.cell HX.out.sc (p := ⟨kb, koff + u, none⟩) hkb2).trans hkc2
                clear e4 e5 HFI hs7
                by_cases hin : ky ∈ gs.map (clsK cls)
                · rw [findL_in hin]
                  have hin2 : clsK cls (u : Int) ∈ gs.map (clsK cls) := by rw [← HKY.out]; exact hin
                  have HRN : Hid (runK (stepF A f) (clsK cls) (1000 - p) (p + 1) (rowK (stepF A f) (clsK cls) (s : Int) (9 - (k + 1)) gs) = F) := by
                    have h1 := HRG.out
                    rw [rowK_at _ _ _ k hkt, hst] at h1
                    unfold addK at h1
                    simp only at h1
                    rw [if_pos hin2] at h1
                    exact h1
                  have HRA : Hid (rowAtK (stepF A f) (clsK cls) F (s : Int) k = (posN (gs.map (clsK cls)) ky : Int)) := by
                    obtain ⟨t1, h1⟩ := runK_pre (stepF A f) (clsK cls) (1000 - p) (p + 1) (rowK (stepF A f) (clsK cls) (s : Int) (9 - k) gs)
                    obtain ⟨t2, h2⟩ := rowK_pre (stepF A f) (clsK cls) (s : Int) (9 - k) gs
                    rw [HRG.out, h2, List.append_assoc] at h1
                    unfold Hid
                    rw [rowAtK_old h1 hst hin2, HKY.out]
                  have hpl := posN_lt _ _ hin
                  rw [List.length_map] at hpl
                  generalize posN (gs.map (clsK cls)) ky = at9 at HRA hpl ⊢
                  have hat0 : ¬ ((at9 : Int) < 0) := by omega
                  clear e6 hin hin2 hst
                  have hzi : InI ((at9 : Int)) := by unfold InI; omega
                  have hts := (preK_length (stepF A f) (clsK cls) F (s : Int) k)
                  have HTT := Lib.hid HX.out.st
                  have hbz := HX.out.lt
                  go_wp2_with (at_builtin; go_must (refine wpList_append_at rfl (.tmp 83) (.tmp 85) rfl (w.heap.size + 3) tv _ (by first | rfl | simp [Act.eval]) HTT.out ((at9 : Int)) (by first | rfl | simp [Act.eval]) hzi (by rw [hts]; omega) hbz ?_); intro v9 w9 ho9 hg9 hn9)
                  have HX9 : Hid (NmT w CS w9 (.slice (some ⟨og, 0, none⟩) gs.length oc9) (.slice (some ⟨g9, 0, none⟩) gs.length rc) bv nv v9 (gs.map (clsK cls)) gs bs xs (preK (stepF A f) (clsK cls) F (s : Int) (k + 1))) := by
                    unfold Hid
                    rw [preK_step, HRA.out]
                    exact HX.out.row ho9 hg9 hn9
                  clear ho9 hg9 hn9 HTT
                  go_roundw
                  case rel => exact ⟨k + 1, gs, _, _, v9, by omega, by go_num, rfl, rfl, rfl, HPL, HP.out, HFG.out, HRN.out, HX9.out⟩
                  case measure => simp [intOf]; omega
                · rw [findL_out hin]
                  have hin2 : clsK cls (u : Int) ∉ gs.map (clsK cls) := by rw [← HKY.out]; exact hin
                  have HRN : Hid (runK (stepF A f) (clsK cls) (1000 - p) (p + 1) (rowK (stepF A f) (clsK cls) (s : Int) (9 - (k + 1)) (gs ++ [(u : Int)])) = F) := by
                    have h1 := HRG.out
                    rw [rowK_at _ _ _ k hkt, hst] at h1
                    unfold addK at h1
                    simp only at h1
                    rw [if_neg hin2] at h1
                    exact h1
                  have HRA : Hid (rowAtK (stepF A f) (clsK cls) F (s : Int) k = (gs.length : Int)) := by
                    obtain ⟨t1, h1⟩ := runK_pre (stepF A f) (clsK cls) (1000 - p) (p + 1) (rowK (stepF A f) (clsK cls) (s : Int) (9 - (k + 1)) (gs ++ [(u : Int)]))
                    obtain ⟨t2, h2⟩ := rowK_pre (stepF A f) (clsK cls) (s : Int) (9 - (k + 1)) (gs ++ [(u : Int)])
                    rw [HRN.out, h2, List.append_assoc] at h1
                    exact rowAtK_new h1 hst hin2
                  have HFG2 : Hid (FsK (clsK cls) (InF A f) (gs ++ [(u : Int)])) := HFG.out.snoc hin2 ⟨HQI.out u hun, by rw [Int.toNat_natCast]; exact hfu⟩
                  have HP2 : Hid ((gs ++ [(u : Int)])[p]? = some (s : Int)) := by unfold Hid; rw [List.getElem?_append_left HPL]; exact HP.out
                  have HPL2 : p < (gs ++ [(u : Int)]).length := by simp; omega
                  have hkyi : InI ky := by unfold InI; omega
                  have hui2 : InI (u : Int) := by unfold InI; omega
                  have hol : (gs.map (clsK cls)).length ≤ 4000000 := by rw [List.length_map]; omega
                  have hrl : gs.length ≤ 4000000 := by omega
                  have HSO := Lib.hid HX.out.so
                  have hbz := HX.out.lt
                  clear hin hin2 hst
                  go_upto_region 20 with (at_builtin; go_must (refine wpList_append_at rfl (.tmp 72) (.tmp 77) rfl (w.heap.size + 3) (.slice (some ⟨og, 0, none⟩) gs.length oc9) (gs.map (clsK cls)) (by first | rfl | simp [Act.eval]) HSO.out ky (by first | rfl | simp [Act.eval]) hkyi hol hbz ?_); intro v8 w8 ho8 hg8 hn8)
                  have HX8 : Hid (NmT w CS w8 v8 (.slice (some ⟨g9, 0, none⟩) gs.length rc) bv nv tv ((gs ++ [(u : Int)]).map (clsK cls)) gs bs xs (preK (stepF A f) (clsK cls) F (s : Int) k)) := by
                    unfold Hid
                    rw [List.map_append, List.map_cons, List.map_nil, ← HKY.out]
                    exact HX.out.ord ho8 hg8 hn8
                  clear ho8 hg8 hn8 HSO hbz e6 HX
                  have HSR := Lib.hid HX8.out.sr
                  have hbz := HX8.out.lt
                  go_upto_region 21 with (at_builtin; go_must (refine wpList_append_at rfl (.tmp 79) (.tmp 81) rfl (w.heap.size + 3) (.slice (some ⟨g9, 0, none⟩) gs.length rc) gs (by first | rfl | simp [Act.eval]) HSR.out (u : Int) (by first | rfl | simp [Act.eval]) hui2 hrl hbz ?_); intro v8b w8b ho8 hg8 hn8)
                  have HX : Hid (NmT w CS w8b v8 v8b bv nv tv ((gs ++ [(u : Int)]).map (clsK cls)) (gs ++ [(u : Int)]) bs xs (preK (stepF A f) (clsK cls) F (s : Int) k)) := HX8.out.rep ho8 hg8 hn8
                  clear ho8 hg8 hn8 HSR hbz HX8
                  have hzi : InI ((gs.length : Int)) := by unfold InI; omega
                  have hts := (preK_length (stepF A f) (clsK cls) F (s : Int) k)
                  have HTT := Lib.hid HX.out.st
                  have hbz := HX.out.lt
                  go_wp2_with (at_builtin; go_must (refine wpList_append_at rfl (.tmp 83) (.tmp 85) rfl (w.heap.size + 3) tv _ (by first | rfl | simp [Act.eval]) HTT.out ((gs.length : Int)) (by first | rfl | simp [Act.eval]) hzi (by rw [hts]; omega) hbz ?_); intro v9 w9 ho9 hg9 hn9)
                  have HX9 : Hid (NmT w CS w9 v8 v8b bv nv v9 ((gs ++ [(u : Int)]).map (clsK cls)) (gs ++ [(u : Int)]) bs xs (preK (stepF A f) (clsK cls) F (s : Int) (k + 1))) := by
                    unfold Hid
                    rw [preK_step, HRA.out]
                    exact HX.out.row ho9 hg9 hn9
                  clear ho9 hg9 hn9 HTT
                  go_roundw
                  case rel => exact ⟨k + 1, (gs ++ [(u : Int)]), _, _, v9, by omega, by go_num, rfl, rfl, rfl, HPL2, HP2.out, HFG2.out, HRN.out, HX9.out⟩
                  case measure => simp [intOf]; omega
          · obtain rfl : k = 9 := by omega
            have HRE : Hid (runK (stepF A f) (clsK cls) (1000 - p) (p + 1) gs = F) := HRG.out
            have hpg : (p : Int) < (gs.length : Int) := by omega
            have hp0 : (0 : Int) ≤ (p : Int) := by omega
            have hsi : (s : Int) < (n : Int) := by omega
            have hs0i : (0 : Int) ≤ (s : Int) := by omega
            obtain ⟨ab2, aoff2, eab, hab2, hac⟩ := HACC.out s hsn
            injection eab with eab
            injection eab with eab1 eab2
            subst eab1 eab2
            obtain ⟨ac0, hac0⟩ : ∃ b, b = accZ1 A (s : Int) := ⟨_, rfl⟩
            rw [← hac0] at hac
            have HAC0 := Lib.hid hac0
            have hblen : bs.length ≤ 4000000 := by rw [HBS.out]; simp; omega
            have HXL : Hid (xs.length ≤ 4000000) := by unfold Hid; rw [HXS.out]; simp; omega
            have HGP : Hid (gs[p] = (s : Int)) := by
              have h2 := HP.out
              rw [List.getElem?_eq_getElem HPL] at h2
              injection h2
            have HKM : Hid (∀ w', Blk w' w.heap.size 39 CS → Own (w.heap.size + 3) w' (.slice (some ⟨g9, 0, none⟩) gs.length rc) gs → Since w w' → w'.cell? ⟨w.heap.size, 1, none⟩ = some (.slice (some ⟨ab, aoff, none⟩) n ca) ∧ w'.cell? ⟨g9, p, none⟩ = some (.int .i64 (s : Int)) ∧ w'.cell? ⟨ab, aoff + s, none⟩ = some (.bool ac0)) := by
              intro w' hb ho hs
              rw [hCS] at hb
              have h1 := (ho.cellI rfl p HPL).1
              rw [HGP.out] at h1
              exact ⟨hb.threeA.1.2.1, h1, (Below.cell hs (p := ⟨ab, aoff + s, none⟩) hab2).trans hac⟩
            have HKD : Hid (∀ w', Since wr w' → w'.cell? ⟨w.heap.size, 1, none⟩ = some (.slice (some ⟨ab, aoff, none⟩) n ca) ∧ w'.cell? ⟨g9, p, none⟩ = some (.int .i64 (s : Int)) ∧ w'.cell? ⟨ab, aoff + s, none⟩ = some (.bool ac0)) := fun w' hs => HKM.out w' (HX.out.b0.since hs) (HX.out.sr.since hs) (HX.out.sc.trans hs)
            obtain ⟨bvo, bvc, rfl⟩ := OwnBo.len HX.out.sb
            obtain ⟨nvo, nvc, rfl⟩ := HX.out.sn.len
            obtain ⟨tvo, tvc, rfl⟩ := HX.out.st.len
            obtain ⟨bln, hbln⟩ : ∃ l, l = bs.length := ⟨_, rfl⟩
            obtain ⟨xln, hxln⟩ : ∃ l, l = xs.length := ⟨_, rfl⟩
            rw [preK_length] at HX ⊢
            rw [← hbln, ← hxln] at HX ⊢
            have HBLN := Lib.hid hbln
            have HXLN := Lib.hid hxln
            clear hac0 hab2 hac hbln hxln HRG
            go_upto_region 22 with fail
            go_wp2_with fail
            refine wp_region_held_drew (S := (fun w' => w'.cell? ⟨w.heap.size, 1, none⟩ = some (.slice (some ⟨ab, aoff, none⟩) n ca) ∧ w'.cell? ⟨g9, p, none⟩ = some (.int .i64 (s : Int)) ∧ w'.cell? ⟨ab, aoff + s, none⟩ = some (.bool ac0))) (by kernel_rfl) (HKD.out _ (Since.refl _).drew) (fun hHeld => ?_)
            refine take_yes 0 (some 87) (v := ?_) rfl (by kernel_rfl) (by kernel_rfl) (by kernel_rfl) (by kernel_rfl) (fun _ _ _ h => h) (by rfl) (by assumption) ?_ ?_
            rotate_left
            · (intro w' hSw; (try dsimp only at hSw); go_simp; try with_reducible rfl)
            try simp only [Act.put, List.setIfInBounds_toArray, List.set_cons_zero, List.set_cons_succ]
            refine take_yes 2 (some 89) (v := ?_) rfl (by kernel_rfl) (by kernel_rfl) (by kernel_rfl) (by kernel_rfl) (fun _ _ _ h => h) (by rfl) (by assumption) ?_ ?_
            rotate_left
            · (intro w' hSw; (try dsimp only at hSw); go_simp; try with_reducible rfl)
            try simp only [Act.put, List.setIfInBounds_toArray, List.set_cons_zero, List.set_cons_succ]
            refine take_yes 3 (some 90) (v := ?_) rfl (by kernel_rfl) (by kernel_rfl) (by kernel_rfl) (by kernel_rfl) (fun _ _ _ h => h) (by rfl) (by assumption) ?_ ?_
            rotate_left
            · (intro w' hSw; (try dsimp only at hSw); go_simp; try with_reducible rfl)
            try simp only [Act.put, List.setIfInBounds_toArray, List.set_cons_zero, List.set_cons_succ]
            refine take_yes 4 (some 91) (v := ?_) rfl (by kernel_rfl) (by kernel_rfl) (by kernel_rfl) (by kernel_rfl) (fun _ _ _ h => h) (by rfl) (by assumption) ?_ ?_
            rotate_left
            · (intro w' hSw; (try dsimp only at hSw); go_simp; try with_reducible rfl)
            try simp only [Act.put, List.setIfInBounds_toArray, List.set_cons_zero, List.set_cons_succ]
            refine take_yes 5 (some 92) (v := ?_) rfl (by kernel_rfl) (by kernel_rfl) (by kernel_rfl) (by kernel_rfl) (fun _ _ _ h => h) (by rfl) (by assumption) ?_ ?_
            rotate_left
            · (intro w' hSw; (try dsimp only at hSw); go_simp; try with_reducible rfl)
            try simp only [Act.put, List.setIfInBounds_toArray, List.set_cons_zero, List.set_cons_succ]
            refine take_yes 6 (some 93) (v := ?_) rfl (by kernel_rfl) (by kernel_rfl) (by kernel_rfl) (by kernel_rfl) (fun _ _ _ h => h) (by rfl) (by assumption) ?_ ?_
            rotate_left
            · (intro w' hSw; (try dsimp only at hSw); go_simp; try with_reducible rfl)
            try simp only [Act.put, List.setIfInBounds_toArray, List.set_cons_zero, List.set_cons_succ]
            refine take_yes 7 (some 94) (v := ?_) rfl (by kernel_rfl) (by kernel_rfl) (by kernel_rfl) (by kernel_rfl) (fun _ _ _ h => h) (by rfl) (by assumption) ?_ ?_
            rotate_left
            · (intro w' hSw; (try dsimp only at hSw); go_simp; try with_reducible rfl)
            try simp only [Act.put, List.setIfInBounds_toArray, List.set_cons_zero, List.set_cons_succ]
            refine take_yes 8 (some 95) (v := ?_) rfl (by kernel_rfl) (by kernel_rfl) (by kernel_rfl) (by kernel_rfl) (fun _ _ _ h => h) (by rfl) (by assumption) ?_ ?_
            rotate_left
            · (intro w' hSw; (try dsimp only at hSw); go_simp; try with_reducible rfl)
            try simp only [Act.put, List.setIfInBounds_toArray, List.set_cons_zero, List.set_cons_succ]
            refine take_yes 9 (some 96) (v := ?_) rfl (by kernel_rfl) (by kernel_rfl) (by kernel_rfl) (by kernel_rfl) (fun _ _ _ h => h) (by rfl) (by assumption) ?_ ?_
            rotate_left
            · (intro w' hSw; (try dsimp only at hSw); go_simp; try with_reducible rfl)
            try simp only [Act.put, List.setIfInBounds_toArray, List.set_cons_zero, List.set_cons_succ]
            refine take_two 1 10 rfl rfl (by kernel_rfl) (by rfl) (by rfl) (fun K hK => ?_) (fun K hK => ?_)
            · skip
              obtain ⟨⟨q0, q1, q2⟩, _⟩ := (HX.out.bx.since (Since.refl wr).drew).threeA
              go_simp
              clear q0 q1 q2
              refine hK.out _ _ (HKD.out _ (Since.refl wr).drew) (fun hHeld1 => ?_)
              clear hK K hHeld
              try simp only [Act.put, List.setIfInBounds_toArray, List.set_cons_zero, List.set_cons_succ]
              refine take_run 10 rfl (by kernel_rfl) (by rfl) (fun K hK => ?_)
              go_simp
              have hsb2 : Since wr (wr.alloc (.cells #[.bool ac0] 4)).drew := ((Since.refl wr).alloc _).drew
              refine hK.out _ _ (HKD.out _ hsb2) (fun hHeld2 => ?_)
              clear hK K hHeld1
              try simp only [Act.put, List.setIfInBounds_toArray, List.set_cons_zero, List.set_cons_succ]
              refine take_run 11 rfl (by kernel_rfl) (by rfl) (fun K hK => ?_)
              have HX2 := Lib.hid (HX.out.since hsb2)
              refine wp_append_boolv (.tmp 88) (.tmp 97) rfl (w.heap.size + 3) _ _ rfl HX2.out.sb _ ac0 rfl (Blk.drew (Blk.new rfl _ _)) hblen HX2.out.lt ?_
              intro v4 w4 ho4 hg4
              obtain ⟨b4o, b4c, hb4⟩ := OwnBo.len ho4
              obtain ⟨b4n, hb4n⟩ : ∃ l, l = (bs ++ [ac0]).length := ⟨_, rfl⟩
              rw [← hb4n] at hb4
              subst hb4
              clear hb4n
              have HM4 := Lib.hid (HX2.out.mid hg4)
              have HX4 := Lib.hid (HX2.out.acc ho4 hg4)
              clear ho4 hg4
              refine hK.out _ _ (HKM.out _ HM4.out.1 HM4.out.2.1 HM4.out.2.2.1) (fun hHeld3 => ?_)
              clear hK K hHeld2
              try simp only [Act.put, List.setIfInBounds_toArray, List.set_cons_zero, List.set_cons_succ]
              refine take_yes 12 (some 99) (v := ?_) rfl (by kernel_rfl) (by kernel_rfl) (by kernel_rfl) (by kernel_rfl) (fun _ _ _ h => h) (by rfl) (by assumption) ?_ ?_
              rotate_left
              · (intro w' hSw; (try dsimp only at hSw); go_simp; try with_reducible rfl)
              try simp only [Act.put, List.setIfInBounds_toArray, List.set_cons_zero, List.set_cons_succ]
              refine take_run 13 rfl (by kernel_rfl) (by rfl) (fun K hK => ?_)
              obtain ⟨⟨q0, q1, q2⟩, q3, q4, q5⟩ := HM4.out.2.2.2.threeA
              go_simp
              clear q0 q1 q2 q3 q4 q5
              refine hK.out _ _ (HKM.out _ HX4.out.b0 HX4.out.sr HX4.out.sc) (fun hHeldz => ?_)
              clear hK K hHeld3
              try simp only [Act.put, List.setIfInBounds_toArray, List.set_cons_zero, List.set_cons_succ]
              refine wpAnyH_done (by kernel_rfl) ?_ _
              clear hHeldz HKD HKM HM4
              obtain ⟨w5, hw5⟩ : ∃ w5, w5 = w4.setCell ⟨w.heap.size + 2, 1, none⟩ (.slice b4o b4n b4c) := ⟨_, rfl⟩
              rw [← hw5] at HX4 ⊢
              clear hw5 HX HX2
              obtain ⟨⟨q0, q1, q2⟩, q3, q4, q5⟩ := HX4.out.bx.threeA
              have hbz5 := HX4.out.lt
              have HSN := Lib.hid HX4.out.sn
              have HB5 := Lib.hid HX4.out.bx
              have hxl9 := HXL.out
              go_wp2_with (at_builtin; go_must (refine wpList_append_rowv rfl (.tmp 101) (.tmp 103) rfl (w.heap.size + 3) (.slice nvo xln nvc) xs _ (by first | rfl | simp [Act.eval]) HSN.out (.slice tvo 9 tvc) (by first | rfl | simp [Act.eval]) rfl hxl9 hbz5 ?_); intro v6 w6 ho6 hg6; obtain ⟨v6o, v6n, v6c, rfl⟩ := rowv_shape HSN.out ho6; obtain ⟨⟨z0, z1, z2⟩, z3, z4, z5⟩ := (blk_keep HB5.out hg6 (fun q e => (HSN.out.lt q e).1) (by omega)).threeA)
              have HO6 := Lib.hid (HX4.out.fin ho6 hg6)
              have HO7 : Hid (NmO w CS (w6.setCell ⟨w.heap.size + 2, 2, none⟩ (.slice v6o v6n v6c)) (.slice (some ⟨og, 0, none⟩) gs.length oc9) (.slice (some ⟨g9, 0, none⟩) gs.length rc) (.slice b4o b4n b4c) (.slice v6o v6n v6c) (gs.map (clsK cls)) gs ((F.take (p + 1)).map (accZ1 A)) ((F.take (p + 1)).map (rowOfK (stepF A f) (clsK cls) F))) := by
                obtain ⟨hF, eF⟩ := HFp.out
                unfold Hid
                rw [map_take _ _ _ hF, map_take _ _ _ hF, eF, ← HBS.out, ← HXS.out, ← HAC0.out]
                exact HO6.out
              clear z0 z1 z2 z3 z4 z5 ho6 hg6
              go_roundw
              case rel => exact ⟨p + 1, gs, _, _, _, _, by go_num, rfl, rfl, by omega, HFG.out, by rw [show 1001 - (p + 1) = 1000 - p from by omega]; exact HRE.out, HO7.out⟩
              case measure => simp [intOf]; omega
            · skip
              go_simp
              have hsb1 : Since wr (wr.alloc (.cells #[.bool ac0] 4)).drew := ((Since.refl wr).alloc _).drew
              refine hK.out _ _ (HKD.out _ hsb1) (fun hHeld1 => ?_)
              clear hK K hHeld
              try simp only [Act.put, List.setIfInBounds_toArray, List.set_cons_zero, List.set_cons_succ]
              refine take_run 1 rfl (by kernel_rfl) (by rfl) (fun K hK => ?_)
              obtain ⟨⟨q0, q1, q2⟩, _⟩ := (HX.out.bx.since hsb1).threeA
              go_simp
              clear q0 q1 q2
              refine hK.out _ _ (HKD.out _ hsb1) (fun hHeld2 => ?_)
              clear hK K hHeld1
              try simp only [Act.put, List.setIfInBounds_toArray, List.set_cons_zero, List.set_cons_succ]
              refine take_run 11 rfl (by kernel_rfl) (by rfl) (fun K hK => ?_)
              have HX2 := Lib.hid (HX.out.since hsb1)
              refine wp_append_boolv (.tmp 88) (.tmp 97) rfl (w.heap.size + 3) _ _ rfl HX2.out.sb _ ac0 rfl (Blk.drew (Blk.new rfl _ _)) hblen HX2.out.lt ?_
              intro v4 w4 ho4 hg4
              obtain ⟨b4o, b4c, hb4⟩ := OwnBo.len ho4
              obtain ⟨b4n, hb4n⟩ : ∃ l, l = (bs ++ [ac0]).length := ⟨_, rfl⟩
              rw [← hb4n] at hb4
              subst hb4
              clear hb4n
              have HM4 := Lib.hid (HX2.out.mid hg4)
              have HX4 := Lib.hid (HX2.out.acc ho4 hg4)
              clear ho4 hg4
              refine hK.out _ _ (HKM.out _ HM4.out.1 HM4.out.2.1 HM4.out.2.2.1) (fun hHeld3 => ?_)
              clear hK K hHeld2
              try simp only [Act.put, List.setIfInBounds_toArray, List.set_cons_zero, List.set_cons_succ]
              refine take_yes 12 (some 99) (v := ?_) rfl (by kernel_rfl) (by kernel_rfl) (by kernel_rfl) (by kernel_rfl) (fun _ _ _ h => h) (by rfl) (by assumption) ?_ ?_
              rotate_left
              · (intro w' hSw; (try dsimp only at hSw); go_simp; try with_reducible rfl)
              try simp only [Act.put, List.setIfInBounds_toArray, List.set_cons_zero, List.set_cons_succ]
              refine take_run 13 rfl (by kernel_rfl) (by rfl) (fun K hK => ?_)
              obtain ⟨⟨q0, q1, q2⟩, q3, q4, q5⟩ := HM4.out.2.2.2.threeA
              go_simp
              clear q0 q1 q2 q3 q4 q5
              refine hK.out _ _ (HKM.out _ HX4.out.b0 HX4.out.sr HX4.out.sc) (fun hHeldz => ?_)
              clear hK K hHeld3
              try simp only [Act.put, List.setIfInBounds_toArray, List.set_cons_zero, List.set_cons_succ]
              refine wpAnyH_done (by kernel_rfl) ?_ _
              clear hHeldz HKD HKM HM4
              obtain ⟨w5, hw5⟩ : ∃ w5, w5 = w4.setCell ⟨w.heap.size + 2, 1, none⟩ (.slice b4o b4n b4c) := ⟨_, rfl⟩
              rw [← hw5] at HX4 ⊢
              clear hw5 HX HX2
              obtain ⟨⟨q0, q1, q2⟩, q3, q4, q5⟩ := HX4.out.bx.threeA
              have hbz5 := HX4.out.lt
              have HSN := Lib.hid HX4.out.sn
              have HB5 := Lib.hid HX4.out.bx
              have hxl9 := HXL.out
              go_wp2_with (at_builtin; go_must (refine wpList_append_rowv rfl (.tmp 101) (.tmp 103) rfl (w.heap.size + 3) (.slice nvo xln nvc) xs _ (by first | rfl | simp [Act.eval]) HSN.out (.slice tvo 9 tvc) (by first | rfl | simp [Act.eval]) rfl hxl9 hbz5 ?_); intro v6 w6 ho6 hg6; obtain ⟨v6o, v6n, v6c, rfl⟩ := rowv_shape HSN.out ho6; obtain ⟨⟨z0, z1, z2⟩, z3, z4, z5⟩ := (blk_keep HB5.out hg6 (fun q e => (HSN.out.lt q e).1) (by omega)).threeA)
              have HO6 := Lib.hid (HX4.out.fin ho6 hg6)
              have HO7 : Hid (NmO w CS (w6.setCell ⟨w.heap.size + 2, 2, none⟩ (.slice v6o v6n v6c)) (.slice (some ⟨og, 0, none⟩) gs.length oc9) (.slice (some ⟨g9, 0, none⟩) gs.length rc) (.slice b4o b4n b4c) (.slice v6o v6n v6c) (gs.map (clsK cls)) gs ((F.take (p + 1)).map (accZ1 A)) ((F.take (p + 1)).map (rowOfK (stepF A f) (clsK cls) F))) := by
                obtain ⟨hF, eF⟩ := HFp.out
                unfold Hid
                rw [map_take _ _ _ hF, map_take _ _ _ hF, eF, ← HBS.out, ← HXS.out, ← HAC0.out]
                exact HO6.out
              clear z0 z1 z2 z3 z4 z5 ho6 hg6
              go_roundw
              case rel => exact ⟨p + 1, gs, _, _, _, _, by go_num, rfl, rfl, by omega, HFG.out, by rw [show 1001 - (p + 1) = 1000 - p from by omega]; exact HRE.out, HO7.out⟩
              case measure => simp [intOf]; omega
      · have hFr : F = rs := by
          rw [← HRp.out]; exact runK_end _ _ _ _ _ (by omega)
        have htk : F.take p = F := List.take_of_length_le (by rw [hFr]; omega)
        rw [htk] at HO
        obtain ⟨bvo, bvc, rfl⟩ := OwnBo.len HO.out.sb
        obtain ⟨nvo, nvc, rfl⟩ := HO.out.sn.len
        have HDN := Lib.hid HO.out.done
        have hbz := HO.out.lt
        obtain ⟨⟨q0, q1, q2⟩, _⟩ := HO.out.bx.threeA
        obtain ⟨⟨r0, r1, r2⟩, r3, r4, r5⟩ := HO.out.b1.threeA
        have hnl : ¬ ((p : Int) < (rs.length : Int)) := by omega
        have HSC := Lib.hid HO.out.sc
        clear hFr htk
        go_wp2
        refine bodyPost_ret (v := .agg #[.int .i64 0, .slice bvo (F.map (accZ1 A)).length bvc, .slice nvo (F.map (rowOfK (stepF A f) (clsK cls) F)).length nvc]) (by simp [results, Try.results180, go_sem, *]) rfl ?_
        refine ⟨_, rfl, ?_, ?_⟩
        · refine OwnA.wider (lo := w.heap.size + 3) (hi := wr.heap.size) ?_ (by omega) (by simp)
          iterate 3 (with_reducible refine OwnA.far1 ?_ (.inl (by omega)) _ _)
          exact HDN.out
        · iterate 3 (with_reducible refine Since.setCell ?_ (by simp <;> omega) _)
          exact HSC.out
end Go.Proofs.Ytmaagihfjldgeaa
