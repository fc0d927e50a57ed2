/- EqG2, ClT, ClU, MzI, TsM, TrQ, PrM: small words and contracts that the other texts use. -/
import Derived.Test.YtmaagihfjldgeaaEqG
import Derived.Test.YtmaagihfjldgeaaClI
import Derived.Test.YtmaagihfjldgeaaTrN
import Derived.Test.YtmaagihfjldgeaaAuX
import Derived.Test.YtmaagihfjldgeaaClS
import Derived.Test.YtmaagihfjldgeaaMgI
import Derived.Test.YtmaagihfjldgeaaTrT
import Derived.Test.YtmaagihfjldgeaaA3
import Derived.Test.YtmaagihfjldgeaaA1
import Derived.Test.YtmaagihfjldgeaaNgM
import Derived.Test.YtmaagihfjldgeaaMsM
/- EqualGraphs, the model's and the program's: what they answer. -/
namespace Go.Proofs.Ytmaagihfjldgeaa
set_option maxRecDepth 100000
open Go.ChangeShapes Go.WideShapes Go.ChangeAt Go.RowKit
set_option linter.unusedVariables false
set_option linter.unusedSimpArgs false

theorem lexC_zero {xs ys : List Int} (h : lexC xs ys = 0) : xs = ys := by
  induction xs generalizing ys with
  | nil => cases ys with
    | nil => rfl
    | cons y ys => simp [lexC] at h
  | cons x xs ih => cases ys with
    | nil => simp [lexC] at h
    | cons y ys =>
      unfold lexC at h
      by_cases h1 : x < y
      · rw [if_pos h1] at h; omega
      · by_cases h2 : y < x
        · rw [if_neg h1, if_pos h2] at h; omega
        · rw [if_neg h1, if_neg h2] at h
          have : x = y := by omega
          rw [this, ih h]
theorem eqG_split (g h : Grf) (e1 : g.vs = h.vs) : decide (g = h) = decide (g.es = h.es) := by
  by_cases e2 : g.es = h.es
  · rw [decide_eq_true e2, decide_eq_true ((Grf.eq_iff g h).2 ⟨e1, e2⟩)]
  · rw [decide_eq_false e2, decide_eq_false (fun e => e2 (by rw [e]))]

end Go.Proofs.Ytmaagihfjldgeaa

/- The model's classes: a state's key, refining until nothing changes. -/
namespace Go.Proofs.Ytmaagihfjldgeaa
set_option maxRecDepth 100000
open Go.ChangeShapes Go.WideShapes Go.ChangeAt Go.RowKit Go.Maps
set_option linter.unusedVariables false
set_option linter.unusedSimpArgs false

def preI (g : Nat → Int) (k : Nat) : List Int := (List.range k).map g
theorem preI_step (g : Nat → Int) (k : Nat) : preI g (k + 1) = preI g k ++ [g k] := by unfold preI; rw [List.range_succ, List.map_append]; rfl
theorem preI_length (g : Nat → Int) (k : Nat) : (preI g k).length = k := by simp [preI]
theorem iniG_pre (A : Aut) (f : Nat → Bool) : preI (iniG A f) A.ac.length = iniC A f := rfl
set_option maxHeartbeats 4000000 in
set_option maxRecDepth 100000 in
theorem key_any (v u : Value) (A : Aut) (cls : List Int) (s : Nat) (w : World) (h : AutAt w v A) (hv : ValidA A) (hu : IntsAt w u cls) (hcl : cls.length = A.ac.length) (hs : s < A.ac.length) :
    Calls Try.prog 158 #[v, u, .int .i64 s] w (OwnOut w (sigC A.nx cls s)) := by
  obtain ⟨a, b, rfl, _, ha, hb⟩ := h
  obtain ⟨ao, ca, rfl⟩ := ha.len
  obtain ⟨bo, cb, rfl, HC⟩ := hb
  obtain ⟨uo, uc, rfl, HU⟩ := hu.row
  have hnm : A.nx.length = A.ac.length := hv.2.1
  have HNX := Lib.hid (next_cells hv HC s hs)
  have HCL : Hid (∀ t : Nat, t < A.ac.length → ∃ b off, uo = some ⟨b, off, none⟩ ∧ b < w.heap.size ∧ w.cell? ⟨b, off + t, none⟩ = some (.int .i64 (clC cls t))) := fun t ht => by
    have hx : t < cls.length := by omega
    rw [clC_at cls t hx]
    exact HU.out t hx
  have HNL : Hid (∀ k : Nat, k < 9 → -1 ≤ nextA A.nx s k ∧ nextA A.nx s k < (A.ac.length : Int)) := fun k hk => next_lt hv (by unfold InA; omega) hk
  have HIN : Hid (∀ t : Nat, t < A.ac.length → InI (clC cls t)) := fun t ht => by
    have hx : t < cls.length := by omega
    rw [clC_at cls t hx]; exact hu.1 _ (List.getElem_mem hx)
  have hn12 := hv.1
  rw [hcl, hnm]
  obtain ⟨n, hn⟩ : ∃ n, n = A.ac.length := ⟨_, rfl⟩
  rw [← hn] at hs HCL HNL HIN hn12 ⊢
  clear ha hv HC hu HU hcl hnm hn
  obtain ⟨b1, off1, b2, off2, c2, rfl, hb1, hcell1, hb2, hcell2⟩ := HNX.out
  obtain ⟨u1, uoff1, rfl, hu1, huc⟩ := HCL.out s hs
  obtain ⟨c, hc⟩ : ∃ c, c = clC cls s := ⟨_, rfl⟩
  have hci : InI c := by rw [hc]; exact HIN.out s hs
  rw [← hc] at huc
  have HALL : Hid (c :: preI (sgC A.nx cls (s : Int)) 9 = sigC A.nx cls s) := by unfold Hid sigC; rw [hc]; rfl
  have HC2 := Lib.hid hcell2
  have HC1 := Lib.hid hcell1
  have hsi : (s : Int) < (n : Int) := by omega
  have hs0i : (0 : Int) ≤ (s : Int) := by omega
  clear hc hcell2 hcell1 HNX
  obtain ⟨y, hy⟩ : ∃ y, y = w.alloc (.cells #[.int .i64 A.st, .slice ao n ca, .slice (some ⟨b1, off1, none⟩) n cb] 39) := ⟨_, rfl⟩
  have hs0 : Since w y := by rw [hy]; exact (Since.refl w).alloc _
  have hyz := hs0.size
  have B0 : Hid (Blk y w.heap.size 39 #[.int .i64 A.st, .slice ao n ca, .slice (some ⟨b1, off1, none⟩) n cb]) := by rw [hy]; exact Blk.new rfl _ _
  have HO0 : Hid (OwnNt 3 y.heap.size (y.alloc (.cells #[.int .i64 c] 3)) (.slice (some ⟨y.heap.size, 0, none⟩) 1 1) (c :: preI (sgC A.nx cls (s : Int)) 0)) := ownT_lit _ _ y (Nat.le_refl _) c hci
  have HS0 : Hid (Since y (y.alloc (.cells #[.int .i64 c] 3))) := (Since.refl y).alloc _
  have HY := Lib.hid hy
  have d1 := (Below.cell hs0 (p := ⟨u1, uoff1 + s, none⟩) hu1).trans huc
  clear hy huc
  go_enter Try.func158, Try.ntmps158
  go_upto_region 1 with fail
  rw [← HY.out]
  go_upto_region 3 with fail
  clear d1
  go_loopw [7, 8] (fun q i wr => ∃ (k : Nat) (v1 : Value), k ≤ 9 ∧ i = .int .i64 k ∧ v1 = q ∧ Hid (OwnNt 3 y.heap.size wr v1 (c :: preI (sgC A.nx cls (s : Int)) k)) ∧ Hid (Since y wr)) (fun _ i _ => 9 - (intOf i).toNat)
  case atStart => exact ⟨0, _, Nat.zero_le _, rfl, rfl, HO0.out, HS0.out⟩
  case round =>
    obtain ⟨k, v1, hk, rfl, rfl, HO, HS⟩ := hrel
    by_cases hlt : k < 9
    · have hki : (k : Int) < 9 := by omega
      have hk0 : (0 : Int) ≤ (k : Int) := by omega
      obtain ⟨q, hq⟩ : ∃ q, q = nextA A.nx (s : Int) (k : Int) := ⟨_, rfl⟩
      have e1 := (Below.cell (hs0.trans HS.out) (p := ⟨b2, off2 + k, none⟩) hb2).trans (HC2.out k hlt)
      have e0 := (Below.cell (hs0.trans HS.out) (p := ⟨b1, off1 + s, none⟩) hb1).trans HC1.out
      have HNQ := HNL.out k hlt
      rw [← hq] at e1 HNQ
      have HQ : Hid (sgC A.nx cls (s : Int) k = if q < 0 then -1 else clC cls q) := by unfold Hid sgC; rw [← hq]
      have hlen : (c :: preI (sgC A.nx cls (s : Int)) k).length ≤ 4194304 := by rw [List.length_cons, preI_length]; omega
      have hbz := HS.out.size
      have HST : Hid (c :: preI (sgC A.nx cls (s : Int)) (k + 1) = (c :: preI (sgC A.nx cls (s : Int)) k) ++ [sgC A.nx cls (s : Int) k]) := by unfold Hid; rw [preI_step]; rfl
      obtain ⟨⟨p0, p1, p2⟩, _⟩ := (B0.out.since HS.out).threeA
      clear hq
      by_cases hneg : q = -1
      · subst hneg
        have hb : ((-1 : Int) < 0) := by decide
        have hi1 : InI (-1) := by unfold InI; omega
        go_wp2_with (at_builtin; go_must (refine wpList_append_T rfl (.tmp 29) (.tmp 30) 24 3 rfl Try.underlying24 info_int y.heap.size v1 _ (by first | rfl | simp [Act.eval]) HO.out (-1) (by first | rfl | simp [Act.eval]) hi1 hlen hbz ?_); intro v5 w5 ho5 hg5)
        have HO5 : Hid (OwnNt 3 y.heap.size w5 v5 (c :: preI (sgC A.nx cls (s : Int)) (k + 1))) := by
          unfold Hid; rw [HST.out, HQ.out]; exact ho5
        have HS5 : Hid (Since y w5) := HS.out.grown hg5 (fun j hj => (HO.out.2.lt j hj).1)
        clear ho5 hg5
        go_roundw
        case rel => exact ⟨k + 1, v5, by omega, by go_num, rfl, HO5.out, HS5.out⟩
        case measure => simp [intOf]; omega
      · obtain ⟨t, rfl⟩ : ∃ t : Nat, q = t := ⟨q.toNat, by omega⟩
        have hb : ¬ ((t : Int) < 0) := by omega
        have htn : t < n := by omega
        have hti : (t : Int) < (n : Int) := by omega
        have ht0 : (0 : Int) ≤ (t : Int) := by omega
        obtain ⟨u2, uoff2, eu, hu2, huc2⟩ := HCL.out t htn
        injection eu with eu
        injection eu with eu1 eu2
        subst eu1 eu2
        have e2 := (Below.cell (hs0.trans HS.out) (p := ⟨u1, uoff1 + t, none⟩) hu1).trans huc2
        obtain ⟨d, hd⟩ : ∃ d, d = clC cls (t : Int) := ⟨_, rfl⟩
        have hdi : InI d := by rw [hd]; exact HIN.out t htn
        have HD : Hid (sgC A.nx cls (s : Int) k = d) := by unfold Hid; rw [HQ.out, if_neg hb, hd]
        rw [← hd] at e2
        clear hd huc2 hneg
        go_wp2_with (at_builtin; go_must (refine wpList_append_T rfl (.tmp 32) (.tmp 37) 24 3 rfl Try.underlying24 info_int y.heap.size v1 _ (by first | rfl | simp [Act.eval]) HO.out d (by first | rfl | simp [Act.eval]) hdi hlen hbz ?_); intro v5 w5 ho5 hg5)
        have HO5 : Hid (OwnNt 3 y.heap.size w5 v5 (c :: preI (sgC A.nx cls (s : Int)) (k + 1))) := by
          unfold Hid; rw [HST.out, HD.out]; exact ho5
        have HS5 : Hid (Since y w5) := HS.out.grown hg5 (fun j hj => (HO.out.2.lt j hj).1)
        clear ho5 hg5
        go_roundw
        case rel => exact ⟨k + 1, v5, by omega, by go_num, rfl, HO5.out, HS5.out⟩
        case measure => simp [intOf]; omega
    · obtain rfl : k = 9 := by omega
      rw [HALL.out] at HO
      have HO2 : Hid (Own y.heap.size wr v1 (sigC A.nx cls s)) := HO.out
      have HF := Lib.hid (hs0.trans HS.out)
      go_wp2
      go_ret
      exact ⟨_, rfl, HO2.out.mono hyz, HF.out⟩
end Go.Proofs.Ytmaagihfjldgeaa

/- The model's classes: refining until nothing changes. -/
namespace Go.Proofs.Ytmaagihfjldgeaa
set_option maxRecDepth 100000
open Go.ChangeShapes Go.WideShapes Go.ChangeAt Go.RowKit Go.Maps
set_option linter.unusedVariables false
set_option linter.unusedSimpArgs false

/-- In the middle of a round: the keys found, the numbers given. -/
structure CkW (w : World) (CS : Array Value) (cv nv kv : Value) (cls nx : List Int) (xs : List (List Int)) (wr : World) : Prop where
  oc : Own (w.heap.size + 1) wr cv cls
  on : Own (w.heap.size + 1) wr nv nx
  ap : Apart cv nv
  ok : RowsO (w.heap.size + 1) wr kv xs [nv]
  b0 : Blk wr w.heap.size 39 CS
  sc : Since w wr
section
variable {w wr w' : World} {CS : Array Value} {cv nv kv : Value} {cls nx : List Int} {xs : List (List Int)}
theorem CkW.since (h : CkW w CS cv nv kv cls nx xs wr) (k : Since wr w') : CkW w CS cv nv kv cls nx xs w' := ⟨h.oc.since k, h.on.since k, h.ap, h.ok.since k, h.b0.since k, h.sc.trans k⟩
theorem CkW.lt (h : CkW w CS cv nv kv cls nx xs wr) : w.heap.size + 1 ≤ wr.heap.size := h.b0.lt
theorem CkW.next (h : CkW w CS cv nv kv cls nx xs wr) {nv' : Value} {nx' : List Int} (ho : Own (w.heap.size + 1) w' nv' nx') (k : wr.grownBy w' nv.ownBlock) (hn : NewB wr nv nv') : CkW w CS cv nv' kv cls nx' xs w' := by
  have hr : ∀ q, nv.ownBlock = some q → w.heap.size + 1 ≤ q := fun q e => (h.on.2.lt q e).1
  exact ⟨h.oc.grownX k h.ap, ho, h.ap.newB hn (own_ltX h.oc), h.ok.int k h.on (by simp) (fun u hu => by simp at hu; subst hu; exact .inr hn), blk_keep h.b0 k hr (by omega), h.sc.grown k (fun j hj => by have := hr j hj; omega)⟩
theorem CkW.push (h : CkW w CS cv nv kv cls nx xs wr) {p : Value} {x : List Int} (hp : Own (w.heap.size + 1) wr p x) (hok : RowsO (w.heap.size + 1) wr kv xs [p, nv]) (hap : Apart p nv) {kv' : Value}
    (ho : ∀ ps, ps.length = xs.length → wr.ownsRow (w.heap.size + 1) 24 1 kv xs.length ps → w'.ownsRow (w.heap.size + 1) 24 1 kv' (xs.length + 1) (ps ++ [p])) (k : wr.grownBy w' kv.ownBlock) : CkW w CS cv nv kv' cls nx (xs ++ [x]) w' := by
  have hr : ∀ q, kv.ownBlock = some q → w.heap.size + 1 ≤ q := fun q e => (hok.lt q e).1
  obtain ⟨ps0, p1, _⟩ := h.ok
  have ki : ∀ (v : Value) (l : List Int), Own (w.heap.size + 1) wr v l → Own (w.heap.size + 1) w' v l := fun v l hv => hv.grownX k (apart_types hv.2 p1 (by decide))
  exact ⟨ki _ _ h.oc, ki _ _ h.on, h.ap, hok.push (p := p) (by simp) hp ho k (fun u hu => by simp at hu; subst hu; exact ⟨by simp, hap⟩), blk_keep h.b0 k hr (by omega), h.sc.grown k (fun j hj => by have := hr j hj; omega)⟩
end
theorem RowsO.cell {base : Nat} {w : World} {no : Value} {xs : List (List Int)} {av : List Value} (h : RowsO base w no xs av) (i : Nat) (hi : i < xs.length) : ∃ g cap p, no = .slice (some ⟨g, 0, none⟩) xs.length cap ∧ g < w.heap.size ∧ w.cell? ⟨g, i, none⟩ = some p ∧ Own base w p xs[i] := by
  obtain ⟨ps, h1, h2, h3, _⟩ := h
  obtain ⟨g, cap, rfl, hg⟩ := own_block h1 (by omega)
  refine ⟨g, cap, ps[i]'(by omega), rfl, (h1.lt g rfl).2, ?_, h3 i (by omega) hi⟩
  rw [h1.cellAt i (by omega)]
  simp [h2, hi]
/-- The place of x among the first k keys; -1 where it is not there. -/
def atK (xs : List (List Int)) (x : List Int) (k : Nat) : Int := if x ∈ xs.take k then (posG xs x : Int) else -1
theorem atK_zero (xs : List (List Int)) (x : List Int) : atK xs x 0 = -1 := by simp [atK]
theorem take_step {α : Type} (xs : List α) (k : Nat) (h : k < xs.length) : xs.take (k + 1) = xs.take k ++ [xs[k]] := by rw [List.take_add_one, List.getElem?_eq_getElem h]; rfl
theorem atK_hit {xs : List (List Int)} (hd : xs.Nodup) (x : List Int) (k : Nat) (h : k < xs.length) (e : xs[k] = x) : atK xs x (k + 1) = (k : Int) := by
  unfold atK
  rw [take_step xs k h, if_pos (by simp [e]), ← e, posG_at xs hd k h]
theorem atK_miss (xs : List (List Int)) (x : List Int) (k : Nat) (h : k < xs.length) (e : xs[k] ≠ x) : atK xs x (k + 1) = atK xs x k := by
  unfold atK
  rw [take_step xs k h]
  have : (x ∈ xs.take k ++ [xs[k]]) ↔ x ∈ xs.take k := by
    rw [List.mem_append]
    constructor
    · rintro (h | h)
      · exact h
      · simp at h; exact absurd h.symm e
    · exact .inl
  by_cases hm : x ∈ xs.take k
  · rw [if_pos (this.2 hm), if_pos hm]
  · rw [if_neg (fun q => hm (this.1 q)), if_neg hm]
theorem atK_all (xs : List (List Int)) (x : List Int) : atK xs x xs.length = if x ∈ xs then (posG xs x : Int) else -1 := by unfold atK; rw [List.take_length]
theorem atK_rng (xs : List (List Int)) (x : List Int) (k : Nat) : -1 ≤ atK xs x k ∧ atK xs x k ≤ xs.length := by
  unfold atK
  split
  · rename_i h
    have := posG_lt xs x (List.mem_of_mem_take h)
    omega
  · omega
set_option maxHeartbeats 16000000 in
set_option maxRecDepth 100000 in
theorem specCls_any (v : Value) (A : Aut) (f : Nat → Bool) (w : World) (h : AutAt w v A) (hv : ValidA A) (hf : ∀ s, f s = true ↔ LiveP A s) :
    Calls Try.prog 100 #[v] w (OwnOut w (clsA A f)) := by
  have HLV : Hid (∀ W, Since w W → Calls Try.prog 109 #[v] W (BoOut W (boL f A.ac.length))) := fun W hW => specLive_any v A f W (h.since hW) hv hf
  have HKY : Hid (∀ u i s W, Since w W → IntsAt W u (itR A f i) → s < A.ac.length → Calls Try.prog 158 #[v, u, .int .i64 (s : Nat)] W (OwnOut W (sigC A.nx (itR A f i) s))) := fun u i s W hW hu hs => key_any v u A (itR A f i) s W (h.since hW) hv hu (itR_length A f i) hs
  have HRR : Hid (∀ i, ClsR A f (itR A f i)) := fun i => itR_R hv f i
  have HLN : Hid (∀ i, (itR A f i).length = A.ac.length) := itR_length A f
  have HST : Hid (∀ i, (∀ j, j ≤ i → refC A f (itR A f j) ≠ itR A f j) → i < A.ac.length) := fun i h => itR_stop A f i h
  have HCA : Hid (∀ i, i < A.ac.length + 1 → (∀ j, j < i → refC A f (itR A f j) ≠ itR A f j) → refC A f (itR A f i) = itR A f i → clsA A f = itR A f i) := fun i h1 h2 h3 => clsA_at A f i h1 h2 h3
  have HALL : Hid (∀ i, preI (cutN f (sigC A.nx (itR A f i))) A.ac.length = itR A f (i + 1)) := fun i => rfl
  have HINI : Hid (preI (iniG A f) A.ac.length = itR A f 0) := rfl
  obtain ⟨a, b, rfl, _, ha, hb⟩ := h
  obtain ⟨ao, ca, rfl, HC⟩ := ha
  obtain ⟨bo, cb, rfl⟩ := hb.len
  clear hb hf
  have hn12 := hv.1
  have hn0 : 0 < A.ac.length := by have := hv.2.2.1; omega
  have HCC : Hid (∀ s, s < A.ac.length → ∃ b off, ao = some ⟨b, off, none⟩ ∧ b < w.heap.size ∧ w.cell? ⟨b, off + s, none⟩ = some (.bool (at0 A.ac s))) := fun s hs => by
    rw [at0_get A.ac s hs]; exact HC.out s hs
  have HNEG : Hid (∀ i s, s < A.ac.length → (clC (itR A f i) (s : Int) < 0 ↔ f s = false)) := fun i s hs => (HRR.out i).neg s hs
  have HRNG : Hid (∀ i s, s < A.ac.length → -1 ≤ clC (itR A f i) (s : Int) ∧ clC (itR A f i) (s : Int) < 100000) := fun i s hs => (HRR.out i).rng s hs
  obtain ⟨n, hn⟩ : ∃ n, n = A.ac.length := ⟨_, rfl⟩
  obtain ⟨m, hmm⟩ : ∃ n, n = A.nx.length := ⟨_, rfl⟩
  rw [← hn, ← hmm] at HLV HKY ⊢
  rw [← hn] at HCC hn12 hn0 HLN HST HCA HALL HINI HNEG HRNG
  clear hn hmm HC hv HRR
  obtain ⟨CS, hCS⟩ : ∃ CS : Array Value, CS = #[.int .i64 A.st, .slice ao n ca, .slice bo m cb] := ⟨_, rfl⟩
  have HCS := Lib.hid hCS
  obtain ⟨y, hy⟩ : ∃ y, y = w.alloc (.cells #[.int .i64 A.st, .slice ao n ca, .slice bo m cb] 39) := ⟨_, rfl⟩
  have hs0 : Since w y := by rw [hy]; exact (Since.refl w).alloc _
  have hz : y.heap.size = w.heap.size + 1 := by rw [hy]; simp
  have B0 : Hid (Blk y w.heap.size 39 CS) := by rw [hy, hCS]; exact Blk.new rfl _ _
  have HY := Lib.hid hy
  have HZ := Lib.hid hz
  clear hy hz hCS
  have hbx := B0.out
  rw [HCS.out] at hbx
  obtain ⟨⟨p0, p1, p2⟩, _⟩ := hbx.threeA
  go_enter Try.func100, Try.ntmps100
  go_upto_region 1 with fail
  rw [← HY.out]
  go_wp2_with fail
  refine (HLV.out _ hs0).mono ?_
  rintro e w2 ⟨v2, rfl, ho2, hs2⟩
  obtain ⟨lg, lc, rfl, hlg⟩ := own_block (v := v2) ho2 (by rw [boL_length]; exact hn0)
  rw [boL_length]
  have HB2 : Hid (OwnBo y.heap.size w2 (.slice (some ⟨lg, 0, none⟩) n lc) (boL f n)) := by
    have h1 := ho2
    rw [boL_length] at h1
    exact h1
  have HO0 : Hid (OwnNt 3 (w.heap.size + 1) (w2.alloc (.cells #[] 3)) (.slice (some ⟨w2.heap.size, 0, none⟩) 0 0) (preI (iniG A f) 0)) := ⟨fun x hx => by simp [preI] at hx, World.ownsRow_lit w2 #[] 0 (by have := hs2.size; have := HZ.out; omega) (Nat.zero_le _) rfl⟩
  have hal : Since w2 (w2.alloc (.cells #[] 3)) := (Since.refl _).alloc _
  have HS0 : Hid (Since w2 (w2.alloc (.cells #[] 3))) := hal
  have HS2 := Lib.hid (hs0.trans hs2)
  have HBX := Lib.hid (B0.out.since hs2)
  have hlg2 : lg < w2.heap.size := (World.ownsRow.lt HB2.out lg rfl).2
  clear ho2 hbx p0 p1 p2 hal hs2
  go_upto_region 4 with fail
  go_loopw [4, 5] (fun q i wr => ∃ (k : Nat) (v1 : Value), k ≤ n ∧ i = .int .i64 k ∧ v1 = q ∧ Hid (OwnNt 3 w2.heap.size wr v1 (preI (iniG A f) k)) ∧ Hid (Since w2 wr)) (fun _ i _ => n - (intOf i).toNat)
  case atStart => exact ⟨0, _, Nat.zero_le _, rfl, rfl, ⟨fun x hx => by simp [preI] at hx, World.ownsRow_lit w2 #[] 0 (Nat.le_refl _) (Nat.zero_le _) rfl⟩, HS0.out⟩
  case round =>
    obtain ⟨k, v1, hk, rfl, rfl, HO, HS⟩ := hrel
    have hbx := HBX.out.since HS.out
    rw [HCS.out] at hbx
    obtain ⟨⟨p0, p1, p2⟩, _⟩ := hbx.threeA
    by_cases hlt : k < n
    · have hki : (k : Int) < (n : Int) := by omega
      have hk0 : (0 : Int) ≤ (k : Int) := by omega
      have cb1 := (HB2.out.cellB (by rw [boL_length]) k (by rw [boL_length]; exact hlt)).1
      rw [boL_at f n k hlt] at cb1
      have cb := (Below.cell HS.out (p := ⟨lg, k, none⟩) hlg2).trans cb1
      obtain ⟨b1, off1, rfl, hb1, ca1⟩ := HCC.out k hlt
      have ca := (Below.cell (HS2.out.trans HS.out) (p := ⟨b1, off1 + k, none⟩) hb1).trans ca1
      obtain ⟨x, hx⟩ : ∃ x, x = f k := ⟨_, rfl⟩
      obtain ⟨z, hz⟩ : ∃ z, z = at0 A.ac k := ⟨_, rfl⟩
      have HG : Hid (iniG A f k = if x = true then (if z = true then 1 else 0) else -1) := by unfold Hid iniG; rw [← hx, ← hz]
      rw [← hx] at cb
      rw [← hz] at ca
      have hlen : (preI (iniG A f) k).length ≤ 4194304 := by rw [preI_length]; omega
      have hbz := HS.out.size
      have HSTP := Lib.hid (preI_step (iniG A f) k)
      have hiA : InI (-1) := by unfold InI; omega
      have hiB : InI 0 := by unfold InI; omega
      have hiC : InI 1 := by unfold InI; omega
      clear hx hz ca1 cb1
      cases x with
      | false =>
        cases z with
        | false =>
          go_wp2_with (at_builtin; go_must (refine wpList_append_T rfl (.tmp 34) (.tmp 36) 24 3 rfl Try.underlying24 info_int w2.heap.size v1 _ (by first | rfl | simp [Act.eval]) HO.out (-1) (by first | rfl | simp [Act.eval]) hiA hlen hbz ?_); intro v5 w5 ho5 hg5)
          have HO5 : Hid (OwnNt 3 w2.heap.size w5 v5 (preI (iniG A f) (k + 1))) := by unfold Hid; rw [HSTP.out, HG.out]; exact ho5
          have HS5 : Hid (Since w2 w5) := HS.out.grown hg5 (fun j hj => (HO.out.2.lt j hj).1)
          clear ho5 hg5
          go_roundw
          case rel => exact ⟨k + 1, v5, by omega, by go_num, rfl, HO5.out, HS5.out⟩
          case measure => simp [intOf]; omega
        | true =>
          go_wp2_with (at_builtin; go_must (refine wpList_append_T rfl (.tmp 34) (.tmp 36) 24 3 rfl Try.underlying24 info_int w2.heap.size v1 _ (by first | rfl | simp [Act.eval]) HO.out (-1) (by first | rfl | simp [Act.eval]) hiA hlen hbz ?_); intro v5 w5 ho5 hg5)
          have HO5 : Hid (OwnNt 3 w2.heap.size w5 v5 (preI (iniG A f) (k + 1))) := by unfold Hid; rw [HSTP.out, HG.out]; exact ho5
          have HS5 : Hid (Since w2 w5) := HS.out.grown hg5 (fun j hj => (HO.out.2.lt j hj).1)
          clear ho5 hg5
          go_roundw
          case rel => exact ⟨k + 1, v5, by omega, by go_num, rfl, HO5.out, HS5.out⟩
          case measure => simp [intOf]; omega
      | true =>
        cases z with
        | false =>
          go_wp2_with (at_builtin; go_must (refine wpList_append_T rfl (.tmp 34) (.tmp 36) 24 3 rfl Try.underlying24 info_int w2.heap.size v1 _ (by first | rfl | simp [Act.eval]) HO.out 0 (by first | rfl | simp [Act.eval]) hiB hlen hbz ?_); intro v5 w5 ho5 hg5)
          have HO5 : Hid (OwnNt 3 w2.heap.size w5 v5 (preI (iniG A f) (k + 1))) := by unfold Hid; rw [HSTP.out, HG.out]; exact ho5
          have HS5 : Hid (Since w2 w5) := HS.out.grown hg5 (fun j hj => (HO.out.2.lt j hj).1)
          clear ho5 hg5
          go_roundw
          case rel => exact ⟨k + 1, v5, by omega, by go_num, rfl, HO5.out, HS5.out⟩
          case measure => simp [intOf]; omega
        | true =>
          go_wp2_with (at_builtin; go_must (refine wpList_append_T rfl (.tmp 34) (.tmp 36) 24 3 rfl Try.underlying24 info_int w2.heap.size v1 _ (by first | rfl | simp [Act.eval]) HO.out 1 (by first | rfl | simp [Act.eval]) hiC hlen hbz ?_); intro v5 w5 ho5 hg5)
          have HO5 : Hid (OwnNt 3 w2.heap.size w5 v5 (preI (iniG A f) (k + 1))) := by unfold Hid; rw [HSTP.out, HG.out]; exact ho5
          have HS5 : Hid (Since w2 w5) := HS.out.grown hg5 (fun j hj => (HO.out.2.lt j hj).1)
          clear ho5 hg5
          go_roundw
          case rel => exact ⟨k + 1, v5, by omega, by go_num, rfl, HO5.out, HS5.out⟩
          case measure => simp [intOf]; omega
    · obtain rfl : k = n := by omega
      rw [HINI.out] at HO
      have hw2 := HS2.out.size
      have hzz := HZ.out
      have HC0 : Hid (Own (w.heap.size + 1) wr v1 (itR A f 0)) := Own.mono (show Own w2.heap.size wr v1 (itR A f 0) from HO.out) (by have := HBX.out.lt; omega)
      have HBY := Lib.hid (HBX.out.since HS.out)
      have HSY := Lib.hid (HS2.out.trans HS.out)
      clear HO HS HBX HB2 HO0 HS0 HINI
      go_upto_region 13 with fail
      clear hbx p0 p1 p2
      go_loopw [4, 7] (fun q i wr => ∃ (r : Nat) (v1 : Value), i = .int .i64 r ∧ v1 = q ∧ Hid (∀ j, j < r → refC A f (itR A f j) ≠ itR A f j) ∧ Hid (Own (w.heap.size + 1) wr v1 (itR A f r)) ∧ Hid (Blk wr w.heap.size 39 CS) ∧ Hid (Since w wr)) (fun _ i _ => k + 1 - (intOf i).toNat)
      case atStart => exact ⟨0, _, rfl, rfl, fun j hj => by omega, HC0.out, HBY.out, HSY.out⟩
      case round =>
        clear HC0 HBY HSY
        obtain ⟨r, v1, rfl, rfl, HJ, HO, HB, HS⟩ := hrel
        have hrn : r ≤ k := by
          by_cases hr : r = 0
          · omega
          · have := HST.out (r - 1) (fun j hj => HJ.out j (by omega))
            omega
        have hri : (r : Int) ≤ (k : Int) := by omega
        obtain ⟨cg, cc, rfl, hcg⟩ := own_block HO.out.2 (by rw [HLN.out]; exact hn0)
        rw [HLN.out] at HO ⊢
        have hbx := HB.out
        rw [HCS.out] at hbx
        obtain ⟨⟨p0, p1, p2⟩, _⟩ := hbx.threeA
        obtain ⟨sg, hsg⟩ : ∃ sg, sg = sigC A.nx (itR A f r) := ⟨_, rfl⟩
        have HSG := Lib.hid hsg
        have HALr : Hid (preI (cutN f sg) k = itR A f (r + 1)) := by rw [hsg]; exact HALL.out r
        clear hsg
        have HK0 : Hid (CkW w CS (.slice (some ⟨cg, 0, none⟩) k cc) (.slice (some ⟨wr.heap.size + 1, 0, none⟩) 0 0) (.slice (some ⟨wr.heap.size, 0, none⟩) 0 0) (itR A f r) (preI (cutN f sg) 0) ((cutF f sg 0).map sg) ((wr.alloc (.cells #[] 24)).alloc (.cells #[] 3))) := by
          have s1 : Since wr (wr.alloc (.cells #[] 24)) := (Since.refl _).alloc _
          have s2 : Since (wr.alloc (.cells #[] 24)) ((wr.alloc (.cells #[] 24)).alloc (.cells #[] 3)) := (Since.refl _).alloc _
          have hb := HB.out.lt
          have hcl : cg < wr.heap.size := (HO.out.2.lt cg rfl).2
          have hz1 : (wr.alloc (.cells #[] 24)).heap.size = wr.heap.size + 1 := by simp
          have o1 : (wr.alloc (.cells #[] 24)).ownsRow (w.heap.size + 1) 24 1 (.slice (some ⟨wr.heap.size, 0, none⟩) 0 0) 0 [] := World.ownsRow_lit wr #[] 0 (by omega) (Nat.zero_le _) rfl
          have o2 : ((wr.alloc (.cells #[] 24)).alloc (.cells #[] 3)).ownsRow (w.heap.size + 1) 3 1 (.slice (some ⟨wr.heap.size + 1, 0, none⟩) 0 0) 0 [] := by
            have := World.ownsRow_lit (e := 3) (size := 1) (base := w.heap.size + 1) (wr.alloc (.cells #[] 24)) #[] 0 (by omega) (Nat.zero_le _) rfl
            rw [hz1] at this; exact this
          refine ⟨(HO.out.since s1).since s2, ⟨fun x hx => by simp [preI] at hx, o2⟩, .inr (by simp [Value.ownBlock]; omega), ⟨[], row_since o1 s2, rfl, fun i h => by simp at h, fun i j h => by simp at h, fun i h => by simp at h⟩, (HB.out.since s1).since s2, (HS.out.trans s1).trans s2⟩
        clear hbx
        go_upto_region 18 with fail
        clear p0 p1 p2
        go_loopw [8, 9, 10] (fun kq nq i wz => ∃ (s : Nat) (kv nv : Value), s ≤ k ∧ i = .int .i64 s ∧ kv = kq ∧ nv = nq ∧ Hid (CkW w CS (.slice (some ⟨cg, 0, none⟩) k cc) nv kv (itR A f r) (preI (cutN f sg) s) ((cutF f sg s).map sg) wz)) (fun _ _ i _ => k - (intOf i).toNat)
        case atStart => exact ⟨0, _, _, Nat.zero_le _, rfl, rfl, rfl, HK0.out⟩
        case round =>
          clear HK0 HO HB HS
          obtain ⟨s, kv, nv, hs, rfl, rfl, rfl, HX⟩ := hrel
          have hbx := HX.out.b0
          rw [HCS.out] at hbx
          obtain ⟨⟨p0, p1, p2⟩, _⟩ := hbx.threeA
          by_cases hst : s < k
          · have hsi : (s : Int) < (k : Int) := by omega
            have hs0i : (0 : Int) ≤ (s : Int) := by omega
            have ce := (HX.out.oc.cellI (by rw [HLN.out]) s (by rw [HLN.out]; exact hst)).1
            rw [← clC_at (itR A f r) s (by rw [HLN.out]; exact hst)] at ce
            have HNGs := Lib.hid (HNEG.out r s hst)
            have hrg := HRNG.out r s hst
            obtain ⟨c, hc⟩ : ∃ c, c = clC (itR A f r) (s : Int) := ⟨_, rfl⟩
            rw [← hc] at ce HNGs hrg
            have HSTP := Lib.hid (preI_step (cutN f sg) s)
            have hlen : (preI (cutN f sg) s).length ≤ 4000000 := by rw [preI_length]; omega
            have hbz := HX.out.lt
            clear hc hbx
            cases hl : f s with
            | false =>
              have hcn : c < 0 := HNGs.out.2 hl
              have HF : Hid (cutF f sg (s + 1) = cutF f sg s) := cutF_dead hl
              have HN : Hid (cutN f sg s = -1) := cutN_dead hl
              have HON := Lib.hid HX.out.on
              have hiA : InI (-1) := by unfold InI; omega
              clear hl hrg
              go_wp2_with (at_builtin; go_must (refine wpList_append_at rfl (.tmp 59) (.tmp 60) rfl (w.heap.size + 1) nv _ (by first | rfl | simp [Act.eval]) HON.out (-1) (by first | rfl | simp [Act.eval]) hiA hlen hbz ?_); intro v5 w5 ho5 hg5 hn5)
              have HX5 : Hid (CkW w CS (.slice (some ⟨cg, 0, none⟩) k cc) v5 kv (itR A f r) (preI (cutN f sg) (s + 1)) ((cutF f sg (s + 1)).map sg) w5) := by
                unfold Hid
                rw [HF.out, HSTP.out, HN.out]
                exact HX.out.next ho5 hg5 hn5
              clear ho5 hg5 hn5
              go_roundw
              case rel => exact ⟨s + 1, _, v5, by omega, by go_num, rfl, rfl, HX5.out⟩
              case measure => simp [intOf]; omega
            | true =>
              have hcn : ¬ c < 0 := fun e => by
                have h1 : f s = false := HNGs.out.1 e
                rw [hl] at h1; cases h1
              have HL : Hid (f s = true) := hl
              clear hl hrg HNGs
              go_wp2_with fail
              refine (HKY.out _ r s _ HX.out.sc HX.out.oc.at hst).mono ?_
              rintro e w3 ⟨xv, rfl, ho3, hs3⟩
              rw [← HSG.out] at ho3
              obtain ⟨x, hx⟩ : ∃ x, x = sg s := ⟨_, rfl⟩
              rw [← hx] at ho3
              have hxl : x.length = 10 := by rw [hx, HSG.out]; exact sigC_length _ _ _
              obtain ⟨xo, xc, rfl⟩ := ho3.len
              rw [hxl] at ho3 ⊢
              have HXS := Lib.hid hx
              have HOX := Lib.hid (ho3.mono hbz)
              have hfresh : ∀ g, (Value.slice xo 10 xc).ownBlock = some g → wr.heap.size ≤ g := fun g e => (ho3.2.lt g e).1
              have HAPX : Hid (Apart (.slice xo 10 xc) nv) := by
                cases e : (Value.slice xo 10 xc).ownBlock with
                | none => exact .inl e
                | some q =>
                  refine .inr fun e2 => ?_
                  rw [e] at e2
                  have h1 := hfresh q e
                  have h2 := (HX.out.on.2.lt q e2.symm).2
                  omega
              have HRW := Lib.hid ((HX.out.ok.add hfresh).since hs3)
              have HX3 := Lib.hid (HX.out.since hs3)
              have HDN : Hid (((cutF f sg s).map sg).Nodup) := cutF_nodup f sg s
              obtain ⟨xs, hxs⟩ : ∃ xs, xs = (cutF f sg s).map sg := ⟨_, rfl⟩
              have HXL : Hid (xs.length = (cutF f sg s).length) := by unfold Hid; rw [hxs, List.length_map]
              have hxk : xs.length ≤ 1000 := by have := cutF_len f sg s; rw [HXL.out]; omega
              rw [← hxs] at HRW HX3 HDN
              have HXX := Lib.hid hxs
              obtain ⟨ko, kc, rfl⟩ := HX3.out.ok.len
              clear ho3 hs3 hx hxs HX hfresh p0 p1 p2 ce hbz
              have hat0 := atK_zero xs x
              go_upto_region 25 with fail
              go_loopw [12, 13] (fun aq i wk => ∃ (j : Nat), j ≤ xs.length ∧ i = .int .i64 j ∧ aq = .int .i64 (atK xs x j) ∧ Hid (Since w3 wk)) (fun _ i _ => xs.length - (intOf i).toNat)
              case atStart => exact ⟨0, Nat.zero_le _, rfl, by rw [hat0], Since.refl _⟩
              case round =>
                obtain ⟨j, hj, rfl, rfl, HS4⟩ := hrel
                obtain ⟨av, hav⟩ : ∃ av, av = atK xs x j := ⟨_, rfl⟩
                have HAV := Lib.hid hav
                rw [← hav]
                clear hat0 hav
                by_cases hjt : j < xs.length
                · have hji : (j : Int) < (xs.length : Int) := by omega
                  have hj0 : (0 : Int) ≤ (j : Int) := by omega
                  obtain ⟨g5, c5, p, e5, hg5, hcp, hop⟩ := (HX3.out.ok.since HS4.out).cell j hjt
                  injection e5 with e5 e6 e7
                  subst e5 e7
                  clear e6
                  have HOP := Lib.hid hop
                  obtain ⟨x2, hx2⟩ : ∃ x2, x2 = xs[j] := ⟨_, rfl⟩
                  rw [← hx2] at HOP
                  have HX2 : Hid (∃ h : j < xs.length, xs[j] = x2) := ⟨hjt, hx2.symm⟩
                  have HL2 : Hid (x2.length ≤ 4611686018427387904) := by
                    have hm : x2 ∈ xs := by rw [hx2]; exact List.getElem_mem hjt
                    rw [HXX.out] at hm
                    obtain ⟨t, _, e⟩ := List.mem_map.1 hm
                    unfold Hid
                    rw [← e, HSG.out, sigC_length]; omega
                  clear hop hx2
                  obtain ⟨pp, hpp⟩ : ∃ q : Value, q = p := ⟨_, rfl⟩
                  subst hpp
                  go_wp2_with fail
                  refine (l2Cmp_any _ _ x2 x _ HOP.out.at (HOX.out.since HS4.out).at HL2.out (by rw [hxl]; omega)).mono ?_
                  rintro e w6 ⟨rfl, hs6⟩
                  have HS6 := Lib.hid (HS4.out.trans hs6)
                  obtain ⟨d, hd⟩ : ∃ d, d = lexC x2 x := ⟨_, rfl⟩
                  rw [← hd]
                  by_cases he : x2 = x
                  · have hd0 : d = 0 := by rw [hd, he]; exact lexC_self x
                    subst hd0
                    have HA : Hid (atK xs x (j + 1) = (j : Int)) := by
                      obtain ⟨h1, h2⟩ := HX2.out
                      exact atK_hit HDN.out x j h1 (by rw [h2]; exact he)
                    clear hd he
                    go_wp2
                    go_roundw
                    case rel => exact ⟨j + 1, by omega, by go_num, by rw [HA.out], HS6.out⟩
                    case measure => simp [intOf]; omega
                  · have hd0 : (d == 0) = false := by
                      simp only [beq_eq_false_iff_ne]
                      intro e; rw [hd] at e; exact he (lexC_zero e)
                    have HA : Hid (atK xs x (j + 1) = av) := by
                      obtain ⟨h1, h2⟩ := HX2.out
                      rw [HAV.out]
                      exact atK_miss xs x j h1 (by rw [h2]; exact he)
                    clear hd he
                    go_wp2
                    go_roundw
                    case rel => exact ⟨j + 1, by omega, by go_num, by rw [HA.out], HS6.out⟩
                    case measure => simp [intOf]; omega
                · obtain rfl : j = xs.length := by omega
                  have HAW : Hid (av = if x ∈ xs then (posG xs x : Int) else -1) := by rw [HAV.out]; exact atK_all xs x
                  have HX4 := Lib.hid (HX3.out.since HS4.out)
                  have HRW4 := Lib.hid (HRW.out.since HS4.out)
                  have HOX4 := Lib.hid (HOX.out.since HS4.out)
                  have hbz := HX4.out.lt
                  clear HX3 HRW HOX HAV HS4
                  by_cases hmem : x ∈ xs
                  · have HF : Hid (cutF f sg (s + 1) = cutF f sg s) := cutF_old HL.out (by rw [← HXX.out, ← HXS.out]; exact hmem)
                    have hav : av = (posG xs x : Int) := by rw [HAW.out, if_pos hmem]
                    have HN : Hid (cutN f sg s = av) := by
                      have := cutN_old (f := sg) HL.out (by rw [← HXX.out, ← HXS.out]; exact hmem)
                      rw [← HXX.out, ← HXS.out] at this
                      rw [hav]; exact this
                    have hp := posG_lt xs x hmem
                    have hneg : ¬ av < 0 := by omega
                    have hiA : InI av := by unfold InI; omega
                    have HON := Lib.hid HX4.out.on
                    clear hav hmem hp HAW
                    go_wp2_with (at_builtin; go_must (refine wpList_append_at rfl (.tmp 88) (.tmp 90) rfl (w.heap.size + 1) nv _ (by first | rfl | simp [Act.eval]) HON.out av (by first | rfl | simp [Act.eval]) hiA hlen hbz ?_); intro v5 w5 ho5 hg5 hn5)
                    have HX5 : Hid (CkW w CS (.slice (some ⟨cg, 0, none⟩) k cc) v5 (.slice ko xs.length kc) (itR A f r) (preI (cutN f sg) (s + 1)) ((cutF f sg (s + 1)).map sg) w5) := by
                      unfold Hid
                      rw [HF.out, HSTP.out, HN.out, ← HXX.out]
                      exact HX4.out.next ho5 hg5 hn5
                    clear ho5 hg5 hn5
                    go_roundw
                    case rel => exact ⟨s + 1, _, v5, by omega, by go_num, rfl, rfl, HX5.out⟩
                    case measure => simp [intOf]; omega
                  · have HF : Hid (cutF f sg (s + 1) = cutF f sg s ++ [s]) := cutF_new HL.out (by rw [← HXX.out, ← HXS.out]; exact hmem)
                    have hav : av = -1 := by rw [HAW.out, if_neg hmem]
                    subst hav
                    have HN : Hid (cutN f sg s = (xs.length : Int)) := by
                      rw [HXL.out]
                      exact cutN_new (f := sg) HL.out (by rw [← HXX.out, ← HXS.out]; exact hmem)
                    have hneg : (-1 : Int) < 0 := by decide
                    have hxl9 : xs.length ≤ 4000000 := by omega
                    have hiA : InI (xs.length : Int) := by unfold InI; omega
                    clear hmem HAW
                    go_upto_region 32 with (at_builtin; go_must (refine wpList_append_rowv rfl (.tmp 84) (.tmp 86) rfl (w.heap.size + 1) (.slice ko xs.length kc) xs _ (by first | rfl | simp [Act.eval]) HRW4.out (.slice xo 10 xc) (by first | rfl | simp [Act.eval]) rfl hxl9 hbz ?_); intro v6 w6 ho6 hg6; obtain ⟨v6o, v6n, v6c, rfl⟩ := rowv_shape HRW4.out ho6)
                    have HX6 := Lib.hid (HX4.out.push HOX4.out HRW4.out HAPX.out ho6 hg6)
                    have hbz6 := HX6.out.lt
                    have HON := Lib.hid HX6.out.on
                    clear ho6 hg6 HX4 HRW4 HOX4
                    go_wp2_with (at_builtin; go_must (refine wpList_append_at rfl (.tmp 88) (.tmp 90) rfl (w.heap.size + 1) nv _ (by first | rfl | simp [Act.eval]) HON.out (xs.length : Int) (by first | rfl | simp [Act.eval]) hiA hlen hbz6 ?_); intro v5 w5 ho5 hg5 hn5)
                    have HX5 : Hid (CkW w CS (.slice (some ⟨cg, 0, none⟩) k cc) v5 (.slice v6o v6n v6c) (itR A f r) (preI (cutN f sg) (s + 1)) ((cutF f sg (s + 1)).map sg) w5) := by
                      unfold Hid
                      rw [HF.out, HSTP.out, HN.out, List.map_append, List.map_cons, List.map_nil, ← HXX.out, ← HXS.out]
                      exact HX6.out.next ho5 hg5 hn5
                    clear ho5 hg5 hn5
                    go_roundw
                    case rel => exact ⟨s + 1, _, v5, by omega, by go_num, rfl, rfl, HX5.out⟩
                    case measure => simp [intOf]; omega
          · obtain rfl : s = k := by omega
            rw [HALr.out] at HX
            clear hbx
            obtain ⟨no, nc, rfl⟩ := HX.out.on.len
            rw [HLN.out] at HX ⊢
            go_wp2_with fail
            refine (l2Cmp_any _ _ (itR A f (r + 1)) (itR A f r) _ HX.out.on.at HX.out.oc.at (by rw [HLN.out]; omega) (by rw [HLN.out]; omega)).mono ?_
            rintro e w6 ⟨rfl, hs6⟩
            have HX6 := Lib.hid (HX.out.since hs6)
            obtain ⟨d, hd⟩ : ∃ d, d = lexC (itR A f (r + 1)) (itR A f r) := ⟨_, rfl⟩
            rw [← hd]
            clear p0 p1 p2 hs6
            by_cases he : itR A f (r + 1) = itR A f r
            · have hd0 : d = 0 := by rw [hd, he]; exact lexC_self _
              subst hd0
              have HE : Hid (clsA A f = itR A f r) := HCA.out r (by omega) HJ.out he
              have HOC := Lib.hid HX6.out.oc
              have HSC := Lib.hid HX6.out.sc
              clear hd he
              go_wp2
              go_ret
              rw [HE.out]
              exact ⟨_, rfl, HOC.out.mono (Nat.le_succ _), HSC.out⟩
            · have hd0 : (d == 0) = false := by
                simp only [beq_eq_false_iff_ne]
                intro e; rw [hd] at e; exact he (lexC_zero e)
              have HNE : Hid (refC A f (itR A f r) ≠ itR A f r) := he
              have HON := Lib.hid HX6.out.on
              have HBX := Lib.hid HX6.out.b0
              have HSC := Lib.hid HX6.out.sc
              clear hd he
              go_wp2
              go_roundw
              case rel => exact ⟨r + 1, _, by go_num, rfl, (fun j hj => by
                by_cases e : j = r
                · subst e; exact HNE.out
                · exact HJ.out j (by omega)), HON.out, HBX.out, HSC.out⟩
              case measure => simp [intOf]; omega
end Go.Proofs.Ytmaagihfjldgeaa

/- Minimize, the program's and the model's. -/
namespace Go.Proofs.Ytmaagihfjldgeaa
set_option maxRecDepth 100000
open Go.ChangeShapes Go.WideShapes Go.ChangeAt Go.RowKit Go.Maps
set_option linter.unusedVariables false
set_option linter.unusedSimpArgs false

/-- What minimizing leaves. -/
def minN (A : Aut) (f : Nat → Bool) : Aut := nmR A f (clsA A f)
def minA (A : Aut) (f : Nat → Bool) : Aut := if validA A = true then minN A f else ⟨0, [], []⟩
theorem minA_no {A : Aut} {f : Nat → Bool} (h : validA A = false) : minA A f = ⟨0, [], []⟩ := by unfold minA; rw [if_neg (by rw [h]; decide)]
theorem minA_yes {A : Aut} {f : Nat → Bool} (h : validA A = true) : minA A f = minN A f := by unfold minA; rw [if_pos h]
theorem minN_trim {A : Aut} {f : Nat → Bool} (hv : ValidA A) (hf : ∀ s, f s = true ↔ LiveP A s) (hc : trimC (mrgA A (clsA A f)) f = true) : trimN (mrgA A (clsA A f)) f = minN A f := by
  have H := clsA_H A f
  have hM := mrg_valid hv (clsA_length A f)
  have hfM := H.liveM hv hf
  have h1 := nmR_trim hM hfM hc
  have h2 : (mrgA A (clsA A f)).ac.length = A.ac.length := rfl
  rw [h2, nmR_mrg hv H] at h1
  exact h1.symm
theorem minC_yes {A : Aut} {f : Nat → Bool} (hv : ValidA A) (h12 : A.ac.length ≤ 12) : trimC (mrgA A (clsA A f)) f = true :=
  trimC_yes (mrg_valid hv (clsA_length A f)) h12 f
theorem minA_bg (A : Aut) (f : Nat → Bool) (hf : ∀ s, f s = true ↔ LiveP A s) : BgA (minA A f) := by
  cases h : validA A with
  | false => rw [minA_no h]; unfold BgA; simp [totS]
  | true =>
    have hv := (validA_iff A).1 h
    have h12 := (validA_iff A).2 h
    have hM := mrg_valid hv (clsA_length A f)
    rw [minA_yes h, ← minN_trim hv hf (minC_yes hv h12), ← trimA_yes (validA_true (A := mrgA A (clsA A f)) h12 hM)]
    exact trimA_bg _ _
set_option maxHeartbeats 8000000 in
set_option maxRecDepth 100000 in
theorem minimized_any (v : Value) (A : Aut) (f : Nat → Bool) (w : World) (h : AutAt w v A) (hv : ValidA A) (hf : ∀ s, f s = true ↔ LiveP A s) :
    Calls Try.prog 183 #[v] w (ABOut w (trimN (mrgA A (clsA A f)) f) (trimC (mrgA A (clsA A f)) f)) := by
  have HMG : Hid (∀ W, Since w W → Calls Try.prog 198 #[v] W (AOut W (mrgA A (clsA A f)))) := fun W hW => merged_any v A f W (h.since hW) hv hf
  have HTR : Hid (∀ u W, AutAt W u (mrgA A (clsA A f)) → Calls Try.prog 172 #[u] W (ABOut W (trimN (mrgA A (clsA A f)) f) (trimC (mrgA A (clsA A f)) f))) := fun u W hu =>
    trimmed_any u _ f W hu (mrg_valid hv (clsA_length A f)) ((clsA_H A f).liveM hv hf)
  obtain ⟨a, b, rfl, _, ha, hb⟩ := h
  obtain ⟨ao, ca, rfl⟩ := ha.len
  obtain ⟨bo, cb, rfl⟩ := hb.len
  clear ha hb hf
  obtain ⟨n, hn⟩ : ∃ n, n = A.ac.length := ⟨_, rfl⟩
  obtain ⟨m, hmm⟩ : ∃ n, n = A.nx.length := ⟨_, rfl⟩
  rw [← hn, ← hmm] at HMG ⊢
  clear hn hmm hv
  obtain ⟨M, hM⟩ : ∃ M, M = mrgA A (clsA A f) := ⟨_, rfl⟩
  rw [← hM] at HMG HTR ⊢
  obtain ⟨R, hR⟩ : ∃ R, R = trimN M f := ⟨_, rfl⟩
  obtain ⟨C, hC⟩ : ∃ C, C = trimC M f := ⟨_, rfl⟩
  rw [← hR, ← hC] at HTR ⊢
  clear hR hC hM
  obtain ⟨y, hy⟩ : ∃ y, y = (w.alloc (.cells #[.int .i64 A.st, .slice ao n ca, .slice bo m cb] 39)).alloc (.cells #[.int .i64 0, .slice none 0 0, .slice none 0 0] 39) := ⟨_, rfl⟩
  have hs0 : Since w y := by rw [hy]; exact ((Since.refl w).alloc _).alloc _
  have hz : y.heap.size = w.heap.size + 1 + 1 := by rw [hy]; simp
  have B0 : Hid (Blk y w.heap.size 39 #[.int .i64 A.st, .slice ao n ca, .slice bo m cb]) := by rw [hy]; exact (Blk.new rfl _ _).alloc _
  have B1 : Hid (Blk y (w.heap.size + 1) 39 #[.int .i64 0, .slice none 0 0, .slice none 0 0]) := by rw [hy]; exact Blk.new (by simp) _ _
  have HY := Lib.hid hy
  have HZ := Lib.hid hz
  have HSW := Lib.hid hs0
  clear hy hz
  go_enter Try.func183, Try.ntmps183
  go_upto_region 1 with fail
  rw [← HY.out]
  obtain ⟨⟨p0, p1, p2⟩, _⟩ := B0.out.threeA
  go_wp2_with fail
  refine (HMG.out _ hs0).mono ?_
  rintro e w2 ⟨v2, rfl, ho2, hs2⟩
  have HA2 := Lib.hid ho2.at
  obtain ⟨r2a, r2b, rfl, i2, o2, n2, q2⟩ := ho2
  obtain ⟨mo, mc, rfl⟩ := o2.len
  obtain ⟨no, nc, rfl⟩ := q2.len
  clear i2 o2 n2 q2 p0 p1 p2
  go_wp2_with fail
  refine (HTR.out _ _ HA2.out).mono ?_
  rintro e w4 ⟨v4, rfl, ho4, hs4⟩
  obtain ⟨r4a, r4b, rfl, i4, o4, n4, q4⟩ := ho4
  obtain ⟨so, sc, rfl⟩ := o4.len
  obtain ⟨uo, uc, rfl⟩ := q4.len
  have HO4 : Hid (OwnA _ _ _ _ _) := ⟨_, _, rfl, i4, o4, n4, q4⟩
  have hw4 := hs4.size
  have hw2 := hs2.size
  have hwz := HZ.out
  have HS4 := Lib.hid (hs0.trans (hs2.trans hs4))
  obtain ⟨⟨r0, r1, r2⟩, r3, r4, r5⟩ := (B1.out.since (hs2.trans hs4)).threeA
  clear i4 o4 n4 q4 hs2 hs4 HA2
  go_wp2
  refine bodyPost_ret (v := .tuple #[.agg #[.int .i64 R.st, .slice so R.ac.length sc, .slice uo R.nx.length uc], .bool C]) (by simp [results, Try.results183, go_sem, *]) rfl ?_
  refine ⟨_, rfl, ?_, ?_⟩
  · refine OwnA.wider (lo := w2.heap.size) (hi := w4.heap.size) ?_ (by omega) (by simp)
    iterate 3 (with_reducible refine OwnA.far1 ?_ (.inl (by omega)) _ _)
    exact HO4.out
  · iterate 3 (with_reducible refine Since.setCell ?_ (by simp <;> omega) _)
    exact HS4.out
set_option maxHeartbeats 8000000 in
set_option maxRecDepth 100000 in
theorem specMz_any (v : Value) (A : Aut) (f : Nat → Bool) (w : World) (h : AutAt w v A) (hv : ValidA A) (hf : ∀ s, f s = true ↔ LiveP A s) :
    Calls Try.prog 168 #[v] w (AOut w (minN A f)) := by
  have HCL : Hid (∀ W, Since w W → Calls Try.prog 100 #[v] W (OwnOut W (clsA A f))) := fun W hW => specCls_any v A f W (h.since hW) hv hf
  have HLV : Hid (∀ W, Since w W → Calls Try.prog 109 #[v] W (BoOut W (boL f A.ac.length))) := fun W hW => specLive_any v A f W (h.since hW) hv hf
  have HNM : Hid (∀ U L W, Since w W → IntsAt W U (clsA A f) → BosAt W L (boL f A.ac.length) → Calls Try.prog 180 #[v, U, L] W (AOut W (minN A f))) := fun U L W hW hu hl =>
    specNum_any v U L A (clsA A f) f W (h.since hW) hv hu (clsA_length A f) (fun i hi hfi => by
      have hin : i < A.ac.length := by rw [clsA_length] at hi; exact hi
      have h1 := clsA_range A f i hin
      have h2 := clsA_live A f i hin
      rw [hfi] at h2
      rw [clC_at _ i hi] at h1 h2
      simp at h2
      omega) hl
  obtain ⟨a, b, rfl, _, ha, hb⟩ := h
  obtain ⟨ao, ca, rfl⟩ := ha.len
  obtain ⟨bo, cb, rfl⟩ := hb.len
  have hnb : (boL f A.ac.length).length = A.ac.length := boL_length _ _
  have hnc : (clsA A f).length = A.ac.length := clsA_length A f
  clear ha hb hf hv
  obtain ⟨n, hn⟩ : ∃ n, n = A.ac.length := ⟨_, rfl⟩
  obtain ⟨m, hmm⟩ : ∃ n, n = A.nx.length := ⟨_, rfl⟩
  rw [← hn, ← hmm] at HCL HLV HNM ⊢
  rw [← hn] at hnb hnc
  clear hn hmm
  obtain ⟨R, hR⟩ : ∃ R, R = minN A f := ⟨_, rfl⟩
  rw [← hR] at HNM ⊢
  have HNB := Lib.hid hnb
  have HNC := Lib.hid hnc
  clear hR hnb hnc
  obtain ⟨y, hy⟩ : ∃ y, y = (w.alloc (.cells #[.int .i64 A.st, .slice ao n ca, .slice bo m cb] 39)).alloc (.cells #[.int .i64 0, .slice none 0 0, .slice none 0 0] 39) := ⟨_, rfl⟩
  have hs0 : Since w y := by rw [hy]; exact ((Since.refl w).alloc _).alloc _
  have hz : y.heap.size = w.heap.size + 1 + 1 := by rw [hy]; simp
  have B0 : Hid (Blk y w.heap.size 39 #[.int .i64 A.st, .slice ao n ca, .slice bo m cb]) := by rw [hy]; exact (Blk.new rfl _ _).alloc _
  have B1 : Hid (Blk y (w.heap.size + 1) 39 #[.int .i64 0, .slice none 0 0, .slice none 0 0]) := by rw [hy]; exact Blk.new (by simp) _ _
  have HY := Lib.hid hy
  have HZ := Lib.hid hz
  have HSW := Lib.hid hs0
  have HKC : Hid (∀ w', Since y w' → w'.cell? ⟨w.heap.size, 0, none⟩ = some (.int .i64 A.st) ∧ w'.cell? ⟨w.heap.size, 1, none⟩ = some (.slice ao n ca) ∧ w'.cell? ⟨w.heap.size, 2, none⟩ = some (.slice bo m cb)) := by
    intro w' hs
    obtain ⟨⟨r0, r1, r2⟩, _⟩ := (B0.out.since hs).threeA
    exact ⟨r0, r1, r2⟩
  clear hy hz hs0
  go_enter Try.func168, Try.ntmps168
  go_upto_region 1 with fail
  rw [← HY.out]
  go_wp2_with fail
  refine wp_region_held_drew (S := (fun w' => w'.cell? ⟨w.heap.size, 0, none⟩ = some (.int .i64 A.st) ∧ w'.cell? ⟨w.heap.size, 1, none⟩ = some (.slice ao n ca) ∧ w'.cell? ⟨w.heap.size, 2, none⟩ = some (.slice bo m cb))) (by kernel_rfl) (HKC.out _ (Since.refl _).drew) (fun hHeld => ?_)
  refine take_yes 0 (some 3) (v := ?_) rfl (by kernel_rfl) (by kernel_rfl) (by kernel_rfl) (by kernel_rfl) (fun _ _ _ h => h) (by rfl) (by assumption) ?_ ?_
  rotate_left
  · (intro w' hSw; (try dsimp only at hSw); go_simp; try with_reducible rfl)
  try simp only [Act.put, List.setIfInBounds_toArray, List.set_cons_zero, List.set_cons_succ]
  refine take_yes 1 (some 4) (v := ?_) rfl (by kernel_rfl) (by kernel_rfl) (by kernel_rfl) (by kernel_rfl) (fun _ _ _ h => h) (by rfl) (by assumption) ?_ ?_
  rotate_left
  · (intro w' hSw; (try dsimp only at hSw); go_simp; try with_reducible rfl)
  try simp only [Act.put, List.setIfInBounds_toArray, List.set_cons_zero, List.set_cons_succ]
  refine take_yes 3 (some 6) (v := ?_) rfl (by kernel_rfl) (by kernel_rfl) (by kernel_rfl) (by kernel_rfl) (fun _ _ _ h => h) (by rfl) (by assumption) ?_ ?_
  rotate_left
  · (intro w' hSw; (try dsimp only at hSw); go_simp; try with_reducible rfl)
  try simp only [Act.put, List.setIfInBounds_toArray, List.set_cons_zero, List.set_cons_succ]
  refine take_run 2 rfl (by kernel_rfl) (by rfl) (fun K hK => ?_)
  go_simp
  refine (HCL.out _ (HSW.out.trans (Since.refl _).drew)).mono ?_
  rintro e w2 ⟨v2, rfl, ho2, hs2⟩
  have hc2 := Since.of_drew hs2
  have HL2 := Lib.hid ho2.at
  clear ho2
  refine hK.out _ _ (HKC.out _ hc2) (fun hHeld2 => ?_)
  clear hK K hHeld
  try simp only [Act.put, List.setIfInBounds_toArray, List.set_cons_zero, List.set_cons_succ]
  refine take_run 4 rfl (by kernel_rfl) (by rfl) (fun K hK => ?_)
  go_simp
  refine (HLV.out _ (HSW.out.trans hc2)).mono ?_
  rintro e w3 ⟨v3, rfl, ho3, hs3⟩
  have hc3 := hc2.trans hs3
  have HM3 := Lib.hid ho3.at
  have HL3 := Lib.hid (HL2.out.since hs3)
  clear ho3
  refine hK.out _ _ (HKC.out _ hc3) (fun hHeld3 => ?_)
  clear hK K hHeld2
  try simp only [Act.put, List.setIfInBounds_toArray, List.set_cons_zero, List.set_cons_succ]
  refine take_run 5 rfl (by kernel_rfl) (by rfl) (fun K hK => ?_)
  go_simp
  refine (HNM.out _ _ _ (HSW.out.trans hc3) HL3.out HM3.out).mono ?_
  rintro e w4 ⟨v4, rfl, ho4, hs4⟩
  have hc4 := hc3.trans hs4
  obtain ⟨r4a, r4b, rfl, i4, o4, n4, q4⟩ := ho4
  obtain ⟨so, sc, rfl⟩ := o4.len
  obtain ⟨uo, uc, rfl⟩ := q4.len
  have HO4 : Hid (OwnA _ _ _ _ _) := ⟨_, _, rfl, i4, o4, n4, q4⟩
  have hw4 := hs4.size
  have hw3 := hc3.size
  have hwz := HZ.out
  refine hK.out _ _ (HKC.out _ hc4) (fun hHeld4 => ?_)
  clear hK K hHeld3 i4 o4 n4 q4
  try simp only [Act.put, List.setIfInBounds_toArray, List.set_cons_zero, List.set_cons_succ]
  refine take_run 6 rfl (by kernel_rfl) (by rfl) (fun K hK => ?_)
  obtain ⟨⟨r0, r1, r2⟩, r3, r4, r5⟩ := (B1.out.since hc4).threeA
  go_simp
  clear r0 r1 r2 r3 r4 r5
  obtain ⟨w5, hw5⟩ : ∃ w5, w5 = ((w4.setCell ⟨w.heap.size + 1, 0, none⟩ (.int .i64 R.st)).setCell ⟨w.heap.size + 1, 1, none⟩ (.slice so R.ac.length sc)).setCell ⟨w.heap.size + 1, 2, none⟩ (.slice uo R.nx.length uc) := ⟨_, rfl⟩
  have hS5 : Since w w5 := by
    rw [hw5]
    iterate 3 (with_reducible refine Since.setCell ?_ (by simp) _)
    exact HSW.out.trans hc4
  have hO5 : OwnA w3.heap.size w4.heap.size w5 (.agg #[.int .i64 R.st, .slice so R.ac.length sc, .slice uo R.nx.length uc]) R := by
    rw [hw5]
    iterate 3 (with_reducible refine OwnA.far1 ?_ (.inl (by omega)) _ _)
    exact HO4.out
  have hB5 : Blk w5 (w.heap.size + 1) 39 #[.int .i64 R.st, .slice so R.ac.length sc, .slice uo R.nx.length uc] := by
    rw [hw5]
    exact (((B1.out.since hc4).set 0 _).set 1 _).set 2 _
  have hC5 : Blk w5 w.heap.size 39 #[.int .i64 A.st, .slice ao n ca, .slice bo m cb] := by
    rw [hw5]
    exact (((B0.out.since hc4).far (by simp) _).far (by simp) _).far (by simp) _
  have hz5 : w5.heap.size = w4.heap.size := by rw [hw5]; simp
  rw [← hw5]
  refine hK.out _ _ hC5.threeA.1 (fun hHeldz => ?_)
  clear hK K hHeld4 hw5 HO4
  try simp only [Act.put, List.setIfInBounds_toArray, List.set_cons_zero, List.set_cons_succ]
  refine wpAnyH_done (by kernel_rfl) ?_ _
  clear hHeldz
  obtain ⟨⟨r0, r1, r2⟩, _⟩ := hB5.threeA
  go_wp2
  refine bodyPost_ret (v := .agg #[.int .i64 R.st, .slice so R.ac.length sc, .slice uo R.nx.length uc]) (by simp [results, Try.results168, go_sem, *]) rfl ?_
  exact ⟨_, rfl, hO5.wider (by omega) (by omega), hS5⟩
set_option maxHeartbeats 8000000 in
set_option maxRecDepth 100000 in
theorem specMZ_any (v : Value) (A : Aut) (f : Nat → Bool) (w : World) (h : AutAt w v A) (hm : MxA A) (hf : ∀ s, f s = true ↔ LiveP A s) :
    Calls Try.prog 161 #[v] w (AOut w (minA A f)) := by
  have HVA : Hid (∀ W, Since w W → Calls Try.prog 34 #[v] W fun e w' => e = .returned (.bool (validA A)) ∧ Since W w') := fun W hW => specVA_any v A W (h.since hW) hm
  have HTR : Hid (∀ W, Since w W → ValidA A → Calls Try.prog 168 #[v] W (AOut W (minN A f))) := fun W hW hv => specMz_any v A f W (h.since hW) hv hf
  obtain ⟨a, b, rfl, _, ha, hb⟩ := h
  obtain ⟨ao, ca, rfl⟩ := ha.len
  obtain ⟨bo, cb, rfl⟩ := hb.len
  clear ha hb hm hf
  obtain ⟨n, hn⟩ : ∃ n, n = A.ac.length := ⟨_, rfl⟩
  obtain ⟨m, hmm⟩ : ∃ n, n = A.nx.length := ⟨_, rfl⟩
  rw [← hn, ← hmm] at HVA HTR ⊢
  clear hn hmm
  obtain ⟨y, hy⟩ : ∃ y, y = (w.alloc (.cells #[.int .i64 A.st, .slice ao n ca, .slice bo m cb] 39)).alloc (.cells #[.int .i64 0, .slice none 0 0, .slice none 0 0] 39) := ⟨_, rfl⟩
  have hs0 : Since w y := by rw [hy]; exact ((Since.refl w).alloc _).alloc _
  have hz : y.heap.size = w.heap.size + 1 + 1 := by rw [hy]; simp
  have B0 : Hid (Blk y w.heap.size 39 #[.int .i64 A.st, .slice ao n ca, .slice bo m cb]) := by rw [hy]; exact (Blk.new rfl _ _).alloc _
  have B1 : Hid (Blk y (w.heap.size + 1) 39 #[.int .i64 0, .slice none 0 0, .slice none 0 0]) := by rw [hy]; exact Blk.new (by simp) _ _
  have HY := Lib.hid hy
  have HZ := Lib.hid hz
  clear hy hz
  cases e : validA A with
  | false =>
    have HB := Lib.hid e
    have HF := Lib.hid (minA_no (f := f) e)
    clear e
    go_enter Try.func161, Try.ntmps161
    go_upto_region 1 with fail
    rw [← HY.out]
    obtain ⟨⟨p0, p1, p2⟩, _⟩ := B0.out.threeA
    go_wp2_with fail
    refine (HVA.out _ hs0).mono ?_
    rintro e w1 ⟨rfl, hs1⟩
    rw [HB.out]
    have HS1 := Lib.hid (hs0.trans hs1)
    obtain ⟨⟨r0, r1, r2⟩, r3, r4, r5⟩ := (B1.out.since hs1).threeA
    clear p0 p1 p2
    go_wp2
    refine bodyPost_ret (v := .agg #[.int .i64 0, nilS, nilS]) (by simp [results, Try.results161, go_sem, *]) rfl ?_
    rw [HF.out]
    refine ⟨_, rfl, ownA_zero _ _ _, ?_⟩
    repeat' (first | exact HS1.out | with_reducible refine Since.setCell ?_ (by simp <;> omega) _)
  | true =>
    have HB := Lib.hid e
    have HV : Hid (ValidA A) := (validA_iff A).1 e
    have HF := Lib.hid (minA_yes (f := f) e)
    obtain ⟨R, hR⟩ : ∃ R, R = minN A f := ⟨_, rfl⟩
    rw [← hR] at HF
    rw [← hR] at HTR
    rw [HF.out]
    clear e hR HF
    go_enter Try.func161, Try.ntmps161
    go_upto_region 1 with fail
    rw [← HY.out]
    obtain ⟨⟨p0, p1, p2⟩, _⟩ := B0.out.threeA
    go_wp2_with fail
    refine (HVA.out _ hs0).mono ?_
    rintro e w1 ⟨rfl, hs01⟩
    rw [HB.out]
    have HS1 := Lib.hid (hs0.trans hs01)
    have C0 := Lib.hid (B0.out.since hs01)
    have C1 := Lib.hid (B1.out.since hs01)
    have hz1 : w.heap.size + 2 ≤ w1.heap.size := by have := hs01.size; have := HZ.out; omega
    clear p0 p1 p2 B0 B1 HVA hs0 hs01
    obtain ⟨⟨p0, p1, p2⟩, _⟩ := C0.out.threeA
    go_wp2_with fail
    refine (HTR.out _ HS1.out HV.out).mono ?_
    rintro e w2 ⟨v2, rfl, ho2, hs2⟩
    obtain ⟨r2a, r2b, rfl, i2, o2, n2, q2⟩ := ho2
    obtain ⟨so, sc, rfl⟩ := o2.len
    obtain ⟨uo, uc, rfl⟩ := q2.len
    have HO2 : Hid (OwnA _ _ _ _ _) := ⟨_, _, rfl, i2, o2, n2, q2⟩
    have hw2 := hs2.size
    have HS2 := Lib.hid (HS1.out.trans hs2)
    have C2 := Lib.hid (C1.out.since hs2)
    clear p0 p1 p2 i2 o2 n2 q2 hs2
    obtain ⟨⟨r0, r1, r2⟩, r3, r4, r5⟩ := C2.out.threeA
    go_wp2
    refine bodyPost_ret (v := .agg #[.int .i64 R.st, .slice so R.ac.length sc, .slice uo R.nx.length uc]) (by simp [results, Try.results161, go_sem, *]) rfl ?_
    refine ⟨_, rfl, ?_, ?_⟩
    · refine OwnA.wider (lo := w1.heap.size) (hi := w2.heap.size) ?_ (by omega) (by simp)
      iterate 3 (with_reducible refine OwnA.far1 ?_ (.inl (by omega)) _ _)
      exact HO2.out
    · iterate 3 (with_reducible refine Since.setCell ?_ (by simp <;> omega) _)
      exact HS2.out
end Go.Proofs.Ytmaagihfjldgeaa

/- Determinizing: the model looks at the limit behind each row, the machine at each state: they refuse alike; as plain data. -/
namespace Go.Proofs.Ytmaagihfjldgeaa
set_option maxRecDepth 100000
set_option linter.unusedVariables false
set_option linter.unusedSimpArgs false

theorem map_idK (l : List Int) : l.map (fun x : Int => x) = l := by
  induction l with
  | nil => rfl
  | cons x l ih => simp
theorem addK_id (fs : List Int) (o : Option Int) : addK (fun x => x) fs o = match o with
    | none => fs
    | some x => if x ∈ fs then fs else fs ++ [x] := by
  cases o with
  | none => rfl
  | some x => unfold addK; simp only; rw [map_idK]
theorem rowK_len (step : Int → Nat → Option Int) (key : Int → Int) (s : Int) : ∀ m rs, (rowK step key s m rs).length ≤ rs.length + m
  | 0, rs => by simp [rowK]
  | m + 1, rs => by
    unfold rowK
    have h1 := rowK_len step key s m (addK key rs (step s (8 - m)))
    have h2 : (addK key rs (step s (8 - m))).length ≤ rs.length + 1 := by
      unfold addK
      split
      · omega
      · split
        · omega
        · simp
    omega
theorem rowN_K (step : Int → Nat → Option Int) (lim : Nat) (s : Int) : ∀ m fs, fs.length ≤ lim → rowN step lim s m fs = if (rowK step (fun x => x) s m fs).length ≤ lim then some (rowK step (fun x => x) s m fs) else none
  | 0, fs, hl => by simp [rowN, rowK, hl]
  | m + 1, fs, hl => by
    unfold rowN rowK
    rw [addK_id]
    cases e : step s (8 - m) with
    | none =>
      simp only [addN, Option.bind_some]
      exact rowN_K step lim s m fs hl
    | some x =>
      simp only [addN]
      by_cases hx : x ∈ fs
      · rw [if_pos hx, if_pos hx, Option.bind_some]
        exact rowN_K step lim s m fs hl
      · rw [if_neg hx, if_neg hx]
        by_cases hf : fs.length = lim
        · rw [if_pos hf, Option.bind_none]
          obtain ⟨t, ht⟩ := rowK_pre step (fun x => x) s m (fs ++ [x])
          rw [if_neg (by rw [ht]; simp; omega)]
        · rw [if_neg hf, Option.bind_some]
          exact rowN_K step lim s m (fs ++ [x]) (by simp; omega)
/-- What the row of a state leads to is found. -/
theorem rowK_has (step : Int → Nat → Option Int) (s : Int) : ∀ m, m ≤ 9 → ∀ fs k x, 9 - m ≤ k → k < 9 → step s k = some x → x ∈ rowK step (fun x => x) s m fs
  | 0, _, fs, k, x, h1, h2, _ => by omega
  | m + 1, hm, fs, k, x, h1, h2, h3 => by
    unfold rowK
    by_cases e : k = 8 - m
    · subst e
      obtain ⟨t, ht⟩ := rowK_pre step (fun x => x) s m (addK (fun x => x) fs (step s (8 - m)))
      rw [ht]
      refine List.mem_append_left _ ?_
      rw [addK_id, h3]
      simp only
      split
      · assumption
      · simp
    · exact rowK_has step s m (by omega) _ k x (by omega) h2 h3
theorem rowK_FsI {step : Int → Nat → Option Int} {Q : Int → Prop} (hQ : ∀ s k x, k < 9 → Q s → step s k = some x → Q x) {s : Int} (hs : Q s) : ∀ m, m ≤ 9 → ∀ fs, FsI Q fs → FsI Q (rowK step (fun x => x) s m fs)
  | 0, _, fs, h => h
  | m + 1, hm, fs, h => by
    unfold rowK
    refine rowK_FsI hQ hs m (by omega) _ ?_
    rw [addK_id]
    cases e : step s (8 - m) with
    | none => exact h
    | some x =>
      simp only
      by_cases hx : x ∈ fs
      · rw [if_pos hx]; exact h
      · rw [if_neg hx]; exact h.snoc hx (hQ s (8 - m) x (by omega) hs e)
/-- Rows that are closed stay as they are while more states are found. -/
theorem rowsK_keep {step : Int → Nat → Option Int} {p : Nat} {rs t : List Int} (hp : p ≤ rs.length) (hc : ∀ i (h : i < rs.length), i < p → ∀ k x, k < 9 → step rs[i] k = some x → x ∈ rs) : (rs.take p).map (rowOfK step (fun x => x) rs) = ((rs ++ t).take p).map (rowOfK step (fun x => x) (rs ++ t)) := by
  rw [List.take_append_of_le_length hp]
  refine List.map_congr_left fun s hs => ?_
  obtain ⟨i, hi, rfl⟩ := List.getElem_of_mem hs
  rw [List.length_take] at hi
  have hi2 : i < rs.length := by omega
  rw [List.getElem_take]
  unfold rowOfK
  refine List.map_congr_left fun k hk => ?_
  have hk9 := List.mem_range.1 hk
  unfold rowAtK
  cases e : step rs[i] k with
  | none => rfl
  | some x =>
    have hx := hc i hi2 (by omega) k x hk9 e
    simp only
    rw [map_idK, map_idK, posN_app rs t x hx]
theorem take_snocG {α : Type} (l : List α) (p : Nat) (h : p < l.length) : l.take (p + 1) = l.take p ++ [l[p]] := by rw [List.take_add_one, List.getElem?_eq_getElem h]; rfl
end Go.Proofs.Ytmaagihfjldgeaa

/- Trimming refuses just where the minimal automaton has more than twelve states. Plain data. -/
namespace Go.Proofs.Ytmaagihfjldgeaa
set_option maxRecDepth 100000
set_option linter.unusedVariables false
set_option linter.unusedSimpArgs false

theorem runN_none {step : Int → Nat → Option Int} {lim : Nat} : ∀ (m p : Nat) (fs : List Int), fs.length ≤ lim → runN step lim m p fs = none → ∀ M, m ≤ M → lim < (runK step (fun x => x) M p fs).length
  | 0, p, fs, hl, h, M, hM => by cases h
  | m + 1, p, fs, hl, h, M, hM => by
    obtain ⟨M', rfl⟩ : ∃ M', M = M' + 1 := ⟨M - 1, by omega⟩
    unfold runK
    unfold runN at h
    cases e : fs[p]? with
    | none => rw [e] at h; cases h
    | some s =>
      rw [e] at h
      simp only at h ⊢
      rw [rowN_K step lim s 9 fs hl] at h
      by_cases hr : (rowK step (fun x => x) s 9 fs).length ≤ lim
      · rw [if_pos hr, Option.bind_some] at h
        exact runN_none m (p + 1) _ hr h M' (by omega)
      · obtain ⟨t, ht⟩ := runK_pre step (fun x => x) M' (p + 1) (rowK step (fun x => x) s 9 fs)
        rw [ht, List.length_append]
        omega
theorem runN_short {step : Int → Nat → Option Int} {lim : Nat} : ∀ (m p : Nat) (fs gs : List Int), fs.length ≤ lim → runN step lim m p fs = some gs → gs.length ≤ lim
  | 0, p, fs, gs, hl, h => by injection h with h; subst h; exact hl
  | m + 1, p, fs, gs, hl, h => by
    unfold runN at h
    cases e : fs[p]? with
    | none => rw [e] at h; injection h with h; subst h; exact hl
    | some s =>
      rw [e] at h
      simp only at h
      rw [rowN_K step lim s 9 fs hl] at h
      by_cases hr : (rowK step (fun x => x) s 9 fs).length ≤ lim
      · rw [if_pos hr, Option.bind_some] at h
        exact runN_short m (p + 1) _ gs hr h
      · rw [if_neg hr] at h; cases h
/-- Whether trimming refuses: by the number of states that are found. -/
theorem trimC_len {A : Aut} (hv : ValidA A) (f : Nat → Bool) : trimC A f = decide ((runK (stepF A f) (fun x => x) 1001 0 [A.st]).length ≤ 12) := by
  unfold trimC
  cases e : numN (stepF A f) 12 A.st with
  | none =>
    have := runN_none 13 0 [A.st] (by simp) e 1001 (by omega)
    symm
    exact decide_eq_false (by omega)
  | some F =>
    have h1 := numK_isF (key := fun x => x) (Q := InA A) (fun x _ => rfl) (fun s k x hk hs hx => stepF_in hv f s k x hk hs hx) (inA_st hv) e
    rw [h1]
    symm
    exact decide_eq_true (runN_short 13 0 [A.st] F (by simp) e)
theorem runK_id {A : Aut} (hv : ValidA A) (f : Nat → Bool) (m : Nat) : runK (stepF A f) (clsK (idL A.ac.length)) m 0 [A.st] = runK (stepF A f) (fun x => x) m 0 [A.st] := by
  have h := (runK_sim (Q := InA A) (stepA := stepF A f) (stepM := stepF A f) (keyA := clsK (idL A.ac.length)) (keyM := fun x => x) (h := fun x => x) (fun s k x hk hs hx => stepF_in hv f s k x hk hs hx) (fun s k hk hs => by cases stepF A f s k <;> rfl) (fun x y hx hy => by rw [clsK_id x hx, clsK_id y hy]) m 0 [A.st] (fun x hx => by simp at hx; subst hx; exact inA_st hv)).1
  rw [map_idK, map_idK] at h
  exact h.symm
/-- Minimizing refuses just where the minimal automaton has more than twelve states. -/
theorem trimC_min {A : Aut} (hv : ValidA A) {f : Nat → Bool} (hf : ∀ s, f s = true ↔ LiveP A s) : trimC (mrgA A (clsA A f)) f = decide ((minN A f).ac.length ≤ 12) := by
  have H := clsA_H A f
  have hM := mrg_valid hv (clsA_length A f)
  have hfM := H.liveM hv hf
  have hn : (mrgA A (clsA A f)).ac.length = A.ac.length := rfl
  have hm := nmR_mrg hv H
  unfold minN
  rw [← hm]
  rw [trimC_len hM f]
  have e := runK_id hM f 1001
  rw [hn] at e
  unfold nmR
  cases hs : f (mrgA A (clsA A f)).st.toNat with
  | true =>
    simp only [if_true]
    unfold nmA nmF autK
    rw [e]
    simp
  | false =>
    simp only [Bool.false_eq_true, if_false]
    have hst := inA_st hM
    have hno : ∀ k, k < 9 → stepF (mrgA A (clsA A f)) f (mrgA A (clsA A f)).st k = none := by
      intro k hk
      cases es : stepF (mrgA A (clsA A f)) f (mrgA A (clsA A f)).st k with
      | none => rfl
      | some x =>
        obtain ⟨h1, h2, h3⟩ := stepF_some es
        have hx := stepF_in hM f _ k x hk hst es
        have ht : tgt (mrgA A (clsA A f)) (mrgA A (clsA A f)).st.toNat k = some x.toNat := by
          refine tgt_some (by have := hst.1; have := hst.2; omega) ?_ (by have := hx.1; have := hx.2; omega)
          rw [Int.toNat_of_nonneg hst.1, Int.toNat_of_nonneg h1]; exact h2
        have hl := (hfM _).2 (LeastP.step (by have := hst.1; have := hst.2; omega) hk (liveR_of ht) ((hfM _).1 h3))
        rw [hs] at hl
        cases hl
    have hrow : ∀ m, m ≤ 9 → ∀ rs, rowK (stepF (mrgA A (clsA A f)) f) (fun x => x) (mrgA A (clsA A f)).st m rs = rs := by
      intro m
      induction m with
      | zero => intro _ rs; rfl
      | succ m ih =>
        intro hm9 rs
        unfold rowK
        rw [hno (8 - m) (by omega)]
        exact ih (by omega) _
    have hrun : runK (stepF (mrgA A (clsA A f)) f) (fun x => x) 1001 0 [(mrgA A (clsA A f)).st] = [(mrgA A (clsA A f)).st] := by
      unfold runK
      simp only [List.getElem?_cons_zero]
      rw [hrow 9 (Nat.le_refl _)]
      unfold runK
      rfl
    rw [hrun]
    rfl
end Go.Proofs.Ytmaagihfjldgeaa

/- The four operations on two automata: the minimal automaton of the pairs that are found. Plain data. -/
namespace Go.Proofs.Ytmaagihfjldgeaa
set_option maxRecDepth 100000
set_option linter.unusedVariables false
set_option linter.unusedSimpArgs false

/-- Whether there is an answer, and the answer. -/
def cmbOk (op : Bool → Bool → Bool) (A B : Aut) (f : Nat → Bool) : Bool := msOk A B && decide ((minN (pairA op A B) f).ac.length ≤ 12)
def cmbA (op : Bool → Bool → Bool) (A B : Aut) (f : Nat → Bool) : Aut := if cmbOk op A B f = true then minN (pairA op A B) f else ⟨0, [], []⟩
theorem pairA_v {op : Bool → Bool → Bool} {A B : Aut} (h : msOk A B = true) : ValidA (pairA op A B) := by
  obtain ⟨h1, h2, h3, h4⟩ := msOk_in h
  exact pairA_valid op h1 h2 h3 h4
theorem cmbOk_no {op : Bool → Bool → Bool} {A B : Aut} {f : Nat → Bool} (h : msOk A B = false) : cmbOk op A B f = false := by unfold cmbOk; rw [h, Bool.false_and]
theorem cmbA_no {op : Bool → Bool → Bool} {A B : Aut} {f : Nat → Bool} (h : cmbOk op A B f = false) : cmbA op A B f = ⟨0, [], []⟩ := by unfold cmbA; rw [if_neg (by rw [h]; decide)]
theorem cmbA_yes {op : Bool → Bool → Bool} {A B : Aut} {f : Nat → Bool} (h : cmbOk op A B f = true) : cmbA op A B f = minN (pairA op A B) f := by unfold cmbA; rw [if_pos h]
theorem cmb_trim {op : Bool → Bool → Bool} {A B : Aut} {f : Nat → Bool} (h : msOk A B = true) (hf : ∀ s, f s = true ↔ LiveP (pairA op A B) s) :
    trimC (mrgA (pairA op A B) (clsA (pairA op A B) f)) f = cmbOk op A B f ∧ trimN (mrgA (pairA op A B) (clsA (pairA op A B) f)) f = cmbA op A B f := by
  have hv : ValidA (pairA op A B) := pairA_v h
  have h1 := trimC_min hv hf
  have e1 : cmbOk op A B f = trimC (mrgA (pairA op A B) (clsA (pairA op A B) f)) f := by rw [h1]; unfold cmbOk; rw [h, Bool.true_and]
  refine ⟨e1.symm, ?_⟩
  cases e : cmbOk op A B f with
  | true =>
    rw [cmbA_yes e]
    exact minN_trim hv hf (by rw [← e1]; exact e)
  | false =>
    rw [cmbA_no e]
    rw [e1] at e
    unfold trimC at e
    unfold trimN
    cases e2 : numN (stepF (mrgA (pairA op A B) (clsA (pairA op A B) f)) f) 12 (mrgA (pairA op A B) (clsA (pairA op A B) f)).st with
    | none => rfl
    | some fs => rw [e2] at e; cases e
theorem trimN_bg {A : Aut} (hv : ValidA A) (f : Nat → Bool) : BgA (trimN A f) := by
  unfold trimN autR BgA
  cases e : numN (stepF A f) 12 A.st with
  | none => simp [totS]
  | some fs =>
    obtain ⟨_, _, _, h4⟩ := numN_some (Q := InA A) (fun s k x hk hs hx => stepF_in hv f s k x hk hs hx) (by decide) (inA_st hv) e
    simp only [autN, List.length_map, totS_rows]
    omega
theorem cmbA_bg {op : Bool → Bool → Bool} {A B : Aut} {f : Nat → Bool} (hf : ∀ s, f s = true ↔ LiveP (pairA op A B) s) : BgA (cmbA op A B f) := by
  cases h : msOk A B with
  | false => rw [cmbA_no (cmbOk_no h)]; unfold BgA; simp [totS]
  | true =>
    rw [← (cmb_trim h hf).2]
    exact trimN_bg (mrg_valid (pairA_v h) (clsA_length _ f)) f
/-- The automaton of all words. -/
def allA : Aut := ⟨0, [true], [List.replicate 9 0]⟩
theorem all_valid : ValidA allA := by
  refine ⟨by simp [allA], by simp [allA], by simp [allA], fun r hr => ?_⟩
  have hr : r ∈ [List.replicate 9 (0 : Int)] := hr
  rw [List.mem_singleton] at hr
  subst hr
  refine ⟨by simp, fun z hz => ?_⟩
  have := List.eq_of_mem_replicate hz
  subst this
  simp [allA]
theorem all_validA : validA allA = true := validA_true (by simp [allA]) all_valid
theorem all_mx : MxA allA := by
  refine ⟨by simp [allA, maxLen], by simp [allA, maxLen], fun i h => ?_⟩
  have h0 : i = 0 := by simp [allA] at h; omega
  subst h0
  simp [allA, maxLen]
theorem nothing_mx : MxA nothingA := by
  refine ⟨by simp [nothingA, maxLen], by simp [nothingA, maxLen], fun i h => ?_⟩
  have h0 : i = 0 := by simp [nothingA] at h; omega
  subst h0
  simp [nothingA, maxLen]
end Go.Proofs.Ytmaagihfjldgeaa
