/- merged, the program's. -/
import Derived.Test.YtmaagihfjldgeaaMgF
import Derived.Test.YtmaagihfjldgeaaClS
import Derived.Test.YtmaagihfjldgeaaA3
import Derived.Test.YtmaagihfjldgeaaMnM
import Derived.Test.YtmaagihfjldgeaaCopyI
import Derived.Test.YtmaagihfjldgeaaK1
namespace Go.Proofs.Ytmaagihfjldgeaa
set_option maxRecDepth 100000
open Go.ChangeShapes Go.WideShapes Go.ChangeAt Go.RowKit Go.Maps
set_option linter.unusedVariables false
set_option linter.unusedSimpArgs false

theorem apart_blk {base size n : Nat} {e t : TypeId} {w : World} {v : Value} {xs : List Value} {ga : Nat} {cs : Array Value} (h : w.ownsRow base e size v n xs) (hx : Blk w ga t cs) (hne : e ≠ t) : v.ownBlock ≠ some ga := fun e2 => by
  obtain ⟨cs2, fz, hq⟩ := own_block_of h ga e2
  rw [show w.heap[ga]? = _ from hx] at hq
  injection hq with hq
  injection hq with _ hq _
  exact hne hq.symm
/-- An automaton has been made, its rows are missing: its blocks. -/
structure MrgB (W1 wx : World) (bv : Value) (gi ga n : Nat) (F : Int) (ac : List Bool) : Prop where
  lo : W1.heap.size ≤ gi ∧ W1.heap.size ≤ ga
  ne : gi ≠ ga
  ob : OwnBo W1.heap.size wx bv ac
  ro : wx.ownsRow W1.heap.size 24 1 (.slice (some ⟨gi, 0, none⟩) n n) n (List.replicate n nilS)
  bx : Blk wx ga 39 #[.int .i64 F, bv, .slice (some ⟨gi, 0, none⟩) n n]
  sc : Since W1 wx
def MrgA0 (W1 wx : World) (p : Value) (F : Int) (ac : List Bool) (n : Nat) : Prop := ∃ bvo bvc gi ga, p = .pointer (some ⟨ga, 0, none⟩) ∧ MrgB W1 wx (.slice bvo n bvc) gi ga n F ac
theorem MrgA0.sin {W1 wx : World} {p : Value} {F : Int} {ac : List Bool} {n : Nat} (h : MrgA0 W1 wx p F ac n) : Since W1 wx := by
  obtain ⟨_, _, _, _, _, h⟩ := h; exact h.sc
theorem mrgA0_set {W1 W : World} {bvo : Option Addr} {bvc gi ga n : Nat} {F : Int} {ac : List Bool} {z0 z1 z2 : Value} (hb : OwnBo W1.heap.size W (.slice bvo n bvc) ac) (hr : W.ownsRow W1.heap.size 24 1 (.slice (some ⟨gi, 0, none⟩) n n) n (List.replicate n nilS))
    (hx : Blk W ga 39 #[z0, z1, z2]) (hc : Since W1 W) (hgi : W1.heap.size ≤ gi) (hga : W1.heap.size ≤ ga) (hne : gi ≠ ga) :
    MrgA0 W1 (((W.setCell ⟨ga, 0, none⟩ (.int .i64 F)).setCell ⟨ga, 1, none⟩ (.slice bvo n bvc)).setCell ⟨ga, 2, none⟩ (.slice (some ⟨gi, 0, none⟩) n n)) (.pointer (some ⟨ga, 0, none⟩)) F ac n := by
  have k1 : ∀ (w : World) i u, w.ownsRow W1.heap.size 24 1 (.slice (some ⟨gi, 0, none⟩) n n) n (List.replicate n nilS) → (w.setCell ⟨ga, i, none⟩ u).ownsRow W1.heap.size 24 1 (.slice (some ⟨gi, 0, none⟩) n n) n (List.replicate n nilS) :=
    fun w i u h => h.kept (grown_setC w ga i u) (.inr (by simp [Value.ownBlock]; omega))
  have hba := apart_blk hb hx (by decide)
  have k2 : ∀ (w : World) i u, OwnBo W1.heap.size w (.slice bvo n bvc) ac → OwnBo W1.heap.size (w.setCell ⟨ga, i, none⟩ u) (.slice bvo n bvc) ac :=
    fun w i u h => World.ownsRow.kept h (grown_setC w ga i u) (.inr hba)
  exact ⟨bvo, bvc, gi, ga, rfl, ⟨hgi, hga⟩, hne, k2 _ _ _ (k2 _ _ _ (k2 _ _ _ hb)), k1 _ _ _ (k1 _ _ _ (k1 _ _ _ hr)), ((hx.set 0 _).set 1 _).set 2 _, ((hc.setCell hga _).setCell hga _).setCell hga _⟩
theorem FillM.rowAt {lo g n : Nat} {wr : World} {dn : Nat → Prop} {xs : List (List Int)} (h : FillM lo g wr n dn xs) {k : Nat} (hk : k < n) (hx : k < xs.length) (hd : dn k) (hl : xs[k].length = 9) : ∃ q c, wr.cell? ⟨g, k, none⟩ = some (.slice (some ⟨q, 0, none⟩) 9 c) ∧ q < wr.heap.size ∧ lo ≤ g ∧ g + 1 ≤ q ∧ (∃ cs fz, wr.heap[q]? = some (.cells cs 3 fz)) ∧
    (∀ j (hj : j < 9), wr.cell? ⟨q, j, none⟩ = some (.int .i64 (xs[k][j]'(by omega))) ∧ wr.frozen? ⟨q, j, none⟩ = false) ∧ ∀ w2 j x, Since wr w2 → j < 9 → InI x → FillM lo g (w2.setCell ⟨q, j, none⟩ (.int .i64 x)) n dn (xs.set k (xs[k].set j x)) := by
  obtain ⟨ps, h1, h2, h3, h4⟩ := h
  have hkp : k < ps.length := by omega
  have hok : Own (g + 1) wr ps[k] xs[k] := (h3 k hkp hx).elim id (fun ⟨a, _⟩ => absurd hd a)
  obtain ⟨q, c, e, hq⟩ := own_block hok.2 (by omega)
  rw [hl] at e
  have hok2 := hok
  rw [e] at hok2
  obtain ⟨cs, fz, hqt⟩ := own_block_of hok2.2 q rfl
  refine ⟨q, c, ?_, heap_lt hqt, (h2.lt g rfl).1, hq, ⟨cs, fz, hqt⟩, fun j hj => ?_, fun w2 j x hs hj hxi => ?_⟩
  · rw [h2.cellAt k (by omega)]
    simp [h1, hk, ← e]
  · exact hok2.cellI hl.symm j (by omega)
  · refine ⟨ps, h1, ?_, fun i hi hix => ?_, h4⟩
    · refine (row_since h2 hs).kept (grown_setC w2 q j _) (.inr ?_)
      simp [Value.ownBlock]; omega
    · by_cases ei : k = i
      · subst ei
        left
        rw [List.getElem_set_self, e]
        have h5 := (hok2.since hs).setI hl.symm j x hxi
        exact h5
      · rw [List.getElem_set_ne ei]
        rcases h3 i hi (by simpa using hix) with h6 | h6
        · left
          refine (h6.since hs).grownX (grown_setC w2 q j _) ?_
          have := h4 i k hi hkp (fun z => ei z.symm)
          rw [e] at this
          exact this
        · exact .inr h6
/-- In the middle of merging: k rows are there. -/
structure MgW (Y : World) (bv : Value) (gi ga n : Nat) (F : Int) (ac : List Bool) (k : Nat) (xs : List (List Int)) (wr : World) : Prop where
  lo : Y.heap.size ≤ gi ∧ Y.heap.size ≤ ga
  ne : gi ≠ ga
  ob : OwnBo Y.heap.size wr bv ac
  rw : FillM Y.heap.size gi wr n (fun i => i < k) xs
  bx : Blk wr ga 39 #[.int .i64 F, bv, .slice (some ⟨gi, 0, none⟩) n n]
  sc : Since Y wr
section
variable {Y wr w2 : World} {bv : Value} {gi ga n : Nat} {F : Int} {ac : List Bool} {k : Nat} {xs : List (List Int)}
theorem MgW.gil (h : MgW Y bv gi ga n F ac k xs wr) : gi < wr.heap.size ∧ ∃ cs fz, wr.heap[gi]? = some (.cells cs 24 fz) := by
  obtain ⟨ps, _, h2, _⟩ := h.rw
  obtain ⟨cs, fz, hq⟩ := own_block_of h2 gi rfl
  exact ⟨heap_lt hq, cs, fz, hq⟩
theorem MgW.since (h : MgW Y bv gi ga n F ac k xs wr) (s : Since wr w2) : MgW Y bv gi ga n F ac k xs w2 := ⟨h.lo, h.ne, h.ob.since s, h.rw.since s, h.bx.since s, h.sc.trans s⟩
theorem MgW.row (h : MgW Y bv gi ga n F ac k xs wr) (hk : k < n) (hn : n = xs.length) (s : Since wr w2) {p : Value} (ho : Own wr.heap.size w2 p (xs[k]'(by omega))) : MgW Y bv gi ga n F ac (k + 1) xs (w2.setCell ⟨gi, k, none⟩ p) := by
  obtain ⟨hg, cs, fz, hq⟩ := h.gil
  have hq2 : w2.heap[gi]? = some (.cells cs 24 fz) := (s.block gi hg).trans hq
  have hne : bv.ownBlock ≠ some gi := fun e => by
    obtain ⟨cs2, fz2, hq3⟩ := own_block_of (h.ob.since s) gi e
    rw [hq2] at hq3
    injection hq3 with hq3
    injection hq3 with _ hq3 _
    exact absurd hq3 (by decide)
  exact ⟨h.lo, h.ne, World.ownsRow.kept (h.ob.since s) (grown_setC w2 gi k p) (.inr hne), h.rw.step hg hn hk s ho (fun i hi e => by omega), (h.bx.since s).far (by show ga ≠ gi; exact fun e => h.ne e.symm) _, (h.sc.trans s).setCell h.lo.1 _⟩
theorem MgW.cell (h : MgW Y bv gi ga n F ac k xs wr) {r : Nat} (hr : r < k) (hn : r < n) (hx : r < xs.length) (hl : xs[r].length = 9) : ∃ q c, wr.cell? ⟨gi, r, none⟩ = some (.slice (some ⟨q, 0, none⟩) 9 c) ∧ q < wr.heap.size ∧
    (∀ j (hj : j < 9), wr.cell? ⟨q, j, none⟩ = some (.int .i64 (xs[r][j]'(by omega))) ∧ wr.frozen? ⟨q, j, none⟩ = false) ∧ ∀ w2 j x, Since wr w2 → j < 9 → InI x → MgW Y bv gi ga n F ac k (xs.set r (xs[r].set j x)) (w2.setCell ⟨q, j, none⟩ (.int .i64 x)) ∧ gi ≠ q ∧ ga ≠ q := by
  obtain ⟨q, c, h1, h2, h3, h4, ⟨cs, fz, hq⟩, h5, h6⟩ := h.rw.rowAt hn hx hr hl
  refine ⟨q, c, h1, h2, h5, fun w2 j x s hj hxi => ?_⟩
  have hq2 : w2.heap[q]? = some (.cells cs 3 fz) := (s.block q h2).trans hq
  have hne : bv.ownBlock ≠ some q := fun e => by
    obtain ⟨cs2, fz2, hq3⟩ := own_block_of (h.ob.since s) q e
    rw [hq2] at hq3
    injection hq3 with hq3
    injection hq3 with _ hq3 _
    exact absurd hq3 (by decide)
  have hga : ga ≠ q := fun e => by
    have := h.bx.since s
    subst e
    rw [show w2.heap[ga]? = _ from this] at hq2
    injection hq2 with hq2
    injection hq2 with _ hq2 _
    exact absurd hq2 (by decide)
  exact ⟨⟨h.lo, h.ne, World.ownsRow.kept (h.ob.since s) (grown_setC w2 q j _) (.inr hne), h6 w2 j x s hj hxi, (h.bx.since s).far (by show ga ≠ q; exact hga) _, (h.sc.trans s).setCell (by show Y.heap.size ≤ q; omega) _⟩, by omega, hga⟩
end
/-- The rows of which the first k are merged. -/
def rowsM (nx : List (List Int)) (cls : List Int) (k : Nat) : List (List Int) := (List.range nx.length).map fun i => if i < k then mrgRow cls (nx[i]?.getD []) else (nx[i]?.getD [])
theorem rowsM_length (nx : List (List Int)) (cls : List Int) (k : Nat) : (rowsM nx cls k).length = nx.length := by simp [rowsM]
theorem rowsM_at (nx : List (List Int)) (cls : List Int) (k i : Nat) (h : i < (rowsM nx cls k).length) : (rowsM nx cls k)[i] = if i < k then mrgRow cls (nx[i]'(by rw [rowsM_length] at h; exact h)) else nx[i]'(by rw [rowsM_length] at h; exact h) := by
  rw [rowsM_length] at h
  simp [rowsM, h]
theorem rowsM_all (nx : List (List Int)) (cls : List Int) : rowsM nx cls nx.length = nx.map (mrgRow cls) := by
  apply List.ext_getElem
  · simp [rowsM]
  · intro i h1 h2
    rw [rowsM_at, if_pos (by rw [rowsM_length] at h1; exact h1), List.getElem_map]
/-- A row of which the first j letters are merged. -/
def mixR (cls r : List Int) (j : Nat) : List Int := (List.range r.length).map fun i => if i < j then (mrgRow cls r)[i]?.getD 0 else r[i]?.getD 0
theorem mixR_length (cls r : List Int) (j : Nat) : (mixR cls r j).length = r.length := by simp [mixR]
theorem mixR_at (cls r : List Int) (j i : Nat) (h : i < (mixR cls r j).length) : (mixR cls r j)[i] = if i < j then (if r[i]'(by rw [mixR_length] at h; exact h) = -1 then -1 else fstC cls (r[i]'(by rw [mixR_length] at h; exact h))) else r[i]'(by rw [mixR_length] at h; exact h) := by
  rw [mixR_length] at h
  simp [mixR, mrgRow, h]
theorem mixR_zero (cls r : List Int) : mixR cls r 0 = r := by
  apply List.ext_getElem
  · simp [mixR]
  · intro i h1 h2; rw [mixR_at, if_neg (by omega)]
theorem mixR_all (cls r : List Int) : mixR cls r r.length = mrgRow cls r := by
  apply List.ext_getElem
  · simp [mixR, mrgRow]
  · intro i h1 h2
    rw [mixR_at, if_pos (by rw [mixR_length] at h1; exact h1)]
    simp [mrgRow]
theorem mixR_keep (cls r : List Int) (j : Nat) (h : j < r.length) (e : r[j] = -1) : mixR cls r j = mixR cls r (j + 1) := by
  apply List.ext_getElem
  · simp [mixR]
  · intro i h1 h2
    rw [mixR_at, mixR_at]
    by_cases e1 : i = j
    · subst e1; rw [if_neg (by omega), if_pos (show i < i + 1 by omega), if_pos e, e]
    · by_cases e2 : i < j
      · simp only [if_pos e2, if_pos (show i < j + 1 by omega)]
      · simp only [if_neg e2, if_neg (show ¬ i < j + 1 by omega)]
theorem mixR_set (cls r : List Int) (j : Nat) (h : j < r.length) (e : r[j] ≠ -1) (z : Int) (hz : z = fstC cls r[j]) : (mixR cls r j).set j z = mixR cls r (j + 1) := by
  subst hz
  apply List.ext_getElem
  · simp [mixR]
  · intro i h1 h2
    rw [List.getElem_set, mixR_at, mixR_at]
    by_cases e1 : j = i
    · subst e1; rw [if_pos rfl, if_pos (show j < j + 1 by omega), if_neg e]
    · rw [if_neg e1]
      by_cases e2 : i < j
      · simp only [if_pos e2, if_pos (show i < j + 1 by omega)]
      · simp only [if_neg e2, if_neg (show ¬ i < j + 1 by omega)]
def rowsJ (nx : List (List Int)) (cls : List Int) (k j : Nat) : List (List Int) := (rowsM nx cls k).set k (mixR cls (nx[k]?.getD []) j)
theorem rowsJ_length (nx : List (List Int)) (cls : List Int) (k j : Nat) : (rowsJ nx cls k j).length = nx.length := by simp [rowsJ, rowsM]
theorem rowsJ_at (nx : List (List Int)) (cls : List Int) (k j : Nat) (h : k < nx.length) : (rowsJ nx cls k j)[k]'(by rw [rowsJ_length]; exact h) = mixR cls nx[k] j := by simp [rowsJ, h]
theorem rowsJ_zero (nx : List (List Int)) (cls : List Int) (k : Nat) (h : k < nx.length) : rowsJ nx cls k 0 = rowsM nx cls k := by
  unfold rowsJ
  rw [mixR_zero]
  apply List.ext_getElem
  · simp [rowsM]
  · intro i h1 h2
    rw [List.getElem_set]
    by_cases e : k = i
    · subst e; rw [if_pos rfl, rowsM_at, if_neg (by omega)]; simp [h]
    · rw [if_neg e]
theorem rowsJ_all (nx : List (List Int)) (cls : List Int) (k : Nat) (h : k < nx.length) (hl : nx[k].length = 9) : rowsJ nx cls k 9 = rowsM nx cls (k + 1) := by
  have e0 : nx[k]?.getD [] = nx[k] := by simp [h]
  unfold rowsJ
  rw [e0, ← hl, mixR_all]
  apply List.ext_getElem
  · simp [rowsM]
  · intro i h1 h2
    rw [List.getElem_set]
    by_cases e : k = i
    · subst e; rw [if_pos rfl, rowsM_at, if_pos (by omega)]
    · rw [if_neg e, rowsM_at, rowsM_at]
      by_cases e2 : i < k
      · rw [if_pos e2, if_pos (by omega)]
      · rw [if_neg e2, if_neg (by omega)]
theorem rowsJ_step (nx : List (List Int)) (cls : List Int) (k j : Nat) (h : k < nx.length) (y : List Int) (hy : y = mixR cls nx[k] (j + 1)) : (rowsJ nx cls k j).set k y = rowsJ nx cls k (j + 1) := by
  subst hy
  unfold rowsJ
  rw [List.set_set]
  simp [h]
theorem next_row {w : World} {A : Aut} {bo : Option Addr} (hv : ValidA A) (h : Hid (∀ i (h : i < A.nx.length), ∃ b off p, bo = some ⟨b, off, none⟩ ∧ b < w.heap.size ∧ w.cell? ⟨b, off + i, none⟩ = some p ∧ IntsAt w p A.nx[i])) (t : Nat) (ht : t < A.nx.length) :
    ∃ b off b2 off2 c2, bo = some ⟨b, off, none⟩ ∧ b < w.heap.size ∧ w.cell? ⟨b, off + t, none⟩ = some (.slice (some ⟨b2, off2, none⟩) 9 c2) ∧ b2 < w.heap.size ∧ IntsAt w (.slice (some ⟨b2, off2, none⟩) 9 c2) A.nx[t] ∧ ∀ k (hk : k < A.nx[t].length), w.cell? ⟨b2, off2 + k, none⟩ = some (.int .i64 (A.nx[t][k])) := by
  obtain ⟨b, off, p, e, hb, c0, g⟩ := h.out t ht
  have hr := hv.row t ht
  have g2 := g
  obtain ⟨vo, vc, rfl, HR⟩ := g.row
  obtain ⟨b2, off2, e2, hb2, _⟩ := HR.out 0 (by have := hr.1; omega)
  subst e2
  rw [hr.1] at c0 g2
  refine ⟨b, off, b2, off2, vc, e, hb, c0, hb2, g2, fun k hk => ?_⟩
  obtain ⟨b3, off3, e3, _, c3⟩ := HR.out k hk
  injection e3 with e3
  injection e3 with e4 e5
  rw [e4, e5]
  exact c3
set_option maxHeartbeats 16000000 in
set_option maxRecDepth 100000 in
theorem merged_any (v : Value) (A : Aut) (f : Nat → Bool) (w : World) (h : AutAt w v A) (hv : ValidA A) (hf : ∀ s, f s = true ↔ LiveP A s) :
    Calls Try.prog 198 #[v] w (AOut w (mrgA A (clsA A f))) := by
  have HCL : Hid (∀ W, Since w W → Calls Try.prog 99 #[v] W (OwnOut W (clsA A f))) := fun W hW => classes_any v A f W (h.since hW) hv hf
  have HLEN : Hid ((clsA A f).length = A.ac.length) := clsA_length A f
  obtain ⟨cls, hcls⟩ : ∃ cls, cls = clsA A f := ⟨_, rfl⟩
  rw [← hcls] at HCL HLEN ⊢
  obtain ⟨a, b, rfl, _, ha, hb⟩ := h
  have HAC := Lib.hid ha
  obtain ⟨ao, ca, rfl⟩ := ha.len
  obtain ⟨bo, cb, rfl, HC⟩ := hb
  have HV := Lib.hid hv
  have hn12 := hv.1
  have hnm : A.nx.length = A.ac.length := hv.2.1
  have hst := hv.2.2.1
  obtain ⟨st, hst0⟩ : ∃ st : Nat, A.st = st := ⟨A.st.toNat, by omega⟩
  have hn9 : A.ac.length ≤ 1048577 := by omega
  rw [hnm, hst0] at HCL ⊢
  clear ha hv hf hcls
  obtain ⟨n, hn⟩ : ∃ n, n = A.ac.length := ⟨_, rfl⟩
  rw [← hn] at HCL HAC HLEN hn12 hst ⊢
  have HN := Lib.hid hn
  have HM : Hid (n = A.nx.length) := by rw [hn]; exact hnm.symm
  have HST0 := Lib.hid hst0
  have hst1 : st < n := by omega
  have hNm : n ≤ maxLen := by unfold maxLen; omega
  clear hn hnm
  obtain ⟨y, hy⟩ : ∃ y, y = (w.alloc (.cells #[.int .i64 (st : Int), .slice ao n ca, .slice bo n cb] 39)).alloc (.cells #[.int .i64 0, .slice none 0 0, .slice none 0 0] 39) := ⟨_, rfl⟩
  have hs0 : Since w y := by rw [hy]; exact ((Since.refl w).alloc _).alloc _
  have hz : y.heap.size = w.heap.size + 1 + 1 := by rw [hy]; simp
  have B0 : Hid (Blk y w.heap.size 39 #[.int .i64 (st : Int), .slice ao n ca, .slice bo n cb]) := by rw [hy]; exact (Blk.new rfl _ _).alloc _
  have B1 : Hid (Blk y (w.heap.size + 1) 39 #[.int .i64 0, .slice none 0 0, .slice none 0 0]) := by rw [hy]; exact Blk.new (by simp) _ _
  have HY := Lib.hid hy
  have HZ := Lib.hid hz
  clear hy hz hst0
  go_enter Try.func198, Try.ntmps198
  go_upto_region 1 with fail
  rw [← HY.out]
  obtain ⟨⟨p0, p1, p2⟩, _⟩ := B0.out.threeA
  go_wp2_with fail
  refine (HCL.out _ hs0).mono ?_
  rintro e w1 ⟨v1, rfl, ho1, hs1⟩
  obtain ⟨co, cc, rfl⟩ := ho1.len
  have HCI := Lib.hid ho1.at
  clear p0 p1 p2 ho1
  obtain ⟨y2, hy2⟩ : ∃ y2, y2 = w1.alloc (.cells #[.slice co cls.length cc] 24) := ⟨_, rfl⟩
  have hs2 : Since w1 y2 := by rw [hy2]; exact (Since.refl w1).alloc _
  have HFS : Hid (∀ (t : Nat) W, Since y2 W → t < n → Calls Try.prog 206 #[.int .i64 t, .pointer (some ⟨w1.heap.size, 0, none⟩)] W fun e w' => e = .returned (.int .i64 (fstC cls (t : Int))) ∧ Since W w') := fun t W hW ht =>
    fst_any w1.heap.size co cc cls t W (Blk.since (by rw [hy2]; exact Blk.new rfl _ _) hW) (HCI.out.since (hs2.trans hW)) (by rw [HLEN.out]; exact ht) (by rw [HLEN.out]; omega)
  have HFI : Hid (∀ t : Nat, t < n → 0 ≤ fstC cls (t : Int) ∧ fstC cls (t : Int) < (n : Int)) := fun t ht => by
    have h1 := HLEN.out
    have h2 := fstC_in (cls := cls) (t := (t : Int)) (by omega) (by omega)
    omega
  have HSY := Lib.hid (hs0.trans (hs1.trans hs2))
  have C0 := Lib.hid (B0.out.since (hs1.trans hs2))
  have C1 := Lib.hid (B1.out.since (hs1.trans hs2))
  have HY2 := Lib.hid hy2
  have hzw : w.heap.size + 2 ≤ y2.heap.size := by have := hs1.size; have := hs2.size; have := HZ.out; omega
  clear hy2 hs1 hs2 HCI HCL B0 B1
  obtain ⟨F, hF⟩ : ∃ F, F = fstC cls (st : Int) := ⟨_, rfl⟩
  have HFE := Lib.hid hF
  clear hF hst
  go_upto_region 3 with fail
  rw [← HY2.out]
  go_cut [5] (fun p wx => MrgA0 y2 wx p F A.ac n)
  case first =>
    have hmkI := fun W => run_make_row' (P := Try.prog) 37 24 nilS 24 Try.underlying37 info_ints rfl .i64 .i64 n (by omega) (by omega) W
    have HKC : Hid (∀ w', Since y2 w' → w'.cell? ⟨w.heap.size, 0, none⟩ = some (.int .i64 (st : Int)) ∧ w'.cell? ⟨w.heap.size, 1, none⟩ = some (.slice ao n ca) ∧ w'.cell? ⟨w.heap.size, 2, none⟩ = some (.slice bo n cb)) := by
      intro w' hs
      obtain ⟨⟨r0, r1, r2⟩, _⟩ := (C0.out.since hs).threeA
      exact ⟨r0, r1, r2⟩
    go_wp2_with fail
    refine wp_region_held_drew (S := (fun w' => w'.cell? ⟨w.heap.size, 0, none⟩ = some (.int .i64 (st : Int)) ∧ w'.cell? ⟨w.heap.size, 1, none⟩ = some (.slice ao n ca) ∧ w'.cell? ⟨w.heap.size, 2, none⟩ = some (.slice bo n cb))) (by kernel_rfl) (HKC.out _ (Since.refl _).drew) (fun hHeld => ?_)
    refine take_yes 0 (some 13) (v := ?_) rfl (by kernel_rfl) (by kernel_rfl) (by kernel_rfl) (by kernel_rfl) (fun _ _ _ h => h) (by rfl) (by assumption) ?_ ?_
    rotate_left
    · (intro w' hSw; (try dsimp only at hSw); go_simp; try with_reducible rfl)
    try simp only [Act.put, List.setIfInBounds_toArray, List.set_cons_zero, List.set_cons_succ]
    refine take_yes 1 (some 14) (v := ?_) rfl (by kernel_rfl) (by kernel_rfl) (by kernel_rfl) (by kernel_rfl) (fun _ _ _ h => h) (by rfl) (by assumption) ?_ ?_
    rotate_left
    · (intro w' hSw; (try dsimp only at hSw); go_simp; try with_reducible rfl)
    try simp only [Act.put, List.setIfInBounds_toArray, List.set_cons_zero, List.set_cons_succ]
    refine take_yes 2 (some 15) (v := ?_) rfl (by kernel_rfl) (by kernel_rfl) (by kernel_rfl) (by kernel_rfl) (fun _ _ _ h => h) (by rfl) (by assumption) ?_ ?_
    rotate_left
    · (intro w' hSw; (try dsimp only at hSw); go_simp; try with_reducible rfl)
    try simp only [Act.put, List.setIfInBounds_toArray, List.set_cons_zero, List.set_cons_succ]
    refine take_yes 4 (some 17) (v := ?_) rfl (by kernel_rfl) (by kernel_rfl) (by kernel_rfl) (by kernel_rfl) (fun _ _ _ h => h) (by rfl) (by assumption) ?_ ?_
    rotate_left
    · (intro w' hSw; (try dsimp only at hSw); go_simp; try with_reducible rfl)
    try simp only [Act.put, List.setIfInBounds_toArray, List.set_cons_zero, List.set_cons_succ]
    refine take_yes 5 (some 18) (v := ?_) rfl (by kernel_rfl) (by kernel_rfl) (by kernel_rfl) (by kernel_rfl) (fun _ _ _ h => h) (by rfl) (by assumption) ?_ ?_
    rotate_left
    · (intro w' hSw; (try dsimp only at hSw); go_simp; try with_reducible rfl)
    try simp only [Act.put, List.setIfInBounds_toArray, List.set_cons_zero, List.set_cons_succ]
    refine take_yes 7 (some 20) (v := ?_) rfl (by kernel_rfl) (by kernel_rfl) (by kernel_rfl) (by kernel_rfl) (fun _ _ _ h => h) (by rfl) (by assumption) ?_ ?_
    rotate_left
    · (intro w' hSw; (try dsimp only at hSw); go_simp; try with_reducible rfl)
    try simp only [Act.put, List.setIfInBounds_toArray, List.set_cons_zero, List.set_cons_succ]
    refine take_yes 8 (some 21) (v := ?_) rfl (by kernel_rfl) (by kernel_rfl) (by kernel_rfl) (by kernel_rfl) (fun _ _ _ h => h) (by rfl) (by assumption) ?_ ?_
    rotate_left
    · (intro w' hSw; (try dsimp only at hSw); go_simp; try with_reducible rfl)
    try simp only [Act.put, List.setIfInBounds_toArray, List.set_cons_zero, List.set_cons_succ]
    refine take_yes 9 (some 22) (v := ?_) rfl (by kernel_rfl) (by kernel_rfl) (by kernel_rfl) (by kernel_rfl) (fun _ _ _ h => h) (by rfl) (by assumption) ?_ ?_
    rotate_left
    · (intro w' hSw; (try dsimp only at hSw); go_simp; try with_reducible rfl)
    try simp only [Act.put, List.setIfInBounds_toArray, List.set_cons_zero, List.set_cons_succ]
    refine take_three 3 10 12 rfl rfl rfl (by kernel_rfl) (by rfl) (by rfl) (by rfl) (fun K hK => ?_) (fun K hK => ?_) (fun K hK => ?_)
    · skip
      go_simp
      refine (HFS.out st _ (Since.refl y2).drew hst1).mono ?_
      rintro en q1 ⟨rfl, hs1⟩
      rw [← HFE.out]
      have hc1 := Since.trans (Since.refl y2).drew hs1
      have hz1 := hs1.size
      refine hK.out _ _ (HKC.out _ hc1) (fun hHeld1 => ?_)
      clear hK K hHeld
      try simp only [Act.put, List.setIfInBounds_toArray, List.set_cons_zero, List.set_cons_succ]
      refine take_three 6 10 12 rfl rfl rfl (by kernel_rfl) (by rfl) (by rfl) (by rfl) (fun K hK => ?_) (fun K hK => ?_) (fun K hK => ?_)
      · skip
        go_simp
        refine (copiedBo_any _ A.ac _ (HAC.out.since (HSY.out.trans hc1)) hn9).mono ?_
        rintro en q2 ⟨vb2, rfl, ho2, hs2⟩
        have hc2 := Since.trans hc1 hs2
        have hz2 := hs2.size
        obtain ⟨bvo, bvc, rfl⟩ := OwnBo.len ho2
        rw [← HN.out] at ho2 ⊢
        have B2 : Hid (OwnBo y2.heap.size q2 (.slice bvo n bvc) A.ac) := row_mono ho2 (hc1).size
        clear ho2
        refine hK.out _ _ (HKC.out _ hc2) (fun hHeld2 => ?_)
        clear hK K hHeld1
        try simp only [Act.put, List.setIfInBounds_toArray, List.set_cons_zero, List.set_cons_succ]
        refine take_two 10 12 rfl rfl (by kernel_rfl) (by rfl) (by rfl) (fun K hK => ?_) (fun K hK => ?_)
        · skip
          go_simp
          obtain ⟨q3, hq3⟩ : ∃ q, q = (q2).alloc (.cells (madeCells #[nilS] n) 24) := ⟨_, rfl⟩
          have hs3 : Since (q2) q3 := by rw [hq3]; exact (Since.refl _).alloc _
          have hz3 : q2.heap.size + 1 ≤ q3.heap.size := by rw [hq3]; simp
          have B3 := Lib.hid (B2.out.since hs3)
          have R3 : Hid (q3.ownsRow y2.heap.size 24 1 (.slice (some ⟨q2.heap.size, 0, none⟩) n n) n (List.replicate n nilS)) := by
            rw [hq3]; exact mkI_own y2.heap.size (q2) n (hc2).size hNm
          have hgi : y2.heap.size ≤ q2.heap.size := (hc2).size
          have hc3 := Since.trans hc2 hs3
          rw [← hq3]
          clear hq3
          refine hK.out _ _ (HKC.out _ hc3) (fun hHeld3 => ?_)
          clear hK K hHeld2
          try simp only [Act.put, List.setIfInBounds_toArray, List.set_cons_zero, List.set_cons_succ]
          refine take_yes 11 (some 24) (v := ?_) rfl (by kernel_rfl) (by kernel_rfl) (by kernel_rfl) (by kernel_rfl) (fun _ _ _ h => h) (by rfl) (by assumption) ?_ ?_
          rotate_left
          · (intro w' hSw; (try dsimp only at hSw); go_simp; try with_reducible rfl)
          try simp only [Act.put, List.setIfInBounds_toArray, List.set_cons_zero, List.set_cons_succ]
          refine take_run 12 rfl (by kernel_rfl) (by rfl) (fun K hK => ?_)
          go_simp
          obtain ⟨q4, hq4⟩ : ∃ q, q = (q3).alloc (.cells #[.int .i64 0, .slice none 0 0, .slice none 0 0] 39) := ⟨_, rfl⟩
          have hs4 : Since (q3) q4 := by rw [hq4]; exact (Since.refl _).alloc _
          have hz4 : q3.heap.size + 1 ≤ q4.heap.size := by rw [hq4]; simp
          have B4 := Lib.hid (B3.out.since hs4)
          have R4 := Lib.hid (row_since R3.out hs4)
          have X4 : Hid (Blk q4 q3.heap.size 39 #[.int .i64 0, .slice none 0 0, .slice none 0 0]) := by rw [hq4]; exact Blk.new rfl _ _
          have hga : y2.heap.size ≤ q3.heap.size := (hc3).size
          have hc4 := Since.trans hc3 hs4
          rw [← hq4]
          clear hq4
          refine hK.out _ _ (HKC.out _ hc4) (fun hHeld4 => ?_)
          clear hK K hHeld3
          try simp only [Act.put, List.setIfInBounds_toArray, List.set_cons_zero, List.set_cons_succ]
          refine take_run 13 rfl (by kernel_rfl) (by rfl) (fun K hK => ?_)
          obtain ⟨⟨s0, s1, s2⟩, s5, s6, s7⟩ := X4.out.threeA
          go_simp
          clear s0 s1 s2 s5 s6 s7
          obtain ⟨qz, hqz⟩ : ∃ q, q = (((q4).setCell ⟨q3.heap.size, 0, none⟩ (.int .i64 F)).setCell ⟨q3.heap.size, 1, none⟩ (.slice bvo n bvc)).setCell ⟨q3.heap.size, 2, none⟩ (.slice (some ⟨q2.heap.size, 0, none⟩) n n) := ⟨_, rfl⟩
          have FM : Hid (MrgA0 y2 qz (.pointer (some ⟨q3.heap.size, 0, none⟩)) F A.ac n) := by rw [hqz]; exact mrgA0_set B4.out R4.out X4.out hc4 hgi hga (by omega)
          have hcf : Since y2 qz := FM.out.sin
          rw [← hqz]
          clear hqz
          refine hK.out _ _ (HKC.out _ hcf) (fun hHeldz => ?_)
          clear hK K hHeld4
          try simp only [Act.put, List.setIfInBounds_toArray, List.set_cons_zero, List.set_cons_succ]
          refine wpAnyH_done (by kernel_rfl) ?_ _
          clear hHeldz
          go_wp2_with fail
          go_meet
          exact FM.out
        · skip
          go_simp
          obtain ⟨q3, hq3⟩ : ∃ q, q = (q2).alloc (.cells #[.int .i64 0, .slice none 0 0, .slice none 0 0] 39) := ⟨_, rfl⟩
          have hs3 : Since (q2) q3 := by rw [hq3]; exact (Since.refl _).alloc _
          have hz3 : q2.heap.size + 1 ≤ q3.heap.size := by rw [hq3]; simp
          have B3 := Lib.hid (B2.out.since hs3)
          have X3 : Hid (Blk q3 q2.heap.size 39 #[.int .i64 0, .slice none 0 0, .slice none 0 0]) := by rw [hq3]; exact Blk.new rfl _ _
          have hga : y2.heap.size ≤ q2.heap.size := (hc2).size
          have hc3 := Since.trans hc2 hs3
          rw [← hq3]
          clear hq3
          refine hK.out _ _ (HKC.out _ hc3) (fun hHeld3 => ?_)
          clear hK K hHeld2
          try simp only [Act.put, List.setIfInBounds_toArray, List.set_cons_zero, List.set_cons_succ]
          refine take_run 10 rfl (by kernel_rfl) (by rfl) (fun K hK => ?_)
          go_simp
          obtain ⟨q4, hq4⟩ : ∃ q, q = (q3).alloc (.cells (madeCells #[nilS] n) 24) := ⟨_, rfl⟩
          have hs4 : Since (q3) q4 := by rw [hq4]; exact (Since.refl _).alloc _
          have hz4 : q3.heap.size + 1 ≤ q4.heap.size := by rw [hq4]; simp
          have B4 := Lib.hid (B3.out.since hs4)
          have X4 := Lib.hid (X3.out.since hs4)
          have R4 : Hid (q4.ownsRow y2.heap.size 24 1 (.slice (some ⟨q3.heap.size, 0, none⟩) n n) n (List.replicate n nilS)) := by
            rw [hq4]; exact mkI_own y2.heap.size (q3) n (hc3).size hNm
          have hgi : y2.heap.size ≤ q3.heap.size := (hc3).size
          have hc4 := Since.trans hc3 hs4
          rw [← hq4]
          clear hq4
          refine hK.out _ _ (HKC.out _ hc4) (fun hHeld4 => ?_)
          clear hK K hHeld3
          try simp only [Act.put, List.setIfInBounds_toArray, List.set_cons_zero, List.set_cons_succ]
          refine take_yes 11 (some 24) (v := ?_) rfl (by kernel_rfl) (by kernel_rfl) (by kernel_rfl) (by kernel_rfl) (fun _ _ _ h => h) (by rfl) (by assumption) ?_ ?_
          rotate_left
          · (intro w' hSw; (try dsimp only at hSw); go_simp; try with_reducible rfl)
          try simp only [Act.put, List.setIfInBounds_toArray, List.set_cons_zero, List.set_cons_succ]
          refine take_run 13 rfl (by kernel_rfl) (by rfl) (fun K hK => ?_)
          obtain ⟨⟨s0, s1, s2⟩, s5, s6, s7⟩ := X4.out.threeA
          go_simp
          clear s0 s1 s2 s5 s6 s7
          obtain ⟨qz, hqz⟩ : ∃ q, q = (((q4).setCell ⟨q2.heap.size, 0, none⟩ (.int .i64 F)).setCell ⟨q2.heap.size, 1, none⟩ (.slice bvo n bvc)).setCell ⟨q2.heap.size, 2, none⟩ (.slice (some ⟨q3.heap.size, 0, none⟩) n n) := ⟨_, rfl⟩
          have FM : Hid (MrgA0 y2 qz (.pointer (some ⟨q2.heap.size, 0, none⟩)) F A.ac n) := by rw [hqz]; exact mrgA0_set B4.out R4.out X4.out hc4 hgi hga (by omega)
          have hcf : Since y2 qz := FM.out.sin
          rw [← hqz]
          clear hqz
          refine hK.out _ _ (HKC.out _ hcf) (fun hHeldz => ?_)
          clear hK K hHeld4
          try simp only [Act.put, List.setIfInBounds_toArray, List.set_cons_zero, List.set_cons_succ]
          refine wpAnyH_done (by kernel_rfl) ?_ _
          clear hHeldz
          go_wp2_with fail
          go_meet
          exact FM.out
      · skip
        go_simp
        obtain ⟨q2, hq2⟩ : ∃ q, q = (q1).alloc (.cells (madeCells #[nilS] n) 24) := ⟨_, rfl⟩
        have hs2 : Since (q1) q2 := by rw [hq2]; exact (Since.refl _).alloc _
        have hz2 : q1.heap.size + 1 ≤ q2.heap.size := by rw [hq2]; simp
        have R2 : Hid (q2.ownsRow y2.heap.size 24 1 (.slice (some ⟨q1.heap.size, 0, none⟩) n n) n (List.replicate n nilS)) := by
          rw [hq2]; exact mkI_own y2.heap.size (q1) n (hc1).size hNm
        have hgi : y2.heap.size ≤ q1.heap.size := (hc1).size
        have hc2 := Since.trans hc1 hs2
        rw [← hq2]
        clear hq2
        refine hK.out _ _ (HKC.out _ hc2) (fun hHeld2 => ?_)
        clear hK K hHeld1
        try simp only [Act.put, List.setIfInBounds_toArray, List.set_cons_zero, List.set_cons_succ]
        refine take_two 6 12 rfl rfl (by kernel_rfl) (by rfl) (by rfl) (fun K hK => ?_) (fun K hK => ?_)
        · skip
          go_simp
          refine (copiedBo_any _ A.ac _ (HAC.out.since (HSY.out.trans hc2)) hn9).mono ?_
          rintro en q3 ⟨vb3, rfl, ho3, hs3⟩
          have hc3 := Since.trans hc2 hs3
          have hz3 := hs3.size
          obtain ⟨bvo, bvc, rfl⟩ := OwnBo.len ho3
          rw [← HN.out] at ho3 ⊢
          have R3 := Lib.hid (row_since R2.out hs3)
          have B3 : Hid (OwnBo y2.heap.size q3 (.slice bvo n bvc) A.ac) := row_mono ho3 (hc2).size
          clear ho3
          refine hK.out _ _ (HKC.out _ hc3) (fun hHeld3 => ?_)
          clear hK K hHeld2
          try simp only [Act.put, List.setIfInBounds_toArray, List.set_cons_zero, List.set_cons_succ]
          refine take_yes 11 (some 24) (v := ?_) rfl (by kernel_rfl) (by kernel_rfl) (by kernel_rfl) (by kernel_rfl) (fun _ _ _ h => h) (by rfl) (by assumption) ?_ ?_
          rotate_left
          · (intro w' hSw; (try dsimp only at hSw); go_simp; try with_reducible rfl)
          try simp only [Act.put, List.setIfInBounds_toArray, List.set_cons_zero, List.set_cons_succ]
          refine take_run 12 rfl (by kernel_rfl) (by rfl) (fun K hK => ?_)
          go_simp
          obtain ⟨q4, hq4⟩ : ∃ q, q = (q3).alloc (.cells #[.int .i64 0, .slice none 0 0, .slice none 0 0] 39) := ⟨_, rfl⟩
          have hs4 : Since (q3) q4 := by rw [hq4]; exact (Since.refl _).alloc _
          have hz4 : q3.heap.size + 1 ≤ q4.heap.size := by rw [hq4]; simp
          have B4 := Lib.hid (B3.out.since hs4)
          have R4 := Lib.hid (row_since R3.out hs4)
          have X4 : Hid (Blk q4 q3.heap.size 39 #[.int .i64 0, .slice none 0 0, .slice none 0 0]) := by rw [hq4]; exact Blk.new rfl _ _
          have hga : y2.heap.size ≤ q3.heap.size := (hc3).size
          have hc4 := Since.trans hc3 hs4
          rw [← hq4]
          clear hq4
          refine hK.out _ _ (HKC.out _ hc4) (fun hHeld4 => ?_)
          clear hK K hHeld3
          try simp only [Act.put, List.setIfInBounds_toArray, List.set_cons_zero, List.set_cons_succ]
          refine take_run 13 rfl (by kernel_rfl) (by rfl) (fun K hK => ?_)
          obtain ⟨⟨s0, s1, s2⟩, s5, s6, s7⟩ := X4.out.threeA
          go_simp
          clear s0 s1 s2 s5 s6 s7
          obtain ⟨qz, hqz⟩ : ∃ q, q = (((q4).setCell ⟨q3.heap.size, 0, none⟩ (.int .i64 F)).setCell ⟨q3.heap.size, 1, none⟩ (.slice bvo n bvc)).setCell ⟨q3.heap.size, 2, none⟩ (.slice (some ⟨q1.heap.size, 0, none⟩) n n) := ⟨_, rfl⟩
          have FM : Hid (MrgA0 y2 qz (.pointer (some ⟨q3.heap.size, 0, none⟩)) F A.ac n) := by rw [hqz]; exact mrgA0_set B4.out R4.out X4.out hc4 hgi hga (by omega)
          have hcf : Since y2 qz := FM.out.sin
          rw [← hqz]
          clear hqz
          refine hK.out _ _ (HKC.out _ hcf) (fun hHeldz => ?_)
          clear hK K hHeld4
          try simp only [Act.put, List.setIfInBounds_toArray, List.set_cons_zero, List.set_cons_succ]
          refine wpAnyH_done (by kernel_rfl) ?_ _
          clear hHeldz
          go_wp2_with fail
          go_meet
          exact FM.out
        · skip
          go_simp
          obtain ⟨q3, hq3⟩ : ∃ q, q = (q2).alloc (.cells #[.int .i64 0, .slice none 0 0, .slice none 0 0] 39) := ⟨_, rfl⟩
          have hs3 : Since (q2) q3 := by rw [hq3]; exact (Since.refl _).alloc _
          have hz3 : q2.heap.size + 1 ≤ q3.heap.size := by rw [hq3]; simp
          have R3 := Lib.hid (row_since R2.out hs3)
          have X3 : Hid (Blk q3 q2.heap.size 39 #[.int .i64 0, .slice none 0 0, .slice none 0 0]) := by rw [hq3]; exact Blk.new rfl _ _
          have hga : y2.heap.size ≤ q2.heap.size := (hc2).size
          have hc3 := Since.trans hc2 hs3
          rw [← hq3]
          clear hq3
          refine hK.out _ _ (HKC.out _ hc3) (fun hHeld3 => ?_)
          clear hK K hHeld2
          try simp only [Act.put, List.setIfInBounds_toArray, List.set_cons_zero, List.set_cons_succ]
          refine take_run 6 rfl (by kernel_rfl) (by rfl) (fun K hK => ?_)
          go_simp
          refine (copiedBo_any _ A.ac _ (HAC.out.since (HSY.out.trans hc3)) hn9).mono ?_
          rintro en q4 ⟨vb4, rfl, ho4, hs4⟩
          have hc4 := Since.trans hc3 hs4
          have hz4 := hs4.size
          obtain ⟨bvo, bvc, rfl⟩ := OwnBo.len ho4
          rw [← HN.out] at ho4 ⊢
          have R4 := Lib.hid (row_since R3.out hs4)
          have X4 := Lib.hid (X3.out.since hs4)
          have B4 : Hid (OwnBo y2.heap.size q4 (.slice bvo n bvc) A.ac) := row_mono ho4 (hc3).size
          clear ho4
          refine hK.out _ _ (HKC.out _ hc4) (fun hHeld4 => ?_)
          clear hK K hHeld3
          try simp only [Act.put, List.setIfInBounds_toArray, List.set_cons_zero, List.set_cons_succ]
          refine take_yes 11 (some 24) (v := ?_) rfl (by kernel_rfl) (by kernel_rfl) (by kernel_rfl) (by kernel_rfl) (fun _ _ _ h => h) (by rfl) (by assumption) ?_ ?_
          rotate_left
          · (intro w' hSw; (try dsimp only at hSw); go_simp; try with_reducible rfl)
          try simp only [Act.put, List.setIfInBounds_toArray, List.set_cons_zero, List.set_cons_succ]
          refine take_run 13 rfl (by kernel_rfl) (by rfl) (fun K hK => ?_)
          obtain ⟨⟨s0, s1, s2⟩, s5, s6, s7⟩ := X4.out.threeA
          go_simp
          clear s0 s1 s2 s5 s6 s7
          obtain ⟨qz, hqz⟩ : ∃ q, q = (((q4).setCell ⟨q2.heap.size, 0, none⟩ (.int .i64 F)).setCell ⟨q2.heap.size, 1, none⟩ (.slice bvo n bvc)).setCell ⟨q2.heap.size, 2, none⟩ (.slice (some ⟨q1.heap.size, 0, none⟩) n n) := ⟨_, rfl⟩
          have FM : Hid (MrgA0 y2 qz (.pointer (some ⟨q2.heap.size, 0, none⟩)) F A.ac n) := by rw [hqz]; exact mrgA0_set B4.out R4.out X4.out hc4 hgi hga (by omega)
          have hcf : Since y2 qz := FM.out.sin
          rw [← hqz]
          clear hqz
          refine hK.out _ _ (HKC.out _ hcf) (fun hHeldz => ?_)
          clear hK K hHeld4
          try simp only [Act.put, List.setIfInBounds_toArray, List.set_cons_zero, List.set_cons_succ]
          refine wpAnyH_done (by kernel_rfl) ?_ _
          clear hHeldz
          go_wp2_with fail
          go_meet
          exact FM.out
      · skip
        go_simp
        obtain ⟨q2, hq2⟩ : ∃ q, q = (q1).alloc (.cells #[.int .i64 0, .slice none 0 0, .slice none 0 0] 39) := ⟨_, rfl⟩
        have hs2 : Since (q1) q2 := by rw [hq2]; exact (Since.refl _).alloc _
        have hz2 : q1.heap.size + 1 ≤ q2.heap.size := by rw [hq2]; simp
        have X2 : Hid (Blk q2 q1.heap.size 39 #[.int .i64 0, .slice none 0 0, .slice none 0 0]) := by rw [hq2]; exact Blk.new rfl _ _
        have hga : y2.heap.size ≤ q1.heap.size := (hc1).size
        have hc2 := Since.trans hc1 hs2
        rw [← hq2]
        clear hq2
        refine hK.out _ _ (HKC.out _ hc2) (fun hHeld2 => ?_)
        clear hK K hHeld1
        try simp only [Act.put, List.setIfInBounds_toArray, List.set_cons_zero, List.set_cons_succ]
        refine take_two 6 10 rfl rfl (by kernel_rfl) (by rfl) (by rfl) (fun K hK => ?_) (fun K hK => ?_)
        · skip
          go_simp
          refine (copiedBo_any _ A.ac _ (HAC.out.since (HSY.out.trans hc2)) hn9).mono ?_
          rintro en q3 ⟨vb3, rfl, ho3, hs3⟩
          have hc3 := Since.trans hc2 hs3
          have hz3 := hs3.size
          obtain ⟨bvo, bvc, rfl⟩ := OwnBo.len ho3
          rw [← HN.out] at ho3 ⊢
          have X3 := Lib.hid (X2.out.since hs3)
          have B3 : Hid (OwnBo y2.heap.size q3 (.slice bvo n bvc) A.ac) := row_mono ho3 (hc2).size
          clear ho3
          refine hK.out _ _ (HKC.out _ hc3) (fun hHeld3 => ?_)
          clear hK K hHeld2
          try simp only [Act.put, List.setIfInBounds_toArray, List.set_cons_zero, List.set_cons_succ]
          refine take_run 10 rfl (by kernel_rfl) (by rfl) (fun K hK => ?_)
          go_simp
          obtain ⟨q4, hq4⟩ : ∃ q, q = (q3).alloc (.cells (madeCells #[nilS] n) 24) := ⟨_, rfl⟩
          have hs4 : Since (q3) q4 := by rw [hq4]; exact (Since.refl _).alloc _
          have hz4 : q3.heap.size + 1 ≤ q4.heap.size := by rw [hq4]; simp
          have B4 := Lib.hid (B3.out.since hs4)
          have X4 := Lib.hid (X3.out.since hs4)
          have R4 : Hid (q4.ownsRow y2.heap.size 24 1 (.slice (some ⟨q3.heap.size, 0, none⟩) n n) n (List.replicate n nilS)) := by
            rw [hq4]; exact mkI_own y2.heap.size (q3) n (hc3).size hNm
          have hgi : y2.heap.size ≤ q3.heap.size := (hc3).size
          have hc4 := Since.trans hc3 hs4
          rw [← hq4]
          clear hq4
          refine hK.out _ _ (HKC.out _ hc4) (fun hHeld4 => ?_)
          clear hK K hHeld3
          try simp only [Act.put, List.setIfInBounds_toArray, List.set_cons_zero, List.set_cons_succ]
          refine take_yes 11 (some 24) (v := ?_) rfl (by kernel_rfl) (by kernel_rfl) (by kernel_rfl) (by kernel_rfl) (fun _ _ _ h => h) (by rfl) (by assumption) ?_ ?_
          rotate_left
          · (intro w' hSw; (try dsimp only at hSw); go_simp; try with_reducible rfl)
          try simp only [Act.put, List.setIfInBounds_toArray, List.set_cons_zero, List.set_cons_succ]
          refine take_run 13 rfl (by kernel_rfl) (by rfl) (fun K hK => ?_)
          obtain ⟨⟨s0, s1, s2⟩, s5, s6, s7⟩ := X4.out.threeA
          go_simp
          clear s0 s1 s2 s5 s6 s7
          obtain ⟨qz, hqz⟩ : ∃ q, q = (((q4).setCell ⟨q1.heap.size, 0, none⟩ (.int .i64 F)).setCell ⟨q1.heap.size, 1, none⟩ (.slice bvo n bvc)).setCell ⟨q1.heap.size, 2, none⟩ (.slice (some ⟨q3.heap.size, 0, none⟩) n n) := ⟨_, rfl⟩
          have FM : Hid (MrgA0 y2 qz (.pointer (some ⟨q1.heap.size, 0, none⟩)) F A.ac n) := by rw [hqz]; exact mrgA0_set B4.out R4.out X4.out hc4 hgi hga (by omega)
          have hcf : Since y2 qz := FM.out.sin
          rw [← hqz]
          clear hqz
          refine hK.out _ _ (HKC.out _ hcf) (fun hHeldz => ?_)
          clear hK K hHeld4
          try simp only [Act.put, List.setIfInBounds_toArray, List.set_cons_zero, List.set_cons_succ]
          refine wpAnyH_done (by kernel_rfl) ?_ _
          clear hHeldz
          go_wp2_with fail
          go_meet
          exact FM.out
        · skip
          go_simp
          obtain ⟨q3, hq3⟩ : ∃ q, q = (q2).alloc (.cells (madeCells #[nilS] n) 24) := ⟨_, rfl⟩
          have hs3 : Since (q2) q3 := by rw [hq3]; exact (Since.refl _).alloc _
          have hz3 : q2.heap.size + 1 ≤ q3.heap.size := by rw [hq3]; simp
          have X3 := Lib.hid (X2.out.since hs3)
          have R3 : Hid (q3.ownsRow y2.heap.size 24 1 (.slice (some ⟨q2.heap.size, 0, none⟩) n n) n (List.replicate n nilS)) := by
            rw [hq3]; exact mkI_own y2.heap.size (q2) n (hc2).size hNm
          have hgi : y2.heap.size ≤ q2.heap.size := (hc2).size
          have hc3 := Since.trans hc2 hs3
          rw [← hq3]
          clear hq3
          refine hK.out _ _ (HKC.out _ hc3) (fun hHeld3 => ?_)
          clear hK K hHeld2
          try simp only [Act.put, List.setIfInBounds_toArray, List.set_cons_zero, List.set_cons_succ]
          refine take_run 6 rfl (by kernel_rfl) (by rfl) (fun K hK => ?_)
          go_simp
          refine (copiedBo_any _ A.ac _ (HAC.out.since (HSY.out.trans hc3)) hn9).mono ?_
          rintro en q4 ⟨vb4, rfl, ho4, hs4⟩
          have hc4 := Since.trans hc3 hs4
          have hz4 := hs4.size
          obtain ⟨bvo, bvc, rfl⟩ := OwnBo.len ho4
          rw [← HN.out] at ho4 ⊢
          have R4 := Lib.hid (row_since R3.out hs4)
          have X4 := Lib.hid (X3.out.since hs4)
          have B4 : Hid (OwnBo y2.heap.size q4 (.slice bvo n bvc) A.ac) := row_mono ho4 (hc3).size
          clear ho4
          refine hK.out _ _ (HKC.out _ hc4) (fun hHeld4 => ?_)
          clear hK K hHeld3
          try simp only [Act.put, List.setIfInBounds_toArray, List.set_cons_zero, List.set_cons_succ]
          refine take_yes 11 (some 24) (v := ?_) rfl (by kernel_rfl) (by kernel_rfl) (by kernel_rfl) (by kernel_rfl) (fun _ _ _ h => h) (by rfl) (by assumption) ?_ ?_
          rotate_left
          · (intro w' hSw; (try dsimp only at hSw); go_simp; try with_reducible rfl)
          try simp only [Act.put, List.setIfInBounds_toArray, List.set_cons_zero, List.set_cons_succ]
          refine take_run 13 rfl (by kernel_rfl) (by rfl) (fun K hK => ?_)
          obtain ⟨⟨s0, s1, s2⟩, s5, s6, s7⟩ := X4.out.threeA
          go_simp
          clear s0 s1 s2 s5 s6 s7
          obtain ⟨qz, hqz⟩ : ∃ q, q = (((q4).setCell ⟨q1.heap.size, 0, none⟩ (.int .i64 F)).setCell ⟨q1.heap.size, 1, none⟩ (.slice bvo n bvc)).setCell ⟨q1.heap.size, 2, none⟩ (.slice (some ⟨q2.heap.size, 0, none⟩) n n) := ⟨_, rfl⟩
          have FM : Hid (MrgA0 y2 qz (.pointer (some ⟨q1.heap.size, 0, none⟩)) F A.ac n) := by rw [hqz]; exact mrgA0_set B4.out R4.out X4.out hc4 hgi hga (by omega)
          have hcf : Since y2 qz := FM.out.sin
          rw [← hqz]
          clear hqz
          refine hK.out _ _ (HKC.out _ hcf) (fun hHeldz => ?_)
          clear hK K hHeld4
          try simp only [Act.put, List.setIfInBounds_toArray, List.set_cons_zero, List.set_cons_succ]
          refine wpAnyH_done (by kernel_rfl) ?_ _
          clear hHeldz
          go_wp2_with fail
          go_meet
          exact FM.out
    · skip
      go_simp
      obtain ⟨q1, hq1⟩ : ∃ q, q = (y2.alloc (.cells (madeCells #[nilS] n) 24)).drew := ⟨_, rfl⟩
      have hc1 : Since y2 q1 := by rw [hq1]; exact ((Since.refl _).alloc _).drew
      have hz1 : y2.heap.size + 1 ≤ q1.heap.size := by rw [hq1]; simp
      have R1 : Hid (q1.ownsRow y2.heap.size 24 1 (.slice (some ⟨y2.heap.size, 0, none⟩) n n) n (List.replicate n nilS)) := by
        rw [hq1]; exact row_since (mkI_own y2.heap.size y2 n (Nat.le_refl _) hNm) (Since.refl _).drew
      have hgi : y2.heap.size ≤ y2.heap.size := Nat.le_refl _
      rw [← hq1]
      clear hq1
      refine hK.out _ _ (HKC.out _ hc1) (fun hHeld1 => ?_)
      clear hK K hHeld
      try simp only [Act.put, List.setIfInBounds_toArray, List.set_cons_zero, List.set_cons_succ]
      refine take_two 3 12 rfl rfl (by kernel_rfl) (by rfl) (by rfl) (fun K hK => ?_) (fun K hK => ?_)
      · skip
        go_simp
        refine (HFS.out st _ hc1 hst1).mono ?_
        rintro en q2 ⟨rfl, hs2⟩
        rw [← HFE.out]
        have hc2 := Since.trans hc1 hs2
        have hz2 := hs2.size
        have R2 := Lib.hid (row_since R1.out hs2)
        refine hK.out _ _ (HKC.out _ hc2) (fun hHeld2 => ?_)
        clear hK K hHeld1
        try simp only [Act.put, List.setIfInBounds_toArray, List.set_cons_zero, List.set_cons_succ]
        refine take_two 6 12 rfl rfl (by kernel_rfl) (by rfl) (by rfl) (fun K hK => ?_) (fun K hK => ?_)
        · skip
          go_simp
          refine (copiedBo_any _ A.ac _ (HAC.out.since (HSY.out.trans hc2)) hn9).mono ?_
          rintro en q3 ⟨vb3, rfl, ho3, hs3⟩
          have hc3 := Since.trans hc2 hs3
          have hz3 := hs3.size
          obtain ⟨bvo, bvc, rfl⟩ := OwnBo.len ho3
          rw [← HN.out] at ho3 ⊢
          have R3 := Lib.hid (row_since R2.out hs3)
          have B3 : Hid (OwnBo y2.heap.size q3 (.slice bvo n bvc) A.ac) := row_mono ho3 (hc2).size
          clear ho3
          refine hK.out _ _ (HKC.out _ hc3) (fun hHeld3 => ?_)
          clear hK K hHeld2
          try simp only [Act.put, List.setIfInBounds_toArray, List.set_cons_zero, List.set_cons_succ]
          refine take_yes 11 (some 24) (v := ?_) rfl (by kernel_rfl) (by kernel_rfl) (by kernel_rfl) (by kernel_rfl) (fun _ _ _ h => h) (by rfl) (by assumption) ?_ ?_
          rotate_left
          · (intro w' hSw; (try dsimp only at hSw); go_simp; try with_reducible rfl)
          try simp only [Act.put, List.setIfInBounds_toArray, List.set_cons_zero, List.set_cons_succ]
          refine take_run 12 rfl (by kernel_rfl) (by rfl) (fun K hK => ?_)
          go_simp
          obtain ⟨q4, hq4⟩ : ∃ q, q = (q3).alloc (.cells #[.int .i64 0, .slice none 0 0, .slice none 0 0] 39) := ⟨_, rfl⟩
          have hs4 : Since (q3) q4 := by rw [hq4]; exact (Since.refl _).alloc _
          have hz4 : q3.heap.size + 1 ≤ q4.heap.size := by rw [hq4]; simp
          have B4 := Lib.hid (B3.out.since hs4)
          have R4 := Lib.hid (row_since R3.out hs4)
          have X4 : Hid (Blk q4 q3.heap.size 39 #[.int .i64 0, .slice none 0 0, .slice none 0 0]) := by rw [hq4]; exact Blk.new rfl _ _
          have hga : y2.heap.size ≤ q3.heap.size := (hc3).size
          have hc4 := Since.trans hc3 hs4
          rw [← hq4]
          clear hq4
          refine hK.out _ _ (HKC.out _ hc4) (fun hHeld4 => ?_)
          clear hK K hHeld3
          try simp only [Act.put, List.setIfInBounds_toArray, List.set_cons_zero, List.set_cons_succ]
          refine take_run 13 rfl (by kernel_rfl) (by rfl) (fun K hK => ?_)
          obtain ⟨⟨s0, s1, s2⟩, s5, s6, s7⟩ := X4.out.threeA
          go_simp
          clear s0 s1 s2 s5 s6 s7
          obtain ⟨qz, hqz⟩ : ∃ q, q = (((q4).setCell ⟨q3.heap.size, 0, none⟩ (.int .i64 F)).setCell ⟨q3.heap.size, 1, none⟩ (.slice bvo n bvc)).setCell ⟨q3.heap.size, 2, none⟩ (.slice (some ⟨y2.heap.size, 0, none⟩) n n) := ⟨_, rfl⟩
          have FM : Hid (MrgA0 y2 qz (.pointer (some ⟨q3.heap.size, 0, none⟩)) F A.ac n) := by rw [hqz]; exact mrgA0_set B4.out R4.out X4.out hc4 hgi hga (by omega)
          have hcf : Since y2 qz := FM.out.sin
          rw [← hqz]
          clear hqz
          refine hK.out _ _ (HKC.out _ hcf) (fun hHeldz => ?_)
          clear hK K hHeld4
          try simp only [Act.put, List.setIfInBounds_toArray, List.set_cons_zero, List.set_cons_succ]
          refine wpAnyH_done (by kernel_rfl) ?_ _
          clear hHeldz
          go_wp2_with fail
          go_meet
          exact FM.out
        · skip
          go_simp
          obtain ⟨q3, hq3⟩ : ∃ q, q = (q2).alloc (.cells #[.int .i64 0, .slice none 0 0, .slice none 0 0] 39) := ⟨_, rfl⟩
          have hs3 : Since (q2) q3 := by rw [hq3]; exact (Since.refl _).alloc _
          have hz3 : q2.heap.size + 1 ≤ q3.heap.size := by rw [hq3]; simp
          have R3 := Lib.hid (row_since R2.out hs3)
          have X3 : Hid (Blk q3 q2.heap.size 39 #[.int .i64 0, .slice none 0 0, .slice none 0 0]) := by rw [hq3]; exact Blk.new rfl _ _
          have hga : y2.heap.size ≤ q2.heap.size := (hc2).size
          have hc3 := Since.trans hc2 hs3
          rw [← hq3]
          clear hq3
          refine hK.out _ _ (HKC.out _ hc3) (fun hHeld3 => ?_)
          clear hK K hHeld2
          try simp only [Act.put, List.setIfInBounds_toArray, List.set_cons_zero, List.set_cons_succ]
          refine take_run 6 rfl (by kernel_rfl) (by rfl) (fun K hK => ?_)
          go_simp
          refine (copiedBo_any _ A.ac _ (HAC.out.since (HSY.out.trans hc3)) hn9).mono ?_
          rintro en q4 ⟨vb4, rfl, ho4, hs4⟩
          have hc4 := Since.trans hc3 hs4
          have hz4 := hs4.size
          obtain ⟨bvo, bvc, rfl⟩ := OwnBo.len ho4
          rw [← HN.out] at ho4 ⊢
          have R4 := Lib.hid (row_since R3.out hs4)
          have X4 := Lib.hid (X3.out.since hs4)
          have B4 : Hid (OwnBo y2.heap.size q4 (.slice bvo n bvc) A.ac) := row_mono ho4 (hc3).size
          clear ho4
          refine hK.out _ _ (HKC.out _ hc4) (fun hHeld4 => ?_)
          clear hK K hHeld3
          try simp only [Act.put, List.setIfInBounds_toArray, List.set_cons_zero, List.set_cons_succ]
          refine take_yes 11 (some 24) (v := ?_) rfl (by kernel_rfl) (by kernel_rfl) (by kernel_rfl) (by kernel_rfl) (fun _ _ _ h => h) (by rfl) (by assumption) ?_ ?_
          rotate_left
          · (intro w' hSw; (try dsimp only at hSw); go_simp; try with_reducible rfl)
          try simp only [Act.put, List.setIfInBounds_toArray, List.set_cons_zero, List.set_cons_succ]
          refine take_run 13 rfl (by kernel_rfl) (by rfl) (fun K hK => ?_)
          obtain ⟨⟨s0, s1, s2⟩, s5, s6, s7⟩ := X4.out.threeA
          go_simp
          clear s0 s1 s2 s5 s6 s7
          obtain ⟨qz, hqz⟩ : ∃ q, q = (((q4).setCell ⟨q2.heap.size, 0, none⟩ (.int .i64 F)).setCell ⟨q2.heap.size, 1, none⟩ (.slice bvo n bvc)).setCell ⟨q2.heap.size, 2, none⟩ (.slice (some ⟨y2.heap.size, 0, none⟩) n n) := ⟨_, rfl⟩
          have FM : Hid (MrgA0 y2 qz (.pointer (some ⟨q2.heap.size, 0, none⟩)) F A.ac n) := by rw [hqz]; exact mrgA0_set B4.out R4.out X4.out hc4 hgi hga (by omega)
          have hcf : Since y2 qz := FM.out.sin
          rw [← hqz]
          clear hqz
          refine hK.out _ _ (HKC.out _ hcf) (fun hHeldz => ?_)
          clear hK K hHeld4
          try simp only [Act.put, List.setIfInBounds_toArray, List.set_cons_zero, List.set_cons_succ]
          refine wpAnyH_done (by kernel_rfl) ?_ _
          clear hHeldz
          go_wp2_with fail
          go_meet
          exact FM.out
      · skip
        go_simp
        obtain ⟨q2, hq2⟩ : ∃ q, q = (q1).alloc (.cells #[.int .i64 0, .slice none 0 0, .slice none 0 0] 39) := ⟨_, rfl⟩
        have hs2 : Since (q1) q2 := by rw [hq2]; exact (Since.refl _).alloc _
        have hz2 : q1.heap.size + 1 ≤ q2.heap.size := by rw [hq2]; simp
        have R2 := Lib.hid (row_since R1.out hs2)
        have X2 : Hid (Blk q2 q1.heap.size 39 #[.int .i64 0, .slice none 0 0, .slice none 0 0]) := by rw [hq2]; exact Blk.new rfl _ _
        have hga : y2.heap.size ≤ q1.heap.size := (hc1).size
        have hc2 := Since.trans hc1 hs2
        rw [← hq2]
        clear hq2
        refine hK.out _ _ (HKC.out _ hc2) (fun hHeld2 => ?_)
        clear hK K hHeld1
        try simp only [Act.put, List.setIfInBounds_toArray, List.set_cons_zero, List.set_cons_succ]
        refine take_run 3 rfl (by kernel_rfl) (by rfl) (fun K hK => ?_)
        go_simp
        refine (HFS.out st _ hc2 hst1).mono ?_
        rintro en q3 ⟨rfl, hs3⟩
        rw [← HFE.out]
        have hc3 := Since.trans hc2 hs3
        have hz3 := hs3.size
        have R3 := Lib.hid (row_since R2.out hs3)
        have X3 := Lib.hid (X2.out.since hs3)
        refine hK.out _ _ (HKC.out _ hc3) (fun hHeld3 => ?_)
        clear hK K hHeld2
        try simp only [Act.put, List.setIfInBounds_toArray, List.set_cons_zero, List.set_cons_succ]
        refine take_run 6 rfl (by kernel_rfl) (by rfl) (fun K hK => ?_)
        go_simp
        refine (copiedBo_any _ A.ac _ (HAC.out.since (HSY.out.trans hc3)) hn9).mono ?_
        rintro en q4 ⟨vb4, rfl, ho4, hs4⟩
        have hc4 := Since.trans hc3 hs4
        have hz4 := hs4.size
        obtain ⟨bvo, bvc, rfl⟩ := OwnBo.len ho4
        rw [← HN.out] at ho4 ⊢
        have R4 := Lib.hid (row_since R3.out hs4)
        have X4 := Lib.hid (X3.out.since hs4)
        have B4 : Hid (OwnBo y2.heap.size q4 (.slice bvo n bvc) A.ac) := row_mono ho4 (hc3).size
        clear ho4
        refine hK.out _ _ (HKC.out _ hc4) (fun hHeld4 => ?_)
        clear hK K hHeld3
        try simp only [Act.put, List.setIfInBounds_toArray, List.set_cons_zero, List.set_cons_succ]
        refine take_yes 11 (some 24) (v := ?_) rfl (by kernel_rfl) (by kernel_rfl) (by kernel_rfl) (by kernel_rfl) (fun _ _ _ h => h) (by rfl) (by assumption) ?_ ?_
        rotate_left
        · (intro w' hSw; (try dsimp only at hSw); go_simp; try with_reducible rfl)
        try simp only [Act.put, List.setIfInBounds_toArray, List.set_cons_zero, List.set_cons_succ]
        refine take_run 13 rfl (by kernel_rfl) (by rfl) (fun K hK => ?_)
        obtain ⟨⟨s0, s1, s2⟩, s5, s6, s7⟩ := X4.out.threeA
        go_simp
        clear s0 s1 s2 s5 s6 s7
        obtain ⟨qz, hqz⟩ : ∃ q, q = (((q4).setCell ⟨q1.heap.size, 0, none⟩ (.int .i64 F)).setCell ⟨q1.heap.size, 1, none⟩ (.slice bvo n bvc)).setCell ⟨q1.heap.size, 2, none⟩ (.slice (some ⟨y2.heap.size, 0, none⟩) n n) := ⟨_, rfl⟩
        have FM : Hid (MrgA0 y2 qz (.pointer (some ⟨q1.heap.size, 0, none⟩)) F A.ac n) := by rw [hqz]; exact mrgA0_set B4.out R4.out X4.out hc4 hgi hga (by omega)
        have hcf : Since y2 qz := FM.out.sin
        rw [← hqz]
        clear hqz
        refine hK.out _ _ (HKC.out _ hcf) (fun hHeldz => ?_)
        clear hK K hHeld4
        try simp only [Act.put, List.setIfInBounds_toArray, List.set_cons_zero, List.set_cons_succ]
        refine wpAnyH_done (by kernel_rfl) ?_ _
        clear hHeldz
        go_wp2_with fail
        go_meet
        exact FM.out
    · skip
      go_simp
      obtain ⟨q1, hq1⟩ : ∃ q, q = (y2.alloc (.cells #[.int .i64 0, .slice none 0 0, .slice none 0 0] 39)).drew := ⟨_, rfl⟩
      have hc1 : Since y2 q1 := by rw [hq1]; exact ((Since.refl _).alloc _).drew
      have hz1 : y2.heap.size + 1 ≤ q1.heap.size := by rw [hq1]; simp
      have X1 : Hid (Blk q1 y2.heap.size 39 #[.int .i64 0, .slice none 0 0, .slice none 0 0]) := by rw [hq1]; exact Blk.drew (Blk.new rfl _ _)
      have hga : y2.heap.size ≤ y2.heap.size := Nat.le_refl _
      rw [← hq1]
      clear hq1
      refine hK.out _ _ (HKC.out _ hc1) (fun hHeld1 => ?_)
      clear hK K hHeld
      try simp only [Act.put, List.setIfInBounds_toArray, List.set_cons_zero, List.set_cons_succ]
      refine take_two 3 10 rfl rfl (by kernel_rfl) (by rfl) (by rfl) (fun K hK => ?_) (fun K hK => ?_)
      · skip
        go_simp
        refine (HFS.out st _ hc1 hst1).mono ?_
        rintro en q2 ⟨rfl, hs2⟩
        rw [← HFE.out]
        have hc2 := Since.trans hc1 hs2
        have hz2 := hs2.size
        have X2 := Lib.hid (X1.out.since hs2)
        refine hK.out _ _ (HKC.out _ hc2) (fun hHeld2 => ?_)
        clear hK K hHeld1
        try simp only [Act.put, List.setIfInBounds_toArray, List.set_cons_zero, List.set_cons_succ]
        refine take_two 6 10 rfl rfl (by kernel_rfl) (by rfl) (by rfl) (fun K hK => ?_) (fun K hK => ?_)
        · skip
          go_simp
          refine (copiedBo_any _ A.ac _ (HAC.out.since (HSY.out.trans hc2)) hn9).mono ?_
          rintro en q3 ⟨vb3, rfl, ho3, hs3⟩
          have hc3 := Since.trans hc2 hs3
          have hz3 := hs3.size
          obtain ⟨bvo, bvc, rfl⟩ := OwnBo.len ho3
          rw [← HN.out] at ho3 ⊢
          have X3 := Lib.hid (X2.out.since hs3)
          have B3 : Hid (OwnBo y2.heap.size q3 (.slice bvo n bvc) A.ac) := row_mono ho3 (hc2).size
          clear ho3
          refine hK.out _ _ (HKC.out _ hc3) (fun hHeld3 => ?_)
          clear hK K hHeld2
          try simp only [Act.put, List.setIfInBounds_toArray, List.set_cons_zero, List.set_cons_succ]
          refine take_run 10 rfl (by kernel_rfl) (by rfl) (fun K hK => ?_)
          go_simp
          obtain ⟨q4, hq4⟩ : ∃ q, q = (q3).alloc (.cells (madeCells #[nilS] n) 24) := ⟨_, rfl⟩
          have hs4 : Since (q3) q4 := by rw [hq4]; exact (Since.refl _).alloc _
          have hz4 : q3.heap.size + 1 ≤ q4.heap.size := by rw [hq4]; simp
          have B4 := Lib.hid (B3.out.since hs4)
          have X4 := Lib.hid (X3.out.since hs4)
          have R4 : Hid (q4.ownsRow y2.heap.size 24 1 (.slice (some ⟨q3.heap.size, 0, none⟩) n n) n (List.replicate n nilS)) := by
            rw [hq4]; exact mkI_own y2.heap.size (q3) n (hc3).size hNm
          have hgi : y2.heap.size ≤ q3.heap.size := (hc3).size
          have hc4 := Since.trans hc3 hs4
          rw [← hq4]
          clear hq4
          refine hK.out _ _ (HKC.out _ hc4) (fun hHeld4 => ?_)
          clear hK K hHeld3
          try simp only [Act.put, List.setIfInBounds_toArray, List.set_cons_zero, List.set_cons_succ]
          refine take_yes 11 (some 24) (v := ?_) rfl (by kernel_rfl) (by kernel_rfl) (by kernel_rfl) (by kernel_rfl) (fun _ _ _ h => h) (by rfl) (by assumption) ?_ ?_
          rotate_left
          · (intro w' hSw; (try dsimp only at hSw); go_simp; try with_reducible rfl)
          try simp only [Act.put, List.setIfInBounds_toArray, List.set_cons_zero, List.set_cons_succ]
          refine take_run 13 rfl (by kernel_rfl) (by rfl) (fun K hK => ?_)
          obtain ⟨⟨s0, s1, s2⟩, s5, s6, s7⟩ := X4.out.threeA
          go_simp
          clear s0 s1 s2 s5 s6 s7
          obtain ⟨qz, hqz⟩ : ∃ q, q = (((q4).setCell ⟨y2.heap.size, 0, none⟩ (.int .i64 F)).setCell ⟨y2.heap.size, 1, none⟩ (.slice bvo n bvc)).setCell ⟨y2.heap.size, 2, none⟩ (.slice (some ⟨q3.heap.size, 0, none⟩) n n) := ⟨_, rfl⟩
          have FM : Hid (MrgA0 y2 qz (.pointer (some ⟨y2.heap.size, 0, none⟩)) F A.ac n) := by rw [hqz]; exact mrgA0_set B4.out R4.out X4.out hc4 hgi hga (by omega)
          have hcf : Since y2 qz := FM.out.sin
          rw [← hqz]
          clear hqz
          refine hK.out _ _ (HKC.out _ hcf) (fun hHeldz => ?_)
          clear hK K hHeld4
          try simp only [Act.put, List.setIfInBounds_toArray, List.set_cons_zero, List.set_cons_succ]
          refine wpAnyH_done (by kernel_rfl) ?_ _
          clear hHeldz
          go_wp2_with fail
          go_meet
          exact FM.out
        · skip
          go_simp
          obtain ⟨q3, hq3⟩ : ∃ q, q = (q2).alloc (.cells (madeCells #[nilS] n) 24) := ⟨_, rfl⟩
          have hs3 : Since (q2) q3 := by rw [hq3]; exact (Since.refl _).alloc _
          have hz3 : q2.heap.size + 1 ≤ q3.heap.size := by rw [hq3]; simp
          have X3 := Lib.hid (X2.out.since hs3)
          have R3 : Hid (q3.ownsRow y2.heap.size 24 1 (.slice (some ⟨q2.heap.size, 0, none⟩) n n) n (List.replicate n nilS)) := by
            rw [hq3]; exact mkI_own y2.heap.size (q2) n (hc2).size hNm
          have hgi : y2.heap.size ≤ q2.heap.size := (hc2).size
          have hc3 := Since.trans hc2 hs3
          rw [← hq3]
          clear hq3
          refine hK.out _ _ (HKC.out _ hc3) (fun hHeld3 => ?_)
          clear hK K hHeld2
          try simp only [Act.put, List.setIfInBounds_toArray, List.set_cons_zero, List.set_cons_succ]
          refine take_run 6 rfl (by kernel_rfl) (by rfl) (fun K hK => ?_)
          go_simp
          refine (copiedBo_any _ A.ac _ (HAC.out.since (HSY.out.trans hc3)) hn9).mono ?_
          rintro en q4 ⟨vb4, rfl, ho4, hs4⟩
          have hc4 := Since.trans hc3 hs4
          have hz4 := hs4.size
          obtain ⟨bvo, bvc, rfl⟩ := OwnBo.len ho4
          rw [← HN.out] at ho4 ⊢
          have R4 := Lib.hid (row_since R3.out hs4)
          have X4 := Lib.hid (X3.out.since hs4)
          have B4 : Hid (OwnBo y2.heap.size q4 (.slice bvo n bvc) A.ac) := row_mono ho4 (hc3).size
          clear ho4
          refine hK.out _ _ (HKC.out _ hc4) (fun hHeld4 => ?_)
          clear hK K hHeld3
          try simp only [Act.put, List.setIfInBounds_toArray, List.set_cons_zero, List.set_cons_succ]
          refine take_yes 11 (some 24) (v := ?_) rfl (by kernel_rfl) (by kernel_rfl) (by kernel_rfl) (by kernel_rfl) (fun _ _ _ h => h) (by rfl) (by assumption) ?_ ?_
          rotate_left
          · (intro w' hSw; (try dsimp only at hSw); go_simp; try with_reducible rfl)
          try simp only [Act.put, List.setIfInBounds_toArray, List.set_cons_zero, List.set_cons_succ]
          refine take_run 13 rfl (by kernel_rfl) (by rfl) (fun K hK => ?_)
          obtain ⟨⟨s0, s1, s2⟩, s5, s6, s7⟩ := X4.out.threeA
          go_simp
          clear s0 s1 s2 s5 s6 s7
          obtain ⟨qz, hqz⟩ : ∃ q, q = (((q4).setCell ⟨y2.heap.size, 0, none⟩ (.int .i64 F)).setCell ⟨y2.heap.size, 1, none⟩ (.slice bvo n bvc)).setCell ⟨y2.heap.size, 2, none⟩ (.slice (some ⟨q2.heap.size, 0, none⟩) n n) := ⟨_, rfl⟩
          have FM : Hid (MrgA0 y2 qz (.pointer (some ⟨y2.heap.size, 0, none⟩)) F A.ac n) := by rw [hqz]; exact mrgA0_set B4.out R4.out X4.out hc4 hgi hga (by omega)
          have hcf : Since y2 qz := FM.out.sin
          rw [← hqz]
          clear hqz
          refine hK.out _ _ (HKC.out _ hcf) (fun hHeldz => ?_)
          clear hK K hHeld4
          try simp only [Act.put, List.setIfInBounds_toArray, List.set_cons_zero, List.set_cons_succ]
          refine wpAnyH_done (by kernel_rfl) ?_ _
          clear hHeldz
          go_wp2_with fail
          go_meet
          exact FM.out
      · skip
        go_simp
        obtain ⟨q2, hq2⟩ : ∃ q, q = (q1).alloc (.cells (madeCells #[nilS] n) 24) := ⟨_, rfl⟩
        have hs2 : Since (q1) q2 := by rw [hq2]; exact (Since.refl _).alloc _
        have hz2 : q1.heap.size + 1 ≤ q2.heap.size := by rw [hq2]; simp
        have X2 := Lib.hid (X1.out.since hs2)
        have R2 : Hid (q2.ownsRow y2.heap.size 24 1 (.slice (some ⟨q1.heap.size, 0, none⟩) n n) n (List.replicate n nilS)) := by
          rw [hq2]; exact mkI_own y2.heap.size (q1) n (hc1).size hNm
        have hgi : y2.heap.size ≤ q1.heap.size := (hc1).size
        have hc2 := Since.trans hc1 hs2
        rw [← hq2]
        clear hq2
        refine hK.out _ _ (HKC.out _ hc2) (fun hHeld2 => ?_)
        clear hK K hHeld1
        try simp only [Act.put, List.setIfInBounds_toArray, List.set_cons_zero, List.set_cons_succ]
        refine take_run 3 rfl (by kernel_rfl) (by rfl) (fun K hK => ?_)
        go_simp
        refine (HFS.out st _ hc2 hst1).mono ?_
        rintro en q3 ⟨rfl, hs3⟩
        rw [← HFE.out]
        have hc3 := Since.trans hc2 hs3
        have hz3 := hs3.size
        have R3 := Lib.hid (row_since R2.out hs3)
        have X3 := Lib.hid (X2.out.since hs3)
        refine hK.out _ _ (HKC.out _ hc3) (fun hHeld3 => ?_)
        clear hK K hHeld2
        try simp only [Act.put, List.setIfInBounds_toArray, List.set_cons_zero, List.set_cons_succ]
        refine take_run 6 rfl (by kernel_rfl) (by rfl) (fun K hK => ?_)
        go_simp
        refine (copiedBo_any _ A.ac _ (HAC.out.since (HSY.out.trans hc3)) hn9).mono ?_
        rintro en q4 ⟨vb4, rfl, ho4, hs4⟩
        have hc4 := Since.trans hc3 hs4
        have hz4 := hs4.size
        obtain ⟨bvo, bvc, rfl⟩ := OwnBo.len ho4
        rw [← HN.out] at ho4 ⊢
        have R4 := Lib.hid (row_since R3.out hs4)
        have X4 := Lib.hid (X3.out.since hs4)
        have B4 : Hid (OwnBo y2.heap.size q4 (.slice bvo n bvc) A.ac) := row_mono ho4 (hc3).size
        clear ho4
        refine hK.out _ _ (HKC.out _ hc4) (fun hHeld4 => ?_)
        clear hK K hHeld3
        try simp only [Act.put, List.setIfInBounds_toArray, List.set_cons_zero, List.set_cons_succ]
        refine take_yes 11 (some 24) (v := ?_) rfl (by kernel_rfl) (by kernel_rfl) (by kernel_rfl) (by kernel_rfl) (fun _ _ _ h => h) (by rfl) (by assumption) ?_ ?_
        rotate_left
        · (intro w' hSw; (try dsimp only at hSw); go_simp; try with_reducible rfl)
        try simp only [Act.put, List.setIfInBounds_toArray, List.set_cons_zero, List.set_cons_succ]
        refine take_run 13 rfl (by kernel_rfl) (by rfl) (fun K hK => ?_)
        obtain ⟨⟨s0, s1, s2⟩, s5, s6, s7⟩ := X4.out.threeA
        go_simp
        clear s0 s1 s2 s5 s6 s7
        obtain ⟨qz, hqz⟩ : ∃ q, q = (((q4).setCell ⟨y2.heap.size, 0, none⟩ (.int .i64 F)).setCell ⟨y2.heap.size, 1, none⟩ (.slice bvo n bvc)).setCell ⟨y2.heap.size, 2, none⟩ (.slice (some ⟨q1.heap.size, 0, none⟩) n n) := ⟨_, rfl⟩
        have FM : Hid (MrgA0 y2 qz (.pointer (some ⟨y2.heap.size, 0, none⟩)) F A.ac n) := by rw [hqz]; exact mrgA0_set B4.out R4.out X4.out hc4 hgi hga (by omega)
        have hcf : Since y2 qz := FM.out.sin
        rw [← hqz]
        clear hqz
        refine hK.out _ _ (HKC.out _ hcf) (fun hHeldz => ?_)
        clear hK K hHeld4
        try simp only [Act.put, List.setIfInBounds_toArray, List.set_cons_zero, List.set_cons_succ]
        refine wpAnyH_done (by kernel_rfl) ?_ _
        clear hHeldz
        go_wp2_with fail
        go_meet
        exact FM.out
  case rest =>
    obtain ⟨wx, hwx⟩ : ∃ W, W = wc := ⟨_, rfl⟩
    subst hwx
    obtain ⟨bvo, bvc, gi, ga, hpp, hM⟩ := hcut
    subst hpp
    have HM0 : Hid (MgW y2 (.slice bvo n bvc) gi ga n F A.ac 0 (rowsM A.nx cls 0) wx) := ⟨hM.lo, hM.ne, hM.ob, FillM.zero hM.ro (fun i hi h => by omega), hM.bx, hM.sc⟩
    obtain ⟨⟨p0, p1, p2⟩, _⟩ := (C0.out.since hM.sc).threeA
    clear hM
    go_wp2
    clear p0 p1 p2
    go_loopw [28] (fun i wr => ∃ k : Nat, k ≤ n ∧ i = .int .i64 k ∧ Hid (MgW y2 (.slice bvo n bvc) gi ga n F A.ac k (rowsM A.nx cls k) wr)) (fun i _ => n - (intOf i).toNat)
    case atStart => exact ⟨0, Nat.zero_le _, rfl, HM0.out⟩
    case round =>
      clear HM0
      obtain ⟨k, hk, rfl, HW⟩ := hrel
      by_cases hlt : k < n
      · have hki : (k : Int) < (n : Int) := by omega
        have hk0 : (0 : Int) ≤ (k : Int) := by omega
        have hkx : k < A.nx.length := by rw [← HM.out]; exact hlt
        obtain ⟨b1, off1, b2, off2, c2, rfl, hb1, hcell1, hb2, hrow, hcs⟩ := next_row HV.out HC k hkx
        have HSW := Lib.hid (HSY.out.trans HW.out.sc)
        have d1 := (Below.cell HSW.out (p := ⟨b1, off1 + k, none⟩) hb1).trans hcell1
        have HRO := Lib.hid (HV.out.row k hkx)
        have HRK : Hid (∃ h : k < (rowsM A.nx cls k).length, (rowsM A.nx cls k)[k] = A.nx[k]) := ⟨by rw [rowsM_length]; exact hkx, by rw [rowsM_at, if_neg (by omega)]⟩
        have HJ0 : Hid (rowsJ A.nx cls k 0 = rowsM A.nx cls k) := rowsJ_zero A.nx cls k hkx
        have HJ9 : Hid (rowsJ A.nx cls k 9 = rowsM A.nx cls (k + 1)) := rowsJ_all A.nx cls k hkx HRO.out.1
        have HJK : Hid (∃ h : k < (rowsJ A.nx cls k 0).length, ∀ j, (rowsJ A.nx cls k j)[k]'(by rw [rowsJ_length]; exact hkx) = mixR cls A.nx[k] j) := ⟨by rw [rowsJ_length]; exact hkx, fun j => rowsJ_at A.nx cls k j hkx⟩
        have HJS : Hid (∀ j y, y = mixR cls A.nx[k] (j + 1) → (rowsJ A.nx cls k j).set k y = rowsJ A.nx cls k (j + 1)) := fun j y hy => rowsJ_step A.nx cls k j hkx y hy
        have HJP : Hid (∀ j, mixR cls A.nx[k] j = mixR cls A.nx[k] (j + 1) → rowsJ A.nx cls k j = rowsJ A.nx cls k (j + 1)) := fun j e => by unfold rowsJ; rw [show A.nx[k]?.getD [] = A.nx[k] by simp [hkx], e]
        obtain ⟨r, hr⟩ : ∃ r, r = A.nx[k] := ⟨_, rfl⟩
        rw [← hr] at hrow HRO
        have hcs2 : ∀ j (hj : j < r.length), w.cell? ⟨b2, off2 + j, none⟩ = some (.int .i64 r[j]) := by subst hr; exact hcs
        have HCS := Lib.hid hcs2
        have HRW := Lib.hid hrow
        have HRK2 : Hid (∃ h : k < (rowsM A.nx cls k).length, (rowsM A.nx cls k)[k] = r) := by rw [hr]; exact HRK.out
        have HJK2 : Hid (∀ j, ∃ h : k < (rowsJ A.nx cls k j).length, (rowsJ A.nx cls k j)[k] = mixR cls r j) := fun j => ⟨by rw [rowsJ_length]; exact hkx, by rw [hr]; exact HJK.out.2 j⟩
        have HJS2 : Hid (∀ j y, y = mixR cls r (j + 1) → (rowsJ A.nx cls k j).set k y = rowsJ A.nx cls k (j + 1)) := by rw [hr]; exact HJS.out
        have HJP2 : Hid (∀ j, mixR cls r j = mixR cls r (j + 1) → rowsJ A.nx cls k j = rowsJ A.nx cls k (j + 1)) := by rw [hr]; exact HJP.out
        have HL9 : Hid (r.length = 9) := HRO.out.1
        have HKD : Hid (∀ w', Since wr w' → w'.cell? ⟨ga, 2, none⟩ = some (.slice (some ⟨gi, 0, none⟩) n n)) := fun w' hs => by
          obtain ⟨⟨r0, r1, r2⟩, _⟩ := (HW.out.since hs).bx.threeA
          exact r2
        have HCF : Hid (∀ w', Since wr w' → (∃ u, w'.cell? ⟨gi, k, none⟩ = some u) ∧ w'.frozen? ⟨gi, k, none⟩ = false) := fun w' hs => (HW.out.since hs).rw.cells hlt
        clear hr hcs hcs2 hrow hkx HRK HJK HJS HJP hcell1
        go_upto_region 7 with fail
        clear d1
        go_wp2_with fail
        refine wp_region_held_drew (S := (fun w' => w'.cell? ⟨ga, 2, none⟩ = some (.slice (some ⟨gi, 0, none⟩) n n))) (by kernel_rfl) (HKD.out _ (Since.refl _).drew) (fun hHeld => ?_)
        refine take_yes 0 (some 33) (v := ?_) rfl (by kernel_rfl) (by kernel_rfl) (by kernel_rfl) (by kernel_rfl) (fun _ _ _ h => h) (by rfl) (by assumption) ?_ ?_
        rotate_left
        · (intro w' hSw; (try dsimp only at hSw); go_simp; try with_reducible rfl)
        try simp only [Act.put, List.setIfInBounds_toArray, List.set_cons_zero, List.set_cons_succ]
        refine take_yes 1 (some 34) (v := ?_) rfl (by kernel_rfl) (by kernel_rfl) (by kernel_rfl) (by kernel_rfl) (fun _ _ _ h => h) (by rfl) (by assumption) ?_ ?_
        rotate_left
        · (intro w' hSw; (try dsimp only at hSw); go_simp; try with_reducible rfl)
        try simp only [Act.put, List.setIfInBounds_toArray, List.set_cons_zero, List.set_cons_succ]
        refine take_yes 2 (some 35) (v := ?_) rfl (by kernel_rfl) (by kernel_rfl) (by kernel_rfl) (by kernel_rfl) (fun _ _ _ h => h) (by rfl) (by assumption) ?_ ?_
        rotate_left
        · (intro w' hSw; (try dsimp only at hSw); go_simp; try with_reducible rfl)
        try simp only [Act.put, List.setIfInBounds_toArray, List.set_cons_zero, List.set_cons_succ]
        refine take_yes 3 (some 36) (v := ?_) rfl (by kernel_rfl) (by kernel_rfl) (by kernel_rfl) (by kernel_rfl) (fun _ _ _ h => h) (by rfl) (by assumption) ?_ ?_
        rotate_left
        · (intro w' hSw; (try dsimp only at hSw); go_simp; try with_reducible rfl)
        try simp only [Act.put, List.setIfInBounds_toArray, List.set_cons_zero, List.set_cons_succ]
        refine take_run 4 rfl (by kernel_rfl) (by rfl) (fun K hK => ?_)
        go_simp
        refine (copiedI_any _ r _ (HRW.out.since (HSW.out.trans (Since.refl _).drew)) (by rw [HL9.out]; omega)).mono ?_
        rintro e w4 ⟨v4, rfl, ho4, hs4⟩
        have hc4 := Since.of_drew hs4
        obtain ⟨vo, vc, rfl⟩ := ho4.len
        rw [HL9.out] at ho4 ⊢
        have HO4 : Hid (Own wr.heap.size w4 (.slice vo 9 vc) r) := ho4
        clear ho4
        refine hK.out _ _ (HKD.out _ hc4) (fun hHeld2 => ?_)
        clear hK K hHeld
        try simp only [Act.put, List.setIfInBounds_toArray, List.set_cons_zero, List.set_cons_succ]
        refine take_yes 5 (some 38) (v := ?_) rfl (by kernel_rfl) (by kernel_rfl) (by kernel_rfl) (by kernel_rfl) (fun _ _ _ h => h) (by rfl) (by assumption) ?_ ?_
        rotate_left
        · (intro w' hSw; (try dsimp only at hSw); go_simp; try with_reducible rfl)
        try simp only [Act.put, List.setIfInBounds_toArray, List.set_cons_zero, List.set_cons_succ]
        refine take_run 6 rfl (by kernel_rfl) (by rfl) (fun K hK => ?_)
        obtain ⟨⟨u4, c4⟩, f4⟩ := HCF.out _ hc4
        go_simp
        have hmk := HW.out.row hlt (by rw [rowsM_length]; exact HM.out) hc4 (p := .slice vo 9 vc) (by obtain ⟨h1, h2⟩ := HRK2.out; rw [h2]; exact HO4.out)
        rw [← HJ0.out] at hmk
        obtain ⟨w5, hw5⟩ : ∃ w5, w5 = w4.setCell ⟨gi, k, none⟩ (.slice vo 9 vc) := ⟨_, rfl⟩
        rw [← hw5] at hmk ⊢
        have HM1 := Lib.hid hmk
        obtain ⟨⟨t0, t1, t2⟩, _⟩ := hmk.bx.threeA
        refine hK.out _ _ t2 (fun hHeldz => ?_)
        clear hK K hHeld2 c4 f4 hmk hw5 hc4 hs4 t0 t1 t2
        try simp only [Act.put, List.setIfInBounds_toArray, List.set_cons_zero, List.set_cons_succ]
        refine wpAnyH_done (by kernel_rfl) ?_ _
        clear hHeldz HKD HCF HW HO4
        go_wp2
        go_loopw [41] (fun i wz => ∃ j : Nat, j ≤ 9 ∧ i = .int .i64 j ∧ Hid (MgW y2 (.slice bvo n bvc) gi ga n F A.ac (k + 1) (rowsJ A.nx cls k j) wz)) (fun i _ => 9 - (intOf i).toNat)
        case atStart => exact ⟨0, Nat.zero_le _, rfl, HM1.out⟩
        case round =>
          clear HM1
          obtain ⟨j, hj, rfl, HX⟩ := hrel
          have HSX := Lib.hid (HSY.out.trans HX.out.sc)
          by_cases hjt : j < 9
          · have hji : (j : Int) < 9 := by omega
            have hj0 : (0 : Int) ≤ (j : Int) := by omega
            have hjr : j < r.length := by rw [HL9.out]; exact hjt
            have hrg := HRO.out.at j hjr
            rw [← HN.out] at hrg
            have d2 := (Below.cell HSX.out (p := ⟨b2, off2 + j, none⟩) hb2).trans (HCS.out j hjr)
            have HKP : Hid (r[j] = -1 → mixR cls r j = mixR cls r (j + 1)) := fun e => mixR_keep cls r j hjr e
            have HST : Hid (r[j] ≠ -1 → ∀ z, z = fstC cls r[j] → (mixR cls r j).set j z = mixR cls r (j + 1)) := fun e z hz => mixR_set cls r j hjr e z hz
            have HML : Hid ((mixR cls r j).length = 9) := by unfold Hid; rw [mixR_length]; exact HL9.out
            obtain ⟨q, hq⟩ : ∃ q, q = r[j] := ⟨_, rfl⟩
            rw [← hq] at d2 hrg HKP HST
            clear hq hjr
            by_cases e1 : q = -1
            · subst e1
              have hb : ((-1 : Int) != -1) = false := by decide
              have HX2 : Hid (MgW y2 (.slice bvo n bvc) gi ga n F A.ac (k + 1) (rowsJ A.nx cls k (j + 1)) wr) := by
                rw [← HJP2.out j (HKP.out rfl)]; exact HX.out
              go_wp2
              go_roundw
              case rel => exact ⟨j + 1, by omega, by go_num, HX2.out⟩
              case measure => simp [intOf]; omega
            · obtain ⟨t, rfl⟩ : ∃ t : Nat, q = t := ⟨q.toNat, by omega⟩
              have htn : t < n := by omega
              have hb : ((t : Int) != -1) = true := by simp
              have HSTT := Lib.hid (HST.out e1)
              have hfi := HFI.out t htn
              obtain ⟨hkj, hkr⟩ := HJK2.out j
              obtain ⟨g, c, x1, x2, x3, x4⟩ := HX.out.cell (r := k) (by omega) hlt hkj (by rw [hkr]; exact HML.out)
              have x3j := x3 j hjt
              have HX4 : Hid (∀ w2 z, Since wr w2 → InI z → MgW y2 (.slice bvo n bvc) gi ga n F A.ac (k + 1) ((rowsJ A.nx cls k j).set k ((mixR cls r j).set j z)) (w2.setCell ⟨g, j, none⟩ (.int .i64 z)) ∧ gi ≠ g ∧ ga ≠ g) := fun w2 z hs hz => by
                have := x4 w2 j z hs hjt hz
                rw [hkr] at this
                exact this
              have HKE : Hid (∀ w', Since wr w' → w'.cell? ⟨ga, 2, none⟩ = some (.slice (some ⟨gi, 0, none⟩) n n) ∧ w'.cell? ⟨gi, k, none⟩ = some (.slice (some ⟨g, 0, none⟩) 9 c)) := fun w' hs => by
                obtain ⟨⟨r0, r1, r2⟩, _⟩ := (HX.out.since hs).bx.threeA
                exact ⟨r2, (Below.cell hs (p := ⟨gi, k, none⟩) HX.out.gil.1).trans x1⟩
              have HGJ : Hid (∀ w', Since wr w' → (∃ u, w'.cell? ⟨g, j, none⟩ = some u) ∧ w'.frozen? ⟨g, j, none⟩ = false) := fun w' hs => ⟨⟨_, (Below.cell hs (p := ⟨g, j, none⟩) x2).trans x3j.1⟩, (Below.frozen hs (p := ⟨g, j, none⟩) x2).trans x3j.2⟩
              clear x1 x3 x4 x3j hkr hkj HST HKP e1
              go_upto_region 12 with fail
              clear d2
              go_wp2_with fail
              refine wp_region_held_drew (S := (fun w' => w'.cell? ⟨ga, 2, none⟩ = some (.slice (some ⟨gi, 0, none⟩) n n) ∧ w'.cell? ⟨gi, k, none⟩ = some (.slice (some ⟨g, 0, none⟩) 9 c))) (by kernel_rfl) (HKE.out _ (Since.refl _).drew) (fun hHeld => ?_)
              refine take_yes 0 (some 48) (v := ?_) rfl (by kernel_rfl) (by kernel_rfl) (by kernel_rfl) (by kernel_rfl) (fun _ _ _ h => h) (by rfl) (by assumption) ?_ ?_
              rotate_left
              · (intro w' hSw; (try dsimp only at hSw); go_simp; try with_reducible rfl)
              try simp only [Act.put, List.setIfInBounds_toArray, List.set_cons_zero, List.set_cons_succ]
              refine take_yes 1 (some 49) (v := ?_) rfl (by kernel_rfl) (by kernel_rfl) (by kernel_rfl) (by kernel_rfl) (fun _ _ _ h => h) (by rfl) (by assumption) ?_ ?_
              rotate_left
              · (intro w' hSw; (try dsimp only at hSw); go_simp; try with_reducible rfl)
              try simp only [Act.put, List.setIfInBounds_toArray, List.set_cons_zero, List.set_cons_succ]
              refine take_yes 2 (some 50) (v := ?_) rfl (by kernel_rfl) (by kernel_rfl) (by kernel_rfl) (by kernel_rfl) (fun _ _ _ h => h) (by rfl) (by assumption) ?_ ?_
              rotate_left
              · (intro w' hSw; (try dsimp only at hSw); go_simp; try with_reducible rfl)
              try simp only [Act.put, List.setIfInBounds_toArray, List.set_cons_zero, List.set_cons_succ]
              refine take_yes 3 (some 51) (v := ?_) rfl (by kernel_rfl) (by kernel_rfl) (by kernel_rfl) (by kernel_rfl) (fun _ _ _ h => h) (by rfl) (by assumption) ?_ ?_
              rotate_left
              · (intro w' hSw; (try dsimp only at hSw); go_simp; try with_reducible rfl)
              try simp only [Act.put, List.setIfInBounds_toArray, List.set_cons_zero, List.set_cons_succ]
              refine take_yes 4 (some 52) (v := ?_) rfl (by kernel_rfl) (by kernel_rfl) (by kernel_rfl) (by kernel_rfl) (fun _ _ _ h => h) (by rfl) (by assumption) ?_ ?_
              rotate_left
              · (intro w' hSw; (try dsimp only at hSw); go_simp; try with_reducible rfl)
              try simp only [Act.put, List.setIfInBounds_toArray, List.set_cons_zero, List.set_cons_succ]
              refine take_yes 5 (some 53) (v := ?_) rfl (by kernel_rfl) (by kernel_rfl) (by kernel_rfl) (by kernel_rfl) (fun _ _ _ h => h) (by rfl) (by assumption) ?_ ?_
              rotate_left
              · (intro w' hSw; (try dsimp only at hSw); go_simp; try with_reducible rfl)
              try simp only [Act.put, List.setIfInBounds_toArray, List.set_cons_zero, List.set_cons_succ]
              refine take_yes 6 (some 54) (v := ?_) rfl (by kernel_rfl) (by kernel_rfl) (by kernel_rfl) (by kernel_rfl) (fun _ _ _ h => h) (by rfl) (by assumption) ?_ ?_
              rotate_left
              · (intro w' hSw; (try dsimp only at hSw); go_simp; try with_reducible rfl)
              try simp only [Act.put, List.setIfInBounds_toArray, List.set_cons_zero, List.set_cons_succ]
              refine take_yes 7 (some 55) (v := ?_) rfl (by kernel_rfl) (by kernel_rfl) (by kernel_rfl) (by kernel_rfl) (fun _ _ _ h => h) (by rfl) (by assumption) ?_ ?_
              rotate_left
              · (intro w' hSw; (try dsimp only at hSw); go_simp; try with_reducible rfl)
              try simp only [Act.put, List.setIfInBounds_toArray, List.set_cons_zero, List.set_cons_succ]
              refine take_run 8 rfl (by kernel_rfl) (by rfl) (fun K hK => ?_)
              go_simp
              refine (HFS.out t _ (HX.out.sc.trans (Since.refl _).drew) htn).mono ?_
              rintro e w4 ⟨rfl, hs4⟩
              have hc4 := Since.of_drew hs4
              obtain ⟨z, hz⟩ : ∃ z, z = fstC cls (t : Int) := ⟨_, rfl⟩
              rw [← hz] at hfi ⊢
              have HZE := Lib.hid hz
              have hzi : InI z := by unfold InI; omega
              clear hz
              refine hK.out _ _ (HKE.out _ hc4) (fun hHeld2 => ?_)
              clear hK K hHeld
              try simp only [Act.put, List.setIfInBounds_toArray, List.set_cons_zero, List.set_cons_succ]
              refine take_yes 9 (some 57) (v := ?_) rfl (by kernel_rfl) (by kernel_rfl) (by kernel_rfl) (by kernel_rfl) (fun _ _ _ h => h) (by rfl) (by assumption) ?_ ?_
              rotate_left
              · (intro w' hSw; (try dsimp only at hSw); go_simp; try with_reducible rfl)
              try simp only [Act.put, List.setIfInBounds_toArray, List.set_cons_zero, List.set_cons_succ]
              refine take_run 10 rfl (by kernel_rfl) (by rfl) (fun K hK => ?_)
              obtain ⟨⟨u4, c4⟩, f4⟩ := HGJ.out _ hc4
              go_simp
              have hmk := HX4.out w4 z hc4 hzi
              obtain ⟨s1, s2⟩ := HKE.out _ hc4
              have hSz : (w4.setCell ⟨g, j, none⟩ (.int .i64 z)).cell? ⟨ga, 2, none⟩ = some (.slice (some ⟨gi, 0, none⟩) n n) ∧ (w4.setCell ⟨g, j, none⟩ (.int .i64 z)).cell? ⟨gi, k, none⟩ = some (.slice (some ⟨g, 0, none⟩) 9 c) :=
                ⟨(World.cell?_setCell_far _ _ _ _ (by show g ≠ ga; exact fun e => hmk.2.2 e.symm)).trans s1, (World.cell?_setCell_far _ _ _ _ (by show g ≠ gi; exact fun e => hmk.2.1 e.symm)).trans s2⟩
              have HX5 : Hid (MgW y2 (.slice bvo n bvc) gi ga n F A.ac (k + 1) (rowsJ A.nx cls k (j + 1)) (w4.setCell ⟨g, j, none⟩ (.int .i64 z))) := by
                have h := hmk.1
                rw [HJS2.out j _ (HSTT.out z HZE.out)] at h
                exact h
              refine hK.out _ _ hSz (fun hHeldz => ?_)
              clear hK K hHeld2 c4 f4 hmk hc4 hs4 hSz s1 s2
              try simp only [Act.put, List.setIfInBounds_toArray, List.set_cons_zero, List.set_cons_succ]
              refine wpAnyH_done (by kernel_rfl) ?_ _
              clear hHeldz
              go_wp2
              go_roundw
              case rel => exact ⟨j + 1, by omega, by go_num, HX5.out⟩
              case measure => simp [intOf]; omega
          · obtain rfl : j = 9 := by omega
            rw [HJ9.out] at HX
            go_wp2
            go_roundw
            case rel => exact ⟨k + 1, by omega, by go_num, HX.out⟩
            case measure => simp [intOf]; omega
      · obtain rfl : k = n := by omega
        have HALL : Hid (rowsM A.nx cls k = A.nx.map (mrgRow cls)) := by
          unfold Hid
          have := HM.out
          rw [this]; exact rowsM_all A.nx cls
        rw [HALL.out] at HW
        have HDN : Hid (OwnSS y2.heap.size wr.heap.size wr (.slice (some ⟨gi, 0, none⟩) k k) (A.nx.map (mrgRow cls))) := HW.out.rw.done (by rw [List.length_map]; exact HM.out) HW.out.lo.1 (fun i hi => hi)
        have HOA : Hid (OwnA y2.heap.size wr.heap.size wr (.agg #[.int .i64 F, .slice bvo k bvc, .slice (some ⟨gi, 0, none⟩) k k]) (mrgA A cls)) := by
          have e : fstC cls A.st = F := by rw [HFE.out, HST0.out]
          have hfi := HFI.out st hst1
          rw [← HFE.out] at hfi
          refine ⟨_, _, ?_, ?_, HW.out.ob, OwnBo.inR HW.out.ob, HDN.out⟩
          · show _ = Value.agg #[.int .i64 (fstC cls A.st), _, _]
            rw [e]
          · show InI (fstC cls A.st)
            rw [e]; unfold InI; omega
        obtain ⟨⟨t0, t1, t2⟩, _⟩ := HW.out.bx.threeA
        obtain ⟨⟨r0, r1, r2⟩, r3, r4, r5⟩ := (C1.out.since HW.out.sc).threeA
        have HSF := Lib.hid (HSY.out.trans HW.out.sc)
        have hws := HW.out.sc.size
        have hgl := HW.out.lo
        clear HDN HW
        go_wp2
        refine bodyPost_ret (v := .agg #[.int .i64 F, .slice bvo k bvc, .slice (some ⟨gi, 0, none⟩) k k]) (by simp [results, Try.results198, go_sem, *]) rfl ?_
        refine ⟨_, rfl, ?_, ?_⟩
        · refine OwnA.wider (lo := y2.heap.size) (hi := wr.heap.size) ?_ (by omega) (by simp)
          iterate 3 (with_reducible refine OwnA.far1 ?_ (.inl (by omega)) _ _)
          exact HOA.out
        · iterate 3 (with_reducible refine Since.setCell ?_ (by simp) _)
          exact HSF.out
end Go.Proofs.Ytmaagihfjldgeaa
