/- The program's classes: a state's signature. -/
import Derived.Test.YtmaagihfjldgeaaClI
import Derived.Test.YtmaagihfjldgeaaPsB
namespace Go.Proofs.Ytmaagihfjldgeaa
set_option maxRecDepth 100000
open Go.ChangeShapes Go.WideShapes Go.ChangeAt Go.RowKit Go.Maps
set_option linter.unusedVariables false
set_option linter.unusedSimpArgs false

theorem arrS : ArrT 179 10 := ⟨Try.underlying179, by kernel_rfl, by kernel_rfl, keyed_arr (by decide +kernel) (by kernel_rfl) Try.underlying179, by kernel_rfl, by kernel_rfl⟩
theorem wpList_build_sg {ops : Array Oper} {rest : List Oper} {o : Oper} {a : Act} {w : World} {Q : Exit → Act → World → Prop} (hgd : o.guard = none) (x : Operand) (c : Int) (L : List Int) (hL : L = c :: List.replicate 9 0) (ho : o.op = .build 179 #[(0, x)]) (hx : a.eval x = .int .i64 c)
    (h : wpList Try.prog ops Q rest (a.put o.dst (.agg (sgA L))) w) : wpList Try.prog ops Q (o :: rest) a w := by
  have e : ∀ c : Int, Try.prog.built 179 [(0, Value.int .i64 c)] = some (sgA (c :: List.replicate 9 0)) := fun c => by kernel_rfl
  have hp : ((#[(0, x)] : Array (Nat × Operand)).map fun (i, x) => (i, a.eval x)).toList = [(0, Value.int .i64 c)] := by simp [hx]
  refine wpList_build hgd 179 #[(0, x)] ho ?_ ?_
  · rw [hp, e]; rfl
  · rw [hp, e, ← hL]; exact h
theorem info_sg (xs : List Int) (h : xs.length = 10) : (Try.prog.info? 179).map (·.size) = some (sgA xs).size := by rw [sgA_size, h]; exact arrS.size
set_option maxHeartbeats 4000000 in
set_option maxRecDepth 100000 in
theorem sig_any (v u : Value) (A : Aut) (cls : List Int) (s : Nat) (w : World) (h : AutAt w v A) (hv : ValidA A) (hu : IntsAt w u cls) (hcl : cls.length = A.ac.length) (hs : s < A.ac.length) :
    Calls Try.prog 179 #[v, .int .i64 s, u] w fun e w' => e = .returned (.agg (sgA (sigC A.nx cls s))) ∧ Since w w' := by
  obtain ⟨a, b, rfl, _, ha, hb⟩ := h
  obtain ⟨ao, ca, rfl⟩ := ha.len
  obtain ⟨bo, cb, rfl, HC⟩ := hb
  obtain ⟨uo, uc, rfl, HU⟩ := hu.row
  have hnm : A.nx.length = A.ac.length := hv.2.1
  have HNX := Lib.hid (next_cells hv HC s hs)
  have HCL : Hid (∀ t : Nat, t < A.ac.length → ∃ b off, uo = some ⟨b, off, none⟩ ∧ b < w.heap.size ∧ w.cell? ⟨b, off + t, none⟩ = some (.int .i64 (clC cls t))) := fun t ht => by
    have hx : t < cls.length := by omega
    rw [clC_at cls t hx]
    exact HU.out t hx
  have HNL : Hid (∀ k : Nat, k < 9 → -1 ≤ nextA A.nx s k ∧ nextA A.nx s k < (A.ac.length : Int)) := fun k hk => next_lt hv (by unfold InA; omega) hk
  have HIN : Hid (∀ t : Nat, t < A.ac.length → InI (clC cls t)) := fun t ht => by
    have hx : t < cls.length := by omega
    rw [clC_at cls t hx]; exact hu.1 _ (List.getElem_mem hx)
  have hn12 := hv.1
  rw [hcl, hnm]
  obtain ⟨n, hn⟩ : ∃ n, n = A.ac.length := ⟨_, rfl⟩
  rw [← hn] at hs HCL HNL HIN hn12 ⊢
  clear ha hv HC hu HU hcl hnm hn
  obtain ⟨b1, off1, b2, off2, c2, rfl, hb1, hcell1, hb2, hcell2⟩ := HNX.out
  obtain ⟨u1, uoff1, rfl, hu1, huc⟩ := HCL.out s hs
  obtain ⟨c, hc⟩ : ∃ c, c = clC cls s := ⟨_, rfl⟩
  have hci : InI c := by rw [hc]; exact HIN.out s hs
  rw [← hc] at huc
  have HALL : Hid (c :: filC (sgC A.nx cls (s : Int)) 9 9 = sigC A.nx cls s) := by unfold Hid sigC; rw [filC_all, hc]
  have HC2 := Lib.hid hcell2
  have hsi : (s : Int) < (n : Int) := by omega
  have hs0i : (0 : Int) ≤ (s : Int) := by omega
  clear hc hcell2 HNX
  obtain ⟨y, hy⟩ : ∃ y, y = (w.alloc (.cells #[.int .i64 A.st, .slice ao n ca, .slice (some ⟨b1, off1, none⟩) n cb] 39)).alloc (.cells #[.int .i64 0, .int .i64 0, .int .i64 0, .int .i64 0, .int .i64 0, .int .i64 0, .int .i64 0, .int .i64 0, .int .i64 0, .int .i64 0] 179) := ⟨_, rfl⟩
  have hs0 : Since w y := by rw [hy]; exact ((Since.refl w).alloc _).alloc _
  have hz : y.heap.size = w.heap.size + 2 := by rw [hy]; simp
  have B0 : Hid (Blk y w.heap.size 39 #[.int .i64 A.st, .slice ao n ca, .slice (some ⟨b1, off1, none⟩) n cb]) := by rw [hy]; exact (Blk.new rfl _ _).alloc _
  have B1 : Hid (Blk y (w.heap.size + 1) 179 #[.int .i64 0, .int .i64 0, .int .i64 0, .int .i64 0, .int .i64 0, .int .i64 0, .int .i64 0, .int .i64 0, .int .i64 0, .int .i64 0]) := by rw [hy]; exact Blk.new (by simp) _ _
  obtain ⟨L0, hL0⟩ : ∃ L, L = c :: List.replicate 9 (0 : Int) := ⟨_, rfl⟩
  have HL0 := Lib.hid hL0
  clear hL0
  obtain ⟨y2, hy2⟩ : ∃ y2, y2 = (y.alloc (.cells #[.int .i64 0, .int .i64 0, .int .i64 0, .int .i64 0, .int .i64 0, .int .i64 0, .int .i64 0, .int .i64 0, .int .i64 0, .int .i64 0] 179)).setRow (w.heap.size + 2) (sgA L0) := ⟨_, rfl⟩
  have hs2 : Since y y2 := by rw [hy2]; exact ((Since.refl y).alloc _).setRowS (by omega) _
  have BN : Hid (Blk (y.alloc (.cells #[.int .i64 0, .int .i64 0, .int .i64 0, .int .i64 0, .int .i64 0, .int .i64 0, .int .i64 0, .int .i64 0, .int .i64 0, .int .i64 0] 179)) (w.heap.size + 2) 179 #[.int .i64 0, .int .i64 0, .int .i64 0, .int .i64 0, .int .i64 0, .int .i64 0, .int .i64 0, .int .i64 0, .int .i64 0, .int .i64 0]) := Blk.new hz.symm _ _
  have B2 : Hid (Blk y2 (w.heap.size + 2) 179 (sgA (c :: filC (sgC A.nx cls (s : Int)) 9 0))) := by rw [hy2, filC_zero, ← HL0.out]; exact BN.out.setRowS _
  have HY := Lib.hid hy
  have HY2 := Lib.hid hy2
  have d1 := (Below.cell hs0 (p := ⟨u1, uoff1 + s, none⟩) hu1).trans huc
  clear hy hy2 huc
  go_enter Try.func179, Try.ntmps179
  go_upto_region 1 with fail
  rw [← HY.out]
  go_upto_region 2 with (first
    | (refine wpList_build_sg rfl _ c L0 HL0.out rfl rfl ?_)
    | (refine wpList_store_blkS rfl 179 _ _ rfl (w.heap.size + 2) (sgA L0) rfl rfl 179 _ BN.out (info_sg _ (by rw [HL0.out]; simp)) (by rw [sgA_size, HL0.out]; rfl) (sgA_one _) ?_))
  rw [← HY2.out]
  clear d1 BN HY HY2
  obtain ⟨⟨p0, p1, p2⟩, _⟩ := (B0.out.since hs2).threeA
  have d2 := (Below.cell (hs0.trans hs2) (p := ⟨b1, off1 + s, none⟩) hb1).trans hcell1
  go_wp2
  clear p0 p1 p2 d2
  go_loopw [21] (fun i wr => ∃ k : Nat, k ≤ 9 ∧ i = .int .i64 k ∧ Hid (Blk wr (w.heap.size + 2) 179 (sgA (c :: filC (sgC A.nx cls (s : Int)) 9 k))) ∧ Hid (Since y wr)) (fun i _ => 9 - (intOf i).toNat)
  case atStart => exact ⟨0, Nat.zero_le _, rfl, B2.out, hs2⟩
  case round =>
    obtain ⟨k, hk, rfl, HX, HS⟩ := hrel
    by_cases hlt : k < 9
    · have hki : (k : Int) < 9 := by omega
      have hk0 : (0 : Int) ≤ (k : Int) := by omega
      have hj1 : 1 + k = k + 1 := by omega
      have HJ := Lib.hid hj1
      clear hj1
      obtain ⟨q, hq⟩ : ∃ q, q = nextA A.nx (s : Int) (k : Int) := ⟨_, rfl⟩
      have e1 := (Below.cell (hs0.trans HS.out) (p := ⟨b2, off2 + k, none⟩) hb2).trans (HC2.out k hlt)
      have HNQ := HNL.out k hlt
      rw [← hq] at e1 HNQ
      have HQ : Hid (sgC A.nx cls (s : Int) k = if q < 0 then -1 else clC cls q) := by unfold Hid sgC; rw [← hq]
      have c0 : wr.cell? ⟨w.heap.size + 2, 1 + k, none⟩ = some (.int .i64 0) := by
        rw [HX.out.cell (1 + k), HJ.out, sgA_at _ _ (by rw [List.length_cons, filC_length]; omega)]
        simp [filC_at]
      have f0 : wr.frozen? ⟨w.heap.size + 2, 1 + k, none⟩ = false := HX.out.frozen (1 + k)
      clear hq
      have HW : Hid (∀ z, Blk (wr.setCell ⟨w.heap.size + 2, 1 + k, none⟩ (.int .i64 z)) (w.heap.size + 2) 179 (sgA (c :: (filC (sgC A.nx cls (s : Int)) 9 k).set k z))) := fun z => by
        have h1 := HX.out.set (1 + k) (.int .i64 z)
        have h2 : (c :: filC (sgC A.nx cls (s : Int)) 9 k).set (1 + k) z = c :: (filC (sgC A.nx cls (s : Int)) 9 k).set k z := by rw [HJ.out, List.set_cons_succ]
        rw [sgA_set, h2] at h1
        exact h1
      have HSW : Hid (∀ z, Since y (wr.setCell ⟨w.heap.size + 2, 1 + k, none⟩ z)) := fun z => HS.out.setCell (by show y.heap.size ≤ w.heap.size + 2; omega) z
      go_upto_region 6 with fail
      obtain ⟨w3, hw3⟩ : ∃ w3, w3 = wr.setCell ⟨w.heap.size + 2, 1 + k, none⟩ (.int .i64 (-1)) := ⟨_, rfl⟩
      have HX3 := Lib.hid (HW.out (-1))
      have HS3 := Lib.hid (HSW.out (.int .i64 (-1)))
      rw [← hw3] at HX3 HS3 ⊢
      clear hw3 c0 f0 HW HSW e1
      by_cases hneg : q = -1
      · subst hneg
        have hb : ((-1 : Int) != -1) = false := by decide
        have HX4 : Hid (Blk w3 (w.heap.size + 2) 179 (sgA (c :: filC (sgC A.nx cls (s : Int)) 9 (k + 1)))) := by
          have h := HX3.out
          rw [filC_set _ _ _ _ (by rw [HQ.out]; rfl)] at h
          exact h
        go_wp2
        go_roundw
        case rel => exact ⟨k + 1, by omega, by go_num, HX4.out, HS3.out⟩
        case measure => simp [intOf]; omega
      · obtain ⟨t, rfl⟩ : ∃ t : Nat, q = t := ⟨q.toNat, by omega⟩
        have hb : ((t : Int) != -1) = true := by simp
        have htn : t < n := by omega
        have hti : (t : Int) < (n : Int) := by omega
        have ht0 : (0 : Int) ≤ (t : Int) := by omega
        obtain ⟨u2, uoff2, eu, hu2, huc2⟩ := HCL.out t htn
        injection eu with eu
        injection eu with eu1 eu2
        subst eu1 eu2
        have e2 := (Below.cell (hs0.trans HS3.out) (p := ⟨u1, uoff1 + t, none⟩) hu1).trans huc2
        obtain ⟨d, hd⟩ : ∃ d, d = clC cls (t : Int) := ⟨_, rfl⟩
        have HX4 : Hid (Blk (w3.setCell ⟨w.heap.size + 2, 1 + k, none⟩ (.int .i64 d)) (w.heap.size + 2) 179 (sgA (c :: filC (sgC A.nx cls (s : Int)) 9 (k + 1)))) := by
          have h1 := HX3.out.set (1 + k) (.int .i64 d)
          have h2 : (c :: (filC (sgC A.nx cls (s : Int)) 9 k).set k (-1)).set (1 + k) d = c :: filC (sgC A.nx cls (s : Int)) 9 (k + 1) := by
            rw [HJ.out, List.set_cons_succ, List.set_set, filC_set _ _ _ _ (by rw [HQ.out, if_neg (by omega), hd])]
          rw [sgA_set, h2] at h1
          exact h1
        have HS4 : Hid (Since y (w3.setCell ⟨w.heap.size + 2, 1 + k, none⟩ (.int .i64 d))) := HS3.out.setCell (by show y.heap.size ≤ w.heap.size + 2; omega) _
        have c0 : w3.cell? ⟨w.heap.size + 2, 1 + k, none⟩ = some (.int .i64 (-1)) := by
          rw [HX3.out.cell (1 + k), HJ.out, sgA_at _ _ (by rw [List.length_cons, List.length_set, filC_length]; omega)]
          simp
        have f0 : w3.frozen? ⟨w.heap.size + 2, 1 + k, none⟩ = false := HX3.out.frozen (1 + k)
        rw [← hd] at e2
        clear hd huc2 hneg
        go_wp2
        go_roundw
        case rel => exact ⟨k + 1, by omega, by go_num, HX4.out, HS4.out⟩
        case measure => simp [intOf]; omega
    · obtain rfl : k = 9 := by omega
      rw [HALL.out] at HX
      have HB1 := Lib.hid (B1.out.since HS.out)
      have HFB := Lib.hid (HB1.out.setRowS (sgA (sigC A.nx cls s)))
      have HFS : Hid (Since w (wr.setRow (w.heap.size + 1) (sgA (sigC A.nx cls s)))) := Since.setRowS (hs0.trans HS.out) (by omega) _
      go_wp2_with (first
        | (refine wpList_load_row rfl 179 _ rfl (w.heap.size + 2) rfl 179 (sgA (sigC A.nx cls s)) (0, 0) _ HX.out Try.underlying179 rfl (info_sg _ (sigC_length _ _ _)) ?_)
        | (refine wpList_store_blkS rfl 179 _ _ rfl (w.heap.size + 1) (sgA (sigC A.nx cls s)) rfl rfl 179 _ HB1.out (info_sg _ (sigC_length _ _ _)) (by rw [sgA_size, sigC_length]; rfl) (sgA_one _) ?_))
      refine bodyPost_ret (v := .agg (sgA (sigC A.nx cls s))) (results_cell_row rfl _ _ (w.heap.size + 1) 179 _ (0, 0) _ rfl HFB.out Try.underlying179 rfl (info_sg _ (sigC_length _ _ _))) rfl ?_
      exact ⟨rfl, HFS.out⟩
end Go.Proofs.Ytmaagihfjldgeaa
