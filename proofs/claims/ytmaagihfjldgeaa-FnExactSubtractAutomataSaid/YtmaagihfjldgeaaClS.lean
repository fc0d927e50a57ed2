/- The program's classes: refining them, until nothing changes. -/
import Derived.Test.YtmaagihfjldgeaaClR
namespace Go.Proofs.Ytmaagihfjldgeaa
set_option maxRecDepth 100000
open Go.ChangeShapes Go.WideShapes Go.ChangeAt Go.RowKit Go.Maps
set_option linter.unusedVariables false
set_option linter.unusedSimpArgs false

theorem zeroCl (w : World) : (zeroValue 3).run Try.prog w = .ok (.int .i64 0) w := by kernel_rfl
/-- Classes whose numbers are small, negative just for the states that have none. -/
structure ClsR (A : Aut) (lv : Nat → Bool) (cls : List Int) : Prop where
  len : cls.length = A.ac.length
  rng : ∀ s, s < A.ac.length → -1 ≤ clC cls (s : Int) ∧ clC cls (s : Int) < 100000
  neg : ∀ s, s < A.ac.length → (clC cls (s : Int) < 0 ↔ lv s = false)
theorem iniC_R (A : Aut) (lv : Nat → Bool) : ClsR A lv (iniC A lv) := by
  refine ⟨iniC_length A lv, fun s hs => ?_, fun s hs => ?_⟩
  · rw [iniC_at A lv s hs]; split <;> (try split) <;> omega
  · rw [iniC_at A lv s hs]
    cases lv s <;> simp <;> split <;> omega
theorem refC_R {A : Aut} (hv : ValidA A) (lv : Nat → Bool) (cls : List Int) : ClsR A lv (refC A lv cls) := by
  have hn := hv.1
  refine ⟨refC_length A lv cls, fun s hs => ?_, fun s hs => ?_⟩
  · rw [refC_at A lv cls s hs]
    have := cutN_range (lv := lv) (f := sigC A.nx cls) hs
    omega
  · rw [refC_at A lv cls s hs]; exact cutN_neg
theorem itR_R {A : Aut} (hv : ValidA A) (lv : Nat → Bool) : ∀ i, ClsR A lv (itR A lv i)
  | 0 => iniC_R A lv
  | i + 1 => refC_R hv lv _
theorem sigC_ok {A : Aut} (hv : ValidA A) {lv : Nat → Bool} {cls : List Int} (H : ClsR A lv cls) {s : Nat} (hs : s < A.ac.length) : OkS 10 (sigC A.nx cls s) := by
  refine ⟨sigC_length _ _ _, fun x hx => ?_⟩
  have hin : ∀ t, t < A.ac.length → InI (clC cls (t : Int)) := fun t ht => by have := H.rng t ht; unfold InI; omega
  unfold sigC at hx
  rcases List.mem_cons.1 hx with hx | hx
  · subst hx; exact hin s hs
  · obtain ⟨k, hk, rfl⟩ := List.mem_map.1 hx
    have hk := List.mem_range.1 hk
    have hr := next_lt hv (s := (s : Int)) (by unfold InA; omega) hk
    unfold sgC
    split
    · unfold InI; omega
    · obtain ⟨t, ht⟩ : ∃ t : Nat, nextA A.nx (s : Int) k = t := ⟨(nextA A.nx (s : Int) k).toNat, by omega⟩
      rw [ht]; exact hin t (by omega)
/-- In the middle of a refinement: the first k states have their numbers. -/
structure RfW (w : World) (CS : Array Value) (G n : Nat) (lv : Nat → Bool) (sg : Nat → List Int) (k : Nat) (wr : World) : Prop where
  own : Own G wr (.slice (some ⟨G, 0, none⟩) n n) (filC (cutN lv sg) n k)
  map : ∃ nn D, wr.ownsMap Try.prog 179 (plainElem Try.prog 3) (w.heap.size + 1) nn D ∧ NumG 179 10 ((cutF lv sg k).map sg) D ∧ nn ≤ (cutF lv sg k).length
  box : Blk wr w.heap.size 39 CS
  since : Since w wr
theorem RfW.since' {w wr w2 : World} {CS : Array Value} {G n k : Nat} {lv : Nat → Bool} {sg : Nat → List Int} (h : RfW w CS G n lv sg k wr) (s : Since wr w2) : RfW w CS G n lv sg k w2 := by
  obtain ⟨nn, D, h1, h2, h3⟩ := h.map
  exact ⟨h.own.since s, ⟨nn, D, Since.keptMap h1 s, h2, h3⟩, h.box.since s, h.since.trans s⟩
set_option maxHeartbeats 8000000 in
set_option maxRecDepth 100000 in
theorem refined_any (v u : Value) (A : Aut) (lv : Nat → Bool) (cls : List Int) (w : World) (h : AutAt w v A) (hv : ValidA A) (hu : IntsAt w u cls) (H : ClsR A lv cls) :
    Calls Try.prog 156 #[v, u] w (OwnOut w (refC A lv cls)) := by
  have HSG : Hid (∀ s W, Since w W → s < A.ac.length → Calls Try.prog 179 #[v, .int .i64 (s : Nat), u] W fun e w' => e = .returned (.agg (sgA (sigC A.nx cls s))) ∧ Since W w') := fun s W hW hs => sig_any v u A cls s W (h.since hW) hv (hu.since hW) H.len hs
  have HOK : Hid (∀ s, s < A.ac.length → OkS 10 (sigC A.nx cls s)) := fun s hs => sigC_ok hv H hs
  have HCR := Lib.hid H.rng
  have HCN := Lib.hid H.neg
  have hlen := H.len
  obtain ⟨a, b, rfl, _, ha, hb⟩ := h
  obtain ⟨ao, ca, rfl⟩ := ha.len
  obtain ⟨bo, cb, rfl⟩ := hb.len
  obtain ⟨uo, uc, rfl, HU⟩ := hu.row
  have hn12 := hv.1
  have HCL : Hid (∀ t : Nat, t < A.ac.length → ∃ b off, uo = some ⟨b, off, none⟩ ∧ b < w.heap.size ∧ w.cell? ⟨b, off + t, none⟩ = some (.int .i64 (clC cls t))) := fun t ht => by
    have hx : t < cls.length := by omega
    rw [clC_at cls t hx]
    exact HU.out t hx
  have HALL : Hid (filC (cutN lv (sigC A.nx cls)) A.ac.length A.ac.length = refC A lv cls) := by unfold Hid; rw [filC_all]; rfl
  rw [hlen] at HSG ⊢
  clear ha hb hu HU hv H hlen
  obtain ⟨n, hn⟩ : ∃ n, n = A.ac.length := ⟨_, rfl⟩
  obtain ⟨m, hmm⟩ : ∃ n, n = A.nx.length := ⟨_, rfl⟩
  rw [← hn, ← hmm] at HSG ⊢
  rw [← hn] at HOK HCR HCN hn12 HCL HALL
  obtain ⟨sg, hsg⟩ : ∃ sg, sg = sigC A.nx cls := ⟨_, rfl⟩
  rw [← hsg] at HSG HOK HALL
  clear hn hmm hsg
  obtain ⟨CS, hCS⟩ : ∃ CS : Array Value, CS = #[.int .i64 A.st, .slice ao n ca, .slice bo m cb] := ⟨_, rfl⟩
  obtain ⟨i0, hi, hz0, hz1, hz2⟩ := info_parts info_int
  have HZ2 := Lib.hid hz2
  clear hz2
  obtain ⟨y, hy⟩ : ∃ y, y = w.alloc (.cells #[.int .i64 A.st, .slice ao n ca, .slice bo m cb] 39) := ⟨_, rfl⟩
  have hs0 : Since w y := by rw [hy]; exact (Since.refl w).alloc _
  have hz : y.heap.size = w.heap.size + 1 := by rw [hy]; simp
  have B0 : Hid (Blk y w.heap.size 39 CS) := by rw [hy, hCS]; exact Blk.new rfl _ _
  obtain ⟨y1, hy1⟩ : ∃ y1, y1 = y.alloc (.map #[] 0) := ⟨_, rfl⟩
  have hal : Since y y1 := by rw [hy1]; exact (Since.refl y).alloc _
  have hz1 : y1.heap.size = w.heap.size + 2 := by rw [hy1]; simp [hz]
  have hmap0 : y1.ownsMap Try.prog 179 (plainElem (H := Unit) Try.prog 3) y.heap.size 0 (.map []) := by rw [hy1]; exact World.ownsMap_made _ _ _ _
  rw [hz] at hmap0
  have HM0 := Lib.hid hmap0
  have HY := Lib.hid hy
  have HY1 := Lib.hid hy1
  have HZ1 := Lib.hid hz1
  have HCS := Lib.hid hCS
  have hmm := @run_makeMap Try.prog
  clear hmap0 hy hy1 hz1 hCS
  go_enter Try.func156, Try.ntmps156
  go_upto_region 2 with fail
  rw [← HY.out, ← HY1.out]
  go_upto_region 3 with (at_make; go_must (refine wpList_make_full _ rfl _ _ 24 rfl y1.heap.size 3 i0 (.int .i64 0) 1 Try.underlying24 hi hz0 hz1 .i64 .i64 _ _ n rfl rfl rfl rfl (by rw [HZ2.out]; omega) (by unfold maxLen; omega) (Nat.le_refl _) ?_); intro w1 hown hgrow)
  have hs1 : Since y1 w1 := (Since.refl y1).grown hgrow (fun _ h => by simp at h)
  have HR0 : Hid (RfW w CS y1.heap.size n lv sg 0 w1) := ⟨own_fil0 _ hown, ⟨0, _, Since.keptMap HM0.out hs1, NumG.nil _ _, Nat.le_refl _⟩, (B0.out.since hal).since hs1, (hs0.trans hal).trans hs1⟩
  clear hown hgrow hs1 hmm B0 HM0
  go_wp2
  go_loopw [18] (fun i wr => ∃ k : Nat, k ≤ n ∧ i = .int .i64 k ∧ Hid (RfW w CS y1.heap.size n lv sg k wr)) (fun i _ => n - (intOf i).toNat)
  case atStart => exact ⟨0, Nat.zero_le _, rfl, HR0.out⟩
  case round =>
    obtain ⟨k, hk, rfl, HR⟩ := hrel
    by_cases hlt : k < n
    · have hki : (k : Int) < (n : Int) := by omega
      have hk0 : (0 : Int) ≤ (k : Int) := by omega
      obtain ⟨u1, uoff1, rfl, hu1, huc⟩ := HCL.out k hlt
      have d1 := (Below.cell HR.out.since (p := ⟨u1, uoff1 + k, none⟩) hu1).trans huc
      have hrg := HCR.out k hlt
      have HNG := Lib.hid (HCN.out k hlt)
      obtain ⟨c, hc⟩ : ∃ c, c = clC cls (k : Int) := ⟨_, rfl⟩
      rw [← hc] at d1 hrg HNG
      clear hc huc
      cases hl : lv k with
      | false =>
        obtain rfl : c = -1 := by have := HNG.out.2 hl; omega
        have HF : Hid (cutF lv sg (k + 1) = cutF lv sg k) := cutF_dead hl
        have HN : Hid (cutN lv sg k = -1) := cutN_dead hl
        obtain ⟨c0, f0⟩ := HR.out.own.cellI (by rw [filC_length]) k (by rw [filC_length]; exact hlt)
        have HR4 : Hid (RfW w CS y1.heap.size n lv sg (k + 1) (wr.setCell ⟨y1.heap.size, k, none⟩ (.int .i64 (-1)))) := by
          obtain ⟨nn, D, h1, h2, h3⟩ := HR.out.map
          have h := HR.out.own.setI (by rw [filC_length]) k (-1) (by unfold InI; omega)
          rw [filC_set (cutN lv sg) n k (-1) HN.out.symm] at h
          have hz := HZ1.out
          exact ⟨h, ⟨nn, D, h1.setCell (by show w.heap.size + 1 ≠ y1.heap.size; omega) _, by rw [HF.out]; exact h2, by rw [HF.out]; exact h3⟩, HR.out.box.far (by show w.heap.size ≠ y1.heap.size; omega) _, HR.out.since.setCell (by show w.heap.size ≤ y1.heap.size; omega) _⟩
        clear hl hrg
        go_wp2
        go_roundw
        case rel => exact ⟨k + 1, by omega, by go_num, HR4.out⟩
        case measure => simp [intOf]; omega
      | true =>
        have hcn : c ≠ -1 := fun e => by
          have h1 : lv k = false := HNG.out.1 (by omega)
          rw [hl] at h1; cases h1
        have hcb : (c == -1) = false := by simpa using hcn
        have HL : Hid (lv k = true) := hl
        have HO := HOK.out k hlt
        clear hl hcn hrg HNG
        have hbx := HR.out.box
        rw [HCS.out] at hbx
        obtain ⟨⟨p0, p1, p2⟩, _⟩ := hbx.threeA
        go_wp2_with fail
        refine (HSG.out k _ HR.out.since hlt).mono ?_
        rintro e w2 ⟨rfl, hs2⟩
        obtain ⟨x, hx⟩ : ∃ x, x = sg k := ⟨_, rfl⟩
        rw [← hx] at HO ⊢
        have HX := Lib.hid hx
        have hxl := HO.1
        have hkx := arrS.keyOf HO
        have HOX := Lib.hid HO
        clear hx hbx p0 p1 p2 d1 HO
        obtain ⟨y3, hy3⟩ : ∃ y3, y3 = (w2.alloc (.cells #[.int .i64 0, .int .i64 0, .int .i64 0, .int .i64 0, .int .i64 0, .int .i64 0, .int .i64 0, .int .i64 0, .int .i64 0, .int .i64 0] 179)).setRow w2.heap.size (sgA x) := ⟨_, rfl⟩
        have BN : Hid (Blk (w2.alloc (.cells #[.int .i64 0, .int .i64 0, .int .i64 0, .int .i64 0, .int .i64 0, .int .i64 0, .int .i64 0, .int .i64 0, .int .i64 0, .int .i64 0] 179)) w2.heap.size 179 #[.int .i64 0, .int .i64 0, .int .i64 0, .int .i64 0, .int .i64 0, .int .i64 0, .int .i64 0, .int .i64 0, .int .i64 0, .int .i64 0]) := Blk.new rfl _ _
        have hs3 : Since w2 y3 := by rw [hy3]; exact ((Since.refl w2).alloc _).setRowS (Nat.le_refl _) _
        have B9 : Hid (Blk y3 w2.heap.size 179 (sgA x)) := by rw [hy3]; exact BN.out.setRowS _
        have HR3 := Lib.hid (HR.out.since' (hs2.trans hs3))
        have HY3 := Lib.hid hy3
        have hg2 : y1.heap.size < w2.heap.size := Nat.lt_of_lt_of_le (HR.out.own.2.lt y1.heap.size rfl).2 hs2.size
        clear hy3
        go_upto_region 9 with (refine wpList_store_blkS rfl 179 _ _ rfl w2.heap.size (sgA x) rfl rfl 179 _ BN.out (info_sg _ hxl) (by rw [sgA_size, hxl]; rfl) (sgA_one _) ?_)
        rw [← HY3.out]
        clear BN HY3
        obtain ⟨nn, D, hm, hD, hnl⟩ := HR3.out.map
        have HD := Lib.hid hD
        have hhas := hD.has x HOX.out
        have hcl := cutF_len lv sg k
        by_cases hmem : x ∈ (cutF lv sg k).map sg
        · have hh : Maps.has D (kyG 179 x) = true := by rw [hhas]; simpa using hmem
          have HF : Hid (cutF lv sg (k + 1) = cutF lv sg k) := cutF_old HL.out (by rw [← HX.out]; exact hmem)
          have HN : Hid (cutN lv sg k = (posG ((cutF lv sg k).map sg) x : Int)) := by
            have := cutN_old (f := sg) HL.out (by rw [← HX.out]; exact hmem)
            rw [← HX.out] at this
            exact this
          have HMM := Lib.hid hmem
          obtain ⟨c0, f0⟩ := HR3.out.own.cellI (by rw [filC_length]) k (by rw [filC_length]; exact hlt)
          have HPI : Hid (InI (posG ((cutF lv sg k).map sg) x : Int)) := by
            have := posG_lt _ _ hmem
            rw [List.length_map] at this
            unfold Hid InI; omega
          clear hD hhas hmem
          go_wp2_with (first
            | (refine wpList_load_row rfl 179 _ rfl w2.heap.size rfl 179 (sgA x) (0, 0) _ B9.out Try.underlying179 rfl (info_sg _ hxl) ?_)
            | (at_lookup; refine wpList_lookup_own_ok_int _ rfl (.tmp 33) (.tmp 34) 177 rfl 179 3 .i64 arrS.law Try.underlying177 Try.underlying3 (zeroCl _) (w.heap.size + 1) nn D rfl hm (.agg (sgA x)) (kyG 179 x) rfl hkx ?_; intro c1 hat1 hwc1; clear hat1 hwc1; rw [hh])
            | (at_lookup; refine wpList_lookup_own_int _ rfl (.tmp 46) (.tmp 47) 177 rfl 179 3 .i64 arrS.law Try.underlying177 Try.underlying3 (zeroCl _) (w.heap.size + 1) nn D rfl hm (.agg (sgA x)) (kyG 179 x) rfl hkx ?_; intro c2 hat hwc; have HCV := Lib.hid (HD.out.val HMM.out hat); clear hat hwc))
          have HR4 : Hid (RfW w CS y1.heap.size n lv sg (k + 1) (y3.setCell ⟨y1.heap.size, k, none⟩ (.int .i64 c2))) := by
            have h := HR3.out.own.setI (by rw [filC_length]) k c2 (by rw [HCV.out]; exact HPI.out)
            rw [filC_set (cutN lv sg) n k c2 (by rw [HN.out, HCV.out])] at h
            have hz := HZ1.out
            exact ⟨h, ⟨nn, D, hm.setCell (by show w.heap.size + 1 ≠ y1.heap.size; omega) _, by rw [HF.out]; exact HD.out, by rw [HF.out]; exact hnl⟩, HR3.out.box.far (by show w.heap.size ≠ y1.heap.size; omega) _, HR3.out.since.setCell (by show w.heap.size ≤ y1.heap.size; omega) _⟩
          go_roundw
          case rel => exact ⟨k + 1, by omega, by go_num, HR4.out⟩
          case measure => simp [intOf]; omega
        · have hh : Maps.has D (kyG 179 x) = false := by rw [hhas]; simpa using hmem
          have HF : Hid (cutF lv sg (k + 1) = cutF lv sg k ++ [k]) := cutF_new HL.out (by rw [← HX.out]; exact hmem)
          have HN : Hid (cutN lv sg k = ((cutF lv sg k).length : Int)) := cutN_new (f := sg) HL.out (by rw [← HX.out]; exact hmem)
          have HD2 : Hid (NumG 179 10 ((cutF lv sg (k + 1)).map sg) (D.put (kyG 179 x) (.lit (.int .i64 ((cutF lv sg k).length : Int))))) := by
            have := hD.snoc arrS HOX.out hmem
            rw [List.length_map] at this
            rw [HF.out, List.map_append, List.map_cons, List.map_nil, ← HX.out]
            exact this
          have hsz : Maps.size D = (cutF lv sg k).length := by rw [hD.size, List.length_map]
          obtain ⟨q, hq⟩ : ∃ q, q = (cutF lv sg k).length := ⟨_, rfl⟩
          rw [← hq] at HN HD2 hsz hcl hnl
          have HQ := Lib.hid hq
          have HSZ := Lib.hid hsz
          clear hD hhas hmem hq hsz
          go_upto_region 12 with (first
            | (refine wpList_load_row rfl 179 _ rfl w2.heap.size rfl 179 (sgA x) (0, 0) _ B9.out Try.underlying179 rfl (info_sg _ hxl) ?_)
            | (at_lookup; refine wpList_lookup_own_ok_int _ rfl (.tmp 33) (.tmp 34) 177 rfl 179 3 .i64 arrS.law Try.underlying177 Try.underlying3 (zeroCl _) (w.heap.size + 1) nn D rfl hm (.agg (sgA x)) (kyG 179 x) rfl hkx ?_; intro c1 hat1 hwc1; clear hat1 hwc1; rw [hh])
            | (at_len; refine wpList_len_own _ rfl (.tmp 42) 177 rfl 179 3 Try.underlying177 _ (w.heap.size + 1) nn D rfl hm ?_; rw [HSZ.out])
            | (at_mapUpdate; refine wpList_mapUpdate_own _ rfl (.tmp 40) (.tmp 41) (.tmp 43) 177 rfl 179 3 arrS.law Try.underlying177 _ (w.heap.size + 1) nn D rfl hm (by unfold maxLen; omega) _ _ (kyG 179 x) rfl rfl hkx _ [] (plainElem_int Try.underlying3 (wf_in (by unfold InI; omega))) ?_; intro w4 hm4 hg4))
          have hz := HZ1.out
          have HR4 : Hid (Own y1.heap.size w4 (.slice (some ⟨y1.heap.size, 0, none⟩) n n) (filC (cutN lv sg) n k)) := HR3.out.own.grownX hg4 (.inr (by intro e; simp [Value.ownBlock] at e; omega))
          have HB4 : Hid (Blk w4 w.heap.size 39 CS) := (hg4.block _ HR3.out.box.lt (by intro e; injection e with e; omega)).trans HR3.out.box
          have HS4 : Hid (Since w w4) := HR3.out.since.grown hg4 (fun j hj => by injection hj with hj; omega)
          have B94 : Hid (Blk w4 w2.heap.size 179 (sgA x)) := (hg4.block _ B9.out.lt (by intro e; injection e with e; omega)).trans B9.out
          have HMM : Hid (x ∈ (cutF lv sg (k + 1)).map sg) := by unfold Hid; rw [HF.out, HX.out]; simp
          have HPQ : Hid ((posG ((cutF lv sg (k + 1)).map sg) x : Int) = cutN lv sg k) := by
            have := cutN_is (f := sg) HL.out (Nat.lt_succ_self k)
            rw [← HX.out] at this
            exact this.symm
          obtain ⟨D4, hD4⟩ : ∃ D4, D4 = D.put (kyG 179 x) (.lit (.int .i64 (q : Int))) := ⟨_, rfl⟩
          rw [← hD4] at hm4 HD2
          obtain ⟨c0, f0⟩ := HR4.out.cellI (by rw [filC_length]) k (by rw [filC_length]; exact hlt)
          have HQI : Hid (InI (q : Int)) := by unfold Hid InI; omega
          have HHM := Lib.hid hm4
          clear hg4 hD4 hm HR3 hz
          go_wp2_with (first
            | (refine wpList_load_row rfl 179 _ rfl w2.heap.size rfl 179 (sgA x) (0, 0) _ B94.out Try.underlying179 rfl (info_sg _ hxl) ?_)
            | (at_lookup; refine wpList_lookup_own_int _ rfl (.tmp 46) (.tmp 47) 177 rfl 179 3 .i64 arrS.law Try.underlying177 Try.underlying3 (zeroCl _) (w.heap.size + 1) (nn + 1) D4 rfl HHM.out (.agg (sgA x)) (kyG 179 x) rfl hkx ?_; intro c2 hat hwc; have HCV := Lib.hid (HD2.out.val HMM.out hat); clear hat hwc))
          have HR5 : Hid (RfW w CS y1.heap.size n lv sg (k + 1) (w4.setCell ⟨y1.heap.size, k, none⟩ (.int .i64 c2))) := by
            have h := HR4.out.setI (by rw [filC_length]) k c2 (by rw [HCV.out, HPQ.out, HN.out]; exact HQI.out)
            rw [filC_set (cutN lv sg) n k c2 (by rw [HCV.out, HPQ.out])] at h
            have hz := HZ1.out
            exact ⟨h, ⟨nn + 1, D4, HHM.out.setCell (by show w.heap.size + 1 ≠ y1.heap.size; omega) _, HD2.out, by rw [HF.out, List.length_append, ← HQ.out]; simp; omega⟩, HB4.out.far (by show w.heap.size ≠ y1.heap.size; omega) _, HS4.out.setCell (by show w.heap.size ≤ y1.heap.size; omega) _⟩
          go_roundw
          case rel => exact ⟨k + 1, by omega, by go_num, HR5.out⟩
          case measure => simp [intOf]; omega
    · obtain rfl : k = n := by omega
      have HO := Lib.hid HR.out.own
      rw [HALL.out] at HO
      have hz := HZ1.out
      have HS := Lib.hid HR.out.since
      clear HR
      go_wp2
      go_ret
      exact ⟨_, rfl, HO.out.mono (by omega), HS.out⟩
/-! the loop until nothing changes: how far it has come is read off the classes -/
def readC (w : World) (v : Value) : List Int := match v with
  | .slice (some ⟨g, off, _⟩) n _ => (List.range n).map fun k => match w.cell? ⟨g, off + k, none⟩ with
    | some (.int _ x) => x
    | _ => 0
  | _ => []
theorem readC_own {base : Nat} {w : World} {v : Value} {xs : List Int} (h : Own base w v xs) : readC w v = xs := by
  rcases Nat.eq_zero_or_pos xs.length with h0 | hp
  · obtain ⟨ao, cap, rfl⟩ := h.len
    have : xs = [] := List.length_eq_zero_iff.1 h0
    subst this
    cases ao with
    | none => rfl
    | some a => obtain ⟨g, off, c⟩ := a; rfl
  · obtain ⟨g, cap, rfl, _⟩ := own_block h.2 hp
    unfold readC
    apply List.ext_getElem
    · simp
    · intro i h1 h2
      have hc := (h.cellI rfl i h2).1
      simp only [List.getElem_map, List.getElem_range, Nat.zero_add]
      rw [hc]
noncomputable def fixB (A : Aut) (lv : Nat → Bool) (c : List Int) : Nat := if refC A lv c = c then 0 else 1
noncomputable def meaC (A : Aut) (lv : Nat → Bool) (c : List Int) : Nat := 2 * (A.ac.length - (cutF lv (sigC A.nx c) A.ac.length).length) + fixB A lv c
theorem meaC_step (A : Aut) (lv : Nat → Bool) (i : Nat) (h : refC A lv (itR A lv i) ≠ itR A lv i) : meaC A lv (itR A lv (i + 1)) < meaC A lv (itR A lv i) := by
  obtain ⟨h1, h2⟩ := kC_step A lv i
  have h3 := cutF_len lv (sigC A.nx (itR A lv (i + 1))) A.ac.length
  unfold kC at h1 h2
  unfold meaC fixB
  rw [if_neg h]
  by_cases e : refC A lv (itR A lv (i + 1)) = itR A lv (i + 1)
  · rw [if_pos e]; omega
  · rw [if_neg e]
    have : ¬ (cutF lv (sigC A.nx (itR A lv (i + 1))) A.ac.length).length ≤ (cutF lv (sigC A.nx (itR A lv i)) A.ac.length).length := fun k => e (h2 k)
    omega
set_option maxHeartbeats 4000000 in
set_option maxRecDepth 100000 in
theorem classes_any (v : Value) (A : Aut) (f : Nat → Bool) (w : World) (h : AutAt w v A) (hv : ValidA A) (hf : ∀ s, f s = true ↔ LiveP A s) :
    Calls Try.prog 99 #[v] w (OwnOut w (clsA A f)) := by
  have HIN : Hid (∀ W, Since w W → Calls Try.prog 155 #[v] W (OwnOut W (iniC A f))) := fun W hW => ini_any v A f W (h.since hW) hv hf
  have HRF : Hid (∀ u i W, Since w W → IntsAt W u (itR A f i) → Calls Try.prog 156 #[v, u] W (OwnOut W (itR A f (i + 1)))) := fun u i W hW hu => refined_any v u A f (itR A f i) W (h.since hW) hv hu (itR_R hv f i)
  have HLN : Hid (∀ i, (itR A f i).length = A.ac.length) := itR_length A f
  have hn12 := hv.1
  obtain ⟨a, b, rfl, _, ha, hb⟩ := h
  obtain ⟨ao, ca, rfl⟩ := ha.len
  obtain ⟨bo, cb, rfl⟩ := hb.len
  clear ha hb hf hv
  obtain ⟨n, hn⟩ : ∃ n, n = A.ac.length := ⟨_, rfl⟩
  obtain ⟨m, hmm⟩ : ∃ n, n = A.nx.length := ⟨_, rfl⟩
  rw [← hn, ← hmm] at HIN HRF ⊢
  rw [← hn] at HLN hn12
  have HN := Lib.hid hn
  clear hn hmm
  obtain ⟨y, hy⟩ : ∃ y, y = w.alloc (.cells #[.int .i64 A.st, .slice ao n ca, .slice bo m cb] 39) := ⟨_, rfl⟩
  have hs0 : Since w y := by rw [hy]; exact (Since.refl w).alloc _
  have B0 : Hid (Blk y w.heap.size 39 #[.int .i64 A.st, .slice ao n ca, .slice bo m cb]) := by rw [hy]; exact Blk.new rfl _ _
  have HY := Lib.hid hy
  have hyz := hs0.size
  clear hy
  obtain ⟨⟨p0, p1, p2⟩, _⟩ := B0.out.threeA
  go_enter Try.func99, Try.ntmps99
  go_upto_region 1 with fail
  rw [← HY.out]
  go_wp2_with fail
  refine (HIN.out _ hs0).mono ?_
  rintro e w1 ⟨v1, rfl, ho1, hs1⟩
  obtain ⟨lo, lc, rfl⟩ := ho1.len
  have HO1 := Lib.hid (show Own y.heap.size w1 (.slice lo (iniC A f).length lc) (itR A f 0) from ho1)
  clear p0 p1 p2 ho1
  go_wp2
  go_loopw [3] (fun q wr => ∃ (i : Nat) (v1 : Value), v1 = q ∧ Hid (∀ j, j < i → refC A f (itR A f j) ≠ itR A f j) ∧ Hid (Own y.heap.size wr v1 (itR A f i)) ∧ Hid (Since y wr)) (fun q wr => meaC A f (readC wr q))
  case atStart => exact ⟨0, _, rfl, fun j hj => by omega, HO1.out, hs1⟩
  case round =>
    obtain ⟨i, v1, rfl, HJ, HO, HS⟩ := hrel
    obtain ⟨qo, qc, rfl⟩ := HO.out.len
    rw [HLN.out] at HO ⊢
    obtain ⟨⟨p0, p1, p2⟩, _⟩ := (B0.out.since HS.out).threeA
    go_wp2_with fail
    refine (HRF.out _ i _ (hs0.trans HS.out) HO.out.at).mono ?_
    rintro e w2 ⟨v2, rfl, ho2, hs2⟩
    obtain ⟨ro, rc, rfl⟩ := ho2.len
    rw [HLN.out] at ho2 ⊢
    have HO2 := Lib.hid ho2
    have HOK := Lib.hid (HO.out.since hs2)
    have HS2 := Lib.hid (HS.out.trans hs2)
    clear ho2 p0 p1 p2
    go_wp2_with fail
    refine (slicesEqual_ints _ _ (itR A f (i + 1)) (itR A f i) _ HO2.out.at HOK.out.at (by rw [HLN.out]; omega) (by rw [HLN.out]; omega)).mono ?_
    rintro e w3 ⟨rfl, hs3⟩
    have HOK3 := Lib.hid (HOK.out.since hs3)
    have HO3 := Lib.hid (HO2.out.since hs3)
    have HS3 := Lib.hid (HS2.out.trans hs3)
    by_cases he : itR A f (i + 1) = itR A f i
    · have hd : decide (itR A f (i + 1) = itR A f i) = true := decide_eq_true he
      have HE : Hid (clsA A f = itR A f i) := by
        refine clsA_at A f i ?_ HJ.out he
        by_cases hi : i = 0
        · omega
        · have := itR_stop A f (i - 1) (fun j hj => HJ.out j (by omega))
          omega
      rw [hd]
      have HF := Lib.hid (hs0.trans HS3.out)
      clear hd he
      go_wp2
      go_ret
      rw [HE.out]
      exact ⟨_, rfl, HOK3.out.mono hyz, HF.out⟩
    · have hd : decide (itR A f (i + 1) = itR A f i) = false := decide_eq_false he
      have HNE : Hid (refC A f (itR A f i) ≠ itR A f i) := he
      have HM : Hid (meaC A f (itR A f (i + 1)) < meaC A f (itR A f i)) := meaC_step A f i he
      have HR1 : Hid (readC w3 (.slice ro n rc) = itR A f (i + 1)) := by
        have := readC_own (v := .slice ro n rc) (HO3.out.mono (Nat.zero_le _))
        exact this
      have HR0 : Hid (readC wr (.slice qo n qc) = itR A f i) := readC_own HO.out
      rw [hd]
      clear hd he
      go_wp2
      go_roundw
      case rel => exact ⟨i + 1, _, rfl, (fun j hj => by
        by_cases e : j = i
        · subst e; exact HNE.out
        · exact HJ.out j (by omega)), HO3.out.mono HS.out.size, HS3.out⟩
      case measure =>
        show meaC A f (readC w3 (.slice ro n rc)) < meaC A f (readC wr (.slice qo n qc))
        rw [HR1.out, HR0.out]; exact HM.out
end Go.Proofs.Ytmaagihfjldgeaa
